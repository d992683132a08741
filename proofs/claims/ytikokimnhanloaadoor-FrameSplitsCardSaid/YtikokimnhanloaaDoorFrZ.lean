/-
  vestrylaw05.FrameSplits: the walk.
-/
import Derived.Test.YtikokimnhanloaaDoorTurn
import Derived.Deep.CutBlock
namespace Go.Proofs.YtikokimnhanloaaDoor
open Go.ChangeShapes Go.WideShapes Go.ChangeAt Go.RowKit
open errAs (ErrT)
set_option linter.unusedVariables false
attribute [local go_sem] Oper.semAt_some

theorem calls_marks {P : Program} {f : FuncId} {fn : Func} {c : Code} {args : Array Value} {w : World} {R : Ending → World → Prop} (hf : P.funcs[f]? = some fn) (hb : fn.body = some c)
    (h : c.wp P (bodyPostM Fence.wide 6 P fn R) { tmps := args ++ Array.replicate (fn.ntmps - args.size) undef, defers := [] } w) : Calls P f args w R :=
  callsIn_wide.1 (callsIn_of_wp_marks (F := Fence.wide) (n := 6) hf hb trivial (wpIn_wide.2 h) rfl)
theorem ownsRow_form {w : World} {base e size n : Nat} {v : Value} {xs : List Value} (h : w.ownsRow base e size v n xs) : ∃ q c, v = .slice q n c := by
  rcases h.2 with ⟨h, hn⟩ | ⟨g, cap, cur, hv, _⟩
  · exact ⟨none, 0, by rw [hn]; exact h⟩
  · exact ⟨_, _, hv⟩
theorem eqlFn (fn : Fn) (first cp : Array Value) (w : World) : (binOp BinOp.eql 46 (.func fn first cp) .nilFunc).run Tryd.prog w = .ok (.bool false) w := by kernel_rfl
theorem splitF_len : ∀ (n i : Nat) (l : List UInt8), (splitF n i l).1.length ≤ n ∧ (splitF n i l).2.1.length = (splitF n i l).1.length
  | 0, i, l => by simp [splitF]
  | n + 1, i, l => by
    unfold splitF
    split
    · simp
    · split
      · simp
      · obtain ⟨h1, h2⟩ := splitF_len n (i + (readF l).2.1) (l.drop (readF l).2.1)
        simp only [List.length_cons]
        omega
/-- What the law's own cells and its argument are, later on. -/
def SW (w : World) (v : Value) (l : List UInt8) (s : Nat) (W : World) : Prop :=
  Arr W 5 w.heap.size [.int .u8 s] ∧ Arr W 4 (w.heap.size + 1) [.bool false] ∧ ErrT W ∧ Rd W.heap.size W v l ∧ Below w.heap.size w W
theorem SW.later {w W W' : World} {v : Value} {l : List UInt8} {s : Nat} (h : SW w v l s W) (hb : Below W.heap.size W W') : SW w v l s W' :=
  ⟨h.1.later hb, h.2.1.later hb, errT_below h.2.2.1 hb, (h.2.2.2.1.below hb (Nat.le_refl _)).mono hb.size, h.2.2.2.2.trans (hb.mono h.2.2.2.2.size)⟩
theorem RdAll.later {w w' : World} {oa : Option Addr} {ks : List (List UInt8)} (h : RdAll w.heap.size w oa ks) (hb : Below w.heap.size w w') : RdAll w'.heap.size w' oa ks := fun h0 => by
  obtain ⟨b, o, e, hb1, hc⟩ := h h0
  refine ⟨b, o, e, Nat.lt_of_lt_of_le hb1 hb.size, fun i hi => ?_⟩
  obtain ⟨u, hu, hr⟩ := hc i hi
  exact ⟨u, (hb.cell (p := ⟨b, o + i, none⟩) hb1).trans hu, (hr.below hb (Nat.le_refl _)).mono hb.size⟩
/-- The ints of a slice. -/
def RdN (w : World) (qO : Option Addr) (os : List Nat) : Prop := 0 < os.length → ∃ g, qO = some ⟨g, 0, none⟩ ∧ g < w.heap.size ∧ ∀ i, i < os.length → w.cell? ⟨g, i, none⟩ = some (.int .i64 (os.getD i 0 : Nat))
theorem RdN.later {w w' : World} {qO : Option Addr} {os : List Nat} (h : RdN w qO os) (hb : Below w.heap.size w w') : RdN w' qO os := fun h0 => by
  obtain ⟨g, e, hg, hc⟩ := h h0
  exact ⟨g, e, Nat.lt_of_lt_of_le hg hb.size, fun i hi => (hb.cell (p := ⟨g, i, none⟩) hg).trans (hc i hi)⟩
theorem rdN_of {w : World} {base n c : Nat} {qO : Option Addr} {os : List Nat} (h : w.ownsRow base 3 1 (.slice qO n c) os.length (nvs os)) : RdN w qO os := fun h0 => by
  rcases h.2 with ⟨_, hn⟩ | ⟨g, cap, cur, hv, hb, hg, h1, h2, h3, h4⟩
  · omega
  · simp only [Value.slice.injEq] at hv
    obtain ⟨rfl, _, _⟩ := hv
    refine ⟨g, rfl, (Array.getElem?_eq_some_iff.1 hg).1, fun i hi => ?_⟩
    rw [cell_of_row w g i cur _ (0, 0) hg, ← Array.getElem?_toList]
    have h5 : (nvs os)[i]? = some (.int .i64 (os.getD i 0 : Nat)) := by
      simp [nvs, nv, List.getD_eq_getElem?_getD, hi]
    rw [← h5, ← h4, List.getElem?_take, if_pos (by omega)]
/-- .. and the reference's result. -/
def SZ (w : World) (v : Value) (l : List UInt8) (s RB : Nat) (R : List (List UInt8) × List Nat × Nat × Nat) (qP : Option Addr) (cP : Nat) (qO : Option Addr) (cO : Nat) (W : World) : Prop :=
  SW w v l s W ∧ Arr W 42 RB [.slice qP R.1.length cP, .slice qO R.2.1.length cO, .int .i64 R.2.2.1, .int .i64 R.2.2.2] ∧ RdAll W.heap.size W qP R.1 ∧ RdN W qO R.2.1
theorem SZ.later {w W W' : World} {v : Value} {l : List UInt8} {s RB cP cO : Nat} {R : List (List UInt8) × List Nat × Nat × Nat} {qP qO : Option Addr} (h : SZ w v l s RB R qP cP qO cO W) (hb : Below W.heap.size W W') : SZ w v l s RB R qP cP qO cO W' :=
  ⟨h.1.later hb, h.2.1.later hb, h.2.2.1.later hb, h.2.2.2.later hb⟩
set_option maxRecDepth 100000 in
set_option maxHeartbeats 2000000 in
theorem splits_walk {w : World} {v : Value} {l : List UInt8} (s : Nat) (hs : s < 256) (hl : l.length ≤ 2000) (hv : Rd w.heap.size w v l) (he : ErrT w) :
    Calls Tryd.prog 5 #[v, .int .u8 s] w fun e w' => e = .returned (.bool true) ∧ Below w.heap.size w w' := by
  have HE := Lib.hid he
  have HV := Lib.hid hv
  obtain ⟨q, c, rfl, _, _⟩ := hv.form
  have h1 : ¬ (2000 : Int) < l.length := by omega
  clear hv he
  refine calls_marks Tryd.func5 rfl ?_
  simp only [Tryd.ntmps5, List.size_toArray, List.length_cons, List.length_nil, Nat.reduceAdd, Nat.reduceSub, Array.replicate_succ, Array.replicate_zero, List.push_toArray, List.append_toArray, List.nil_append, List.cons_append]
  go_wp2_with fail
  have hb0 : Below w.heap.size w ((w.alloc (.cells #[.int .u8 s] 5)).alloc (.cells #[.bool false] 4)) := ((Below.refl _ _).alloc (Nat.le_refl _) _).alloc (by simp) _
  have HS0 : Hid (SW w (.slice q l.length c) l s ((w.alloc (.cells #[.int .u8 s] 5)).alloc (.cells #[.bool false] 4))) :=
    ⟨(Arr.new' w 5 #[.int .u8 s] _ rfl).alloc _, Arr.new2 w _ 4 #[.bool false] _ rfl, errT_below HE.out hb0, (HV.out.below hb0 (Nat.le_refl _)).mono hb0.size, hb0⟩
  clear hb0 HV HE
  obtain ⟨A, hA⟩ : ∃ A, A = w.heap.size := ⟨_, rfl⟩
  rw [← hA]
  have HA := Lib.hid hA
  clear hA
  generalize (w.alloc (.cells #[.int .u8 s] 5)).alloc (.cells #[.bool false] 4) = w0 at HS0 ⊢
  refine (eawake_any w0 HS0.out.2.2.1).mono ?_
  rintro e w1 ⟨rfl, b1⟩
  have HS1 := Lib.hid (HS0.out.later b1)
  clear b1 HS0
  go_wp2_with fail
  refine (fsplit_any HS1.out.2.2.2.1 (Nat.le_refl _) (by omega) HS1.out.2.2.1).mono ?_
  rintro e w2 ⟨v5, rfl, p2, b2⟩
  have HS2 := Lib.hid (HS1.out.later b2)
  have HP2 := Lib.hid p2
  clear b2 HS1 p2
  obtain ⟨R, hR⟩ : ∃ R, R = splitF l.length 0 l := ⟨_, rfl⟩
  have HRR := Lib.hid hR
  have HRL : Hid (R.2.1.length = R.1.length) := by show _ = _; rw [hR]; exact (splitF_len _ _ _).2
  have HRN : Hid (R.1.length ≤ 2000) := by show _ ≤ _; rw [hR]; have := (splitF_len l.length 0 l).1; omega
  rw [← hR] at HP2 ⊢
  clear hR
  go_wp2_with fail
  refine (rsplit_any HS2.out.2.2.2.1 (Nat.le_refl _) (by omega)).mono ?_
  rintro e w3 ⟨vP, vO, rfl, pP, pO, b3⟩
  rw [← HRR.out] at pP pO ⊢
  have HS3 := Lib.hid (HS2.out.later b3)
  have HP3 := Lib.hid (HP2.out.later b3)
  have HPP := Lib.hid pP
  have HPO := Lib.hid pO
  obtain ⟨qP, cP, rfl⟩ := pP.form
  obtain ⟨qO, cO, rfl⟩ := ownsRow_form pO
  obtain ⟨oaP, caP, hP1, hP2⟩ := pP.rdall b3.size
  obtain ⟨rfl, _, rfl⟩ : qP = oaP ∧ True ∧ cP = caP := by simpa using hP1
  have hb4 : Below w3.heap.size w3 (w3.alloc (.cells #[.slice qP R.1.length cP, .slice qO R.2.1.length cO, .int .i64 R.2.2.1, .int .i64 R.2.2.2] 42)) := (Below.refl _ _).alloc (Nat.le_refl _) _
  have HS4 : Hid (SZ w (.slice q l.length c) l s w3.heap.size R qP cP qO cO (w3.alloc (.cells #[.slice qP R.1.length cP, .slice qO R.2.1.length cO, .int .i64 R.2.2.1, .int .i64 R.2.2.2] 42))) :=
    ⟨HS3.out.later hb4, Arr.new' w3 _ _ _ rfl, hP2.later hb4, (rdN_of pO).later hb4⟩
  have HP4 := Lib.hid (HP3.out.later hb4)
  clear b3 HS2 HP2 pP pO hP1 hP2 hb4 HS3 HP3 HPP HPO
  go_upto_region 5 with (fail)
  generalize w3.alloc (.cells #[.slice qP R.1.length cP, .slice qO R.2.1.length cO, .int .i64 R.2.2.1, .int .i64 R.2.2.2] 42) = w4 at HS4 HP4 ⊢
  generalize w3.heap.size = RB at HS4 ⊢
  go_cut [56] from 28 (fun x W => x = .bool false ∧ Hid (SZ w (.slice q l.length c) l s RB R qP cP qO cO W))
  case first =>
    have HA4 : Hid (∀ W, SZ w (.slice q l.length c) l s RB R qP cP qO cO W → W.cell? ⟨RB, 0, none⟩ = some (.slice qP R.1.length cP) ∧ W.cell? ⟨RB, 2, none⟩ = some (.int .i64 R.2.2.1) ∧ W.cell? ⟨RB, 3, none⟩ = some (.int .i64 R.2.2.2)) :=
      fun W h => ⟨h.2.1.cell 0, h.2.1.cell 2, h.2.1.cell 3⟩
    have HLN : Hid (R.1.length ≤ 1000000) := by show _ ≤ _; rw [HRR.out]; have := (splitF_len l.length 0 l).1; omega
    obtain ⟨h0, h2, h3⟩ := HA4.out w4 HS4.out
    by_cases hc : R.2.2.1 = 0
    · have hcb : ((R.2.2.1 : Int) == 0) = true := by rw [hc]; rfl
      have hcb2 : ((R.2.2.1 : Int) != 0) = false := by rw [hc]; rfl
      rw [if_pos hc] at HP4
      clear hc
      go_wp2_with fail
      refine (told_any R.2.2.1 R.2.2.2 w4 HS4.out.1.2.2.1).mono ?_
      rintro e w5 ⟨rfl, b5⟩
      have HS5 := Lib.hid (HS4.out.later b5)
      obtain ⟨qv, cv, rfl, hrv⟩ := (HP4.out.later b5).rdall
      have HRS := Lib.hid (rsames_any (ca := cv) (cb := cP) hrv HS5.out.2.2.1 (Nat.le_refl _) HLN.out)
      clear b5 HS4 HP4 h0 h2 h3 hrv
      obtain ⟨h0, h2, h3⟩ := HA4.out w5 HS5.out
      go_wp2_with fail
      refine HRS.out.mono ?_
      rintro e w6 ⟨rfl, b6⟩
      have HS6 := Lib.hid (HS5.out.later b6)
      clear b6 HS5 HRS h0 h2 h3
      obtain ⟨h0, h2, h3⟩ := HA4.out w6 HS6.out
      go_wp2_with fail
      go_meet
      case rel => exact ⟨rfl, HS6⟩
    · have hcb : ((R.2.2.1 : Int) == 0) = false := by rw [beq_eq_false_iff_ne]; omega
      have hcb2 : ((R.2.2.1 : Int) != 0) = true := by rw [bne_iff_ne]; omega
      rw [if_neg hc] at HP4
      obtain ⟨qv, cv, rfl⟩ := HP4.out.form
      clear hc
      go_wp2_with fail
      refine (told_any R.2.2.1 R.2.2.2 w4 HS4.out.1.2.2.1).mono ?_
      rintro e w5 ⟨rfl, b5⟩
      have HS5 := Lib.hid (HS4.out.later b5)
      clear b5 HS4 HP4 h0 h2 h3
      obtain ⟨h0, h2, h3⟩ := HA4.out w5 HS5.out
      go_wp2_with fail
      go_meet
      case rel => exact ⟨rfl, HS5⟩
  case rest =>
    obtain ⟨rfl, HS6⟩ := hcut
    clear HS4 HP4
    have hnf := eqlFn
    go_wp2_with fail
    refine (fall_any HS6.out.1.2.2.2.1 (Nat.le_refl _) (by omega)).mono ?_
    rintro e w7 ⟨g, v7, rfl, hg1, hg2, hg3, hg4, b7⟩
    have HS7 := Lib.hid (HS6.out.later b7)
    obtain ⟨q7, c7, rfl, _, _⟩ := hg4.form
    have HSEQ := Lib.hid (all1_reads w7 g q7 c7 l hg2 hg3 (hg4.mono (Nat.le_of_lt hg2)) (by omega) HS7.out.1.2.2.1)
    clear b7 HS6 hg1 hg2 hg3 hg4
    go_wp2_with fail
    have HB8 : Hid (Below w7.heap.size w7 (w7.alloc (.cells #[.int .i64 0] 3))) := (Below.refl _ _).alloc (Nat.le_refl _) _
    have HN8 : Hid (Arr (w7.alloc (.cells #[.int .i64 0] 3)) 3 w7.heap.size [.int .i64 0]) := Arr.new' _ _ _ _ rfl
    generalize w7.alloc (.cells #[.int .i64 0] 3) = w8 at HB8 HN8 ⊢
    generalize hN9 : w7.heap.size = N9 at HN8 ⊢
    have HN9 := Lib.hid hN9
    clear hN9
    have hn9 : w8.cell? ⟨N9, 0, none⟩ = some (.int .i64 0) := HN8.out.cell 0
    have HD8 : Hid (∀ D ∈ ([] : List Nat), w8.heap[D]? = some (.deferred (some []))) := fun D hD => by cases hD
    refine wp_loop_rounds 3 ?_
    rw [rounds_succ]
    go_upto_block 2 with fail
    have HS9 : Hid (SI w7 N9 w8.heap.size 0 [] [] (w8.alloc (.cells #[.int .i64 0] 3)) ∧ N9 < w8.heap.size ∧ w7.heap.size ≤ w8.heap.size ∧ w8.heap.size < (w8.alloc (.cells #[.int .i64 0] 3)).heap.size ∧ ∀ D ∈ [], D < w8.heap.size) :=
      ⟨⟨Arr.new' w8 _ _ _ rfl, HN8.out.alloc _, HB8.out.alloc HB8.out.size _, fun D hD => (Below.heap_alloc _ _ D (Array.getElem?_eq_some_iff.1 (HD8.out D hD)).1).trans (HD8.out D hD)⟩, HN8.out.lt, HB8.out.size, by simp, fun D hD => (Array.getElem?_eq_some_iff.1 (HD8.out D hD)).1⟩
    generalize w8.alloc (.cells #[.int .i64 0] 3) = w90 at HS9 ⊢
    generalize w8.heap.size = T0 at HS9 ⊢
    clear HN8 HB8 HD8 hn9
    have HTU : Hid (∀ pre, Turns w90.heap.size (SI w7 N9 T0 0 [] pre)) := fun pre => SI.turns pre (Nat.le_trans HS9.out.2.2.1 (Nat.le_of_lt HS9.out.2.2.2.1)) (by have := HS9.out.2; omega) (by have := HS9.out.2; omega) (fun D hD => Nat.lt_trans (HS9.out.2.2.2.2 D hD) HS9.out.2.2.2.1)
    refine wp_block_range (gf := 37) (lb := #[.pointer (some ⟨g, 0, none⟩)]) rfl (enters_of Tryd.func37 (by kernel_rfl) rfl) (HSEQ.out.later HS9.out.1.2.2.1) (Nat.le_trans HS9.out.2.2.1 (Nat.le_of_lt HS9.out.2.2.2.1)) (fun pre x => good_turns l _ pre x) (fun _ => rfl)
      (SI w7 N9 T0 0 []) (SIx w7 N9 T0 0 []) (fun _ _ _ h hb => h.later hb) (fun _ _ _ h hb => ⟨h.1, h.2.later hb⟩) HTU.out (fun pre W k o o' hk ho hx h => ⟨h.1, HTU.out pre W k o o' hk ho hx h.2⟩)
      HS9.out.1 (fun x t => (((t.setIfInBounds 66 (.int .i64 x.1)).setIfInBounds 67 x.2.1).setIfInBounds 11 (.int .i64 x.1)).setIfInBounds 12 x.2.1) ?assign0 ?body0 ?done0
    case assign0 =>
      intro lq x W K hK
      dsimp only [outs] at hK ⊢
      simp only [List.setIfInBounds_toArray, List.set_cons_zero, List.set_cons_succ] at hK
      gi_wp2
      exact hK
    case body0 =>
      rintro lq pre x W HI HG hlen
      obtain ⟨i, vx, k⟩ := x
      obtain ⟨g1, g2, g3, g4⟩ := HG
      rw [← HRR.out] at g2 g3 g4
      simp only at g1 g3 g4
      have HZW := Lib.hid (HS7.out.later HI.2.2.1)
      have HII := Lib.hid HI
      obtain ⟨m, hm⟩ : ∃ m, m = pre.length := ⟨_, rfl⟩
      have hm2 : m < R.1.length := by omega
      have hmo : m < R.2.1.length := by rw [HRL.out]; exact hm2
      have ht := HI.1.cell 0
      have hf := HI.1.free 0
      have hp := HI.2.1.cell 0
      rw [← hm] at g2 g3 g4 ht
      obtain ⟨go, rfl, _, hoc⟩ := HZW.out.2.2.2 (by omega)
      have ho := hoc m hmo
      rw [g4] at ho
      obtain ⟨bp, op, rfl, _, hpc⟩ := HZW.out.2.2.1 (by omega)
      obtain ⟨u, hu, hru⟩ := hpc m hm2
      rw [g3] at hru
      have hr0 := HZW.out.2.1.cell 0
      have hr1 := HZW.out.2.1.cell 1
      have hst := HZW.out.1.1.cell 0
      simp only [List.getElem?_cons_zero, List.getElem?_cons_succ] at ht hp hr0 hr1 hst
      have HSA := Lib.hid (same_any g1 hru)
      rw [eqB_refl] at HSA
      obtain ⟨q8, c8, rfl, _, _⟩ := g1.form
      obtain ⟨q9, c9, rfl, _, _⟩ := hru.form
      have hm3 : (m : Int) < R.2.1.length := by omega
      have hm4 : (m : Int) < R.1.length := by omega
      have hm0 : (0 : Int) ≤ m := by omega
      have HM := Lib.hid hm
      clear HI hm g1 g2 g3 g4 hoc hpc hru hm2 hmo hlen
      simp only [List.setIfInBounds_toArray, List.set_cons_zero, List.set_cons_succ]
      gi_wp2
      refine ⟨trivial, (callsIn_round HSA.out).mono ?_⟩
      rintro e w5 ⟨rfl, d5, rfl⟩
      have hb5 := Joins.below_draws W.heap.size W d5
      have HI5 := Lib.hid (HII.out.later hb5)
      have HZ5 := Lib.hid (HZW.out.later hb5)
      have HK5 := Lib.hid (keeps_of_below hb5)
      have HB5 := Lib.hid (hb5.mono HII.out.2.2.1.size)
      clear hb5 ht hf hp ho hu hr0 hr1 hst HSA
      generalize W.drewN d5 = w5 at HI5 HZ5 HK5 HB5 ⊢
      have ht := HI5.out.1.cell 0
      have hf := HI5.out.1.free 0
      have hp := HI5.out.2.1.cell 0
      have hst := HZ5.out.1.1.cell 0
      rw [← HM.out] at ht
      rw [← HA.out] at hst
      simp only [List.getElem?_cons_zero] at ht hp hst
      have hne1 : ¬ N9 = T0 := by have := HS9.out.2; omega
      have hne2 : ¬ A = T0 := by have := HS9.out.2; have := HS7.out.1.1.lt; rw [HA.out]; omega
      have j1 : (m : Int) ≤ 2000 := by have := HRN.out; omega
      by_cases hgt : s < m + 1
      · have hgt1 : (s : Int) < (m : Int) + 1 := by omega
        gi_wp2
        exact ⟨HK5.out.trans (KeepsOthers.setCell _ _ _), rfl, rfl, HI5.out.put hne1 HS9.out.2.2.1 _ HM.out⟩
      · have hgt1 : ¬ (s : Int) < (m : Int) + 1 := by omega
        gi_wp2
        exact ⟨HK5.out.trans (KeepsOthers.setCell _ _ _), HB5.out.setCell (p := ⟨T0, 0, none⟩) HS9.out.2.2.1 _, HI5.out.put hne1 HS9.out.2.2.1 _ HM.out⟩
    case done0 =>
      rintro D0 xs W hDD hxs hK
      obtain ⟨hW, hcnt⟩ : SI w7 N9 T0 0 [] xs W ∧ (0 = 1 → xs.length = R.2.1.length) := by
        rcases hxs with ⟨h1, h2⟩ | ⟨h1, h2⟩
        · exact ⟨h2, fun _ => by rw [HRL.out, HRR.out]; exact h1⟩
        · exact ⟨h2, fun h => by omega⟩
      have HW := Lib.hid hW
      have HCN := Lib.hid hcnt
      have HDM : Hid (W.heap[D0]? = some (.deferred (some [])) ∧ w90.heap.size ≤ D0) := ⟨hK, hDD⟩
      have hp := hW.2.1.cell 0
      simp only [List.getElem?_cons_zero] at hp
      clear hW hcnt hK hDD hxs
      go_wp2_with fail
      have HB8 : Hid (Below w7.heap.size w7 (W.alloc (.cells #[.int .i64 1] 3))) := HW.out.2.2.1.alloc HW.out.2.2.1.size _
      have HN8 : Hid (Arr (W.alloc (.cells #[.int .i64 1] 3)) 3 W.heap.size [.int .i64 (1 : Nat)]) := Arr.new' _ _ _ _ rfl
      have HD8 : Hid (∀ D ∈ [D0], (W.alloc (.cells #[.int .i64 1] 3)).heap[D]? = some (.deferred (some []))) := fun D hD => by
        obtain rfl := List.mem_singleton.1 hD
        exact (Below.heap_alloc _ _ _ (Array.getElem?_eq_some_iff.1 HDM.out.1).1).trans HDM.out.1
      have HE0 : Hid (w7.heap.size ≤ D0) := by show _ ≤ _; have := HDM.out.2; have := HS9.out.2; omega
      clear hp HW HCN HTU HS9
      generalize W.alloc (.cells #[.int .i64 1] 3) = w81 at HB8 HN8 HD8 ⊢
      generalize W.heap.size = N1 at HN8 ⊢
      have hn9 : w81.cell? ⟨N1, 0, none⟩ = some (.int .i64 1) := HN8.out.cell 0
      rw [rounds_succ]
      go_upto_block 2 with fail
      have HS9 : Hid (SI w7 N1 w81.heap.size 1 [D0] [] (w81.alloc (.cells #[.int .i64 0] 3)) ∧ N1 < w81.heap.size ∧ w7.heap.size ≤ w81.heap.size ∧ w81.heap.size < (w81.alloc (.cells #[.int .i64 0] 3)).heap.size ∧ ∀ D ∈ [D0], D < w81.heap.size) :=
        ⟨⟨Arr.new' w81 _ _ _ rfl, HN8.out.alloc _, HB8.out.alloc HB8.out.size _, fun D hD => (Below.heap_alloc _ _ D (Array.getElem?_eq_some_iff.1 (HD8.out D hD)).1).trans (HD8.out D hD)⟩, HN8.out.lt, HB8.out.size, by simp, fun D hD => (Array.getElem?_eq_some_iff.1 (HD8.out D hD)).1⟩
      generalize w81.alloc (.cells #[.int .i64 0] 3) = w91 at HS9 ⊢
      generalize w81.heap.size = T1 at HS9 ⊢
      clear HN8 HB8 HD8 hn9
      have HTU : Hid (∀ pre, Turns w91.heap.size (SI w7 N1 T1 1 [D0] pre)) := fun pre => SI.turns pre (Nat.le_trans HS9.out.2.2.1 (Nat.le_of_lt HS9.out.2.2.2.1)) (by have := HS9.out.2; omega) (by have := HS9.out.2; omega) (fun D hD => Nat.lt_trans (HS9.out.2.2.2.2 D hD) HS9.out.2.2.2.1)
      refine wp_block_range (gf := 37) (lb := #[.pointer (some ⟨g, 0, none⟩)]) rfl (enters_of Tryd.func37 (by kernel_rfl) rfl) (HSEQ.out.later HS9.out.1.2.2.1) (Nat.le_trans HS9.out.2.2.1 (Nat.le_of_lt HS9.out.2.2.2.1)) (fun pre x => good_turns l _ pre x) (fun _ => rfl)
        (SI w7 N1 T1 1 [D0]) (SIx w7 N1 T1 1 [D0]) (fun _ _ _ h hb => h.later hb) (fun _ _ _ h hb => ⟨h.1, h.2.later hb⟩) HTU.out (fun pre W k o o' hk ho hx h => ⟨h.1, HTU.out pre W k o o' hk ho hx h.2⟩)
        HS9.out.1 (fun x t => (((t.setIfInBounds 66 (.int .i64 x.1)).setIfInBounds 67 x.2.1).setIfInBounds 11 (.int .i64 x.1)).setIfInBounds 12 x.2.1) ?assign1 ?body1 ?done1
      case assign1 =>
        intro lq x W K hK
        dsimp only [outs] at hK ⊢
        simp only [List.setIfInBounds_toArray, List.set_cons_zero, List.set_cons_succ] at hK
        gi_wp2
        exact hK
      case body1 =>
        rintro lq pre x W HI HG hlen
        obtain ⟨i, vx, k⟩ := x
        obtain ⟨g1, g2, g3, g4⟩ := HG
        rw [← HRR.out] at g2 g3 g4
        simp only at g1 g3 g4
        have HZW := Lib.hid (HS7.out.later HI.2.2.1)
        have HII := Lib.hid HI
        obtain ⟨m, hm⟩ : ∃ m, m = pre.length := ⟨_, rfl⟩
        have hm2 : m < R.1.length := by omega
        have hmo : m < R.2.1.length := by rw [HRL.out]; exact hm2
        have ht := HI.1.cell 0
        have hf := HI.1.free 0
        have hp := HI.2.1.cell 0
        rw [← hm] at g2 g3 g4 ht
        obtain ⟨go, rfl, _, hoc⟩ := HZW.out.2.2.2 (by omega)
        have ho := hoc m hmo
        rw [g4] at ho
        obtain ⟨bp, op, rfl, _, hpc⟩ := HZW.out.2.2.1 (by omega)
        obtain ⟨u, hu, hru⟩ := hpc m hm2
        rw [g3] at hru
        have hr0 := HZW.out.2.1.cell 0
        have hr1 := HZW.out.2.1.cell 1
        have hst := HZW.out.1.1.cell 0
        simp only [List.getElem?_cons_zero, List.getElem?_cons_succ] at ht hp hr0 hr1 hst
        have HSA := Lib.hid (same_any g1 hru)
        rw [eqB_refl] at HSA
        obtain ⟨q8, c8, rfl, _, _⟩ := g1.form
        obtain ⟨q9, c9, rfl, _, _⟩ := hru.form
        have hm3 : (m : Int) < R.2.1.length := by omega
        have hm4 : (m : Int) < R.1.length := by omega
        have hm0 : (0 : Int) ≤ m := by omega
        have HM := Lib.hid hm
        clear HI hm g1 g2 g3 g4 hoc hpc hru hm2 hmo hlen
        simp only [List.setIfInBounds_toArray, List.set_cons_zero, List.set_cons_succ]
        gi_wp2
        refine ⟨trivial, (callsIn_round HSA.out).mono ?_⟩
        rintro e w5 ⟨rfl, d5, rfl⟩
        have hb5 := Joins.below_draws W.heap.size W d5
        have HI5 := Lib.hid (HII.out.later hb5)
        have HZ5 := Lib.hid (HZW.out.later hb5)
        have HK5 := Lib.hid (keeps_of_below hb5)
        have HB5 := Lib.hid (hb5.mono HII.out.2.2.1.size)
        clear hb5 ht hf hp ho hu hr0 hr1 hst HSA
        generalize W.drewN d5 = w5 at HI5 HZ5 HK5 HB5 ⊢
        have ht := HI5.out.1.cell 0
        have hf := HI5.out.1.free 0
        have hp := HI5.out.2.1.cell 0
        have hst := HZ5.out.1.1.cell 0
        rw [← HM.out] at ht
        rw [← HA.out] at hst
        simp only [List.getElem?_cons_zero] at ht hp hst
        have hne1 : ¬ N1 = T1 := by have := HS9.out.2; omega
        have hne2 : ¬ A = T1 := by have := HS9.out.2; have := HS7.out.1.1.lt; rw [HA.out]; omega
        have j1 : (m : Int) ≤ 2000 := by have := HRN.out; omega
        gi_wp2
        exact ⟨HK5.out.trans (KeepsOthers.setCell _ _ _), HB5.out.setCell (p := ⟨T1, 0, none⟩) HS9.out.2.2.1 _, HI5.out.put hne1 HS9.out.2.2.1 _ HM.out⟩
      case done1 =>
        rintro D1 xs W hDD hxs hK
        obtain ⟨hW, hcnt⟩ : SI w7 N1 T1 1 [D0] xs W ∧ (1 = 1 → xs.length = R.2.1.length) := by
          rcases hxs with ⟨h1, h2⟩ | ⟨h1, h2⟩
          · exact ⟨h2, fun _ => by rw [HRL.out, HRR.out]; exact h1⟩
          · exact ⟨h2, fun h => by omega⟩
        have HW := Lib.hid hW
        have HCN := Lib.hid hcnt
        have HDM : Hid (W.heap[D1]? = some (.deferred (some [])) ∧ w91.heap.size ≤ D1) := ⟨hK, hDD⟩
        have hp := hW.2.1.cell 0
        simp only [List.getElem?_cons_zero] at hp
        obtain ⟨xn, hxn⟩ : ∃ xn, xn = xs.length := ⟨_, rfl⟩
        have ht := hW.1.cell 0
        have hr1 := (HS7.out.later hW.2.2.1).2.1.cell 1
        simp only [List.getElem?_cons_zero, List.getElem?_cons_succ] at ht hr1
        have hl := hcnt rfl
        rw [← hxn] at hl ht
        rw [← hl] at hr1
        clear hxn hl
        clear hW hcnt hK hDD hxs
        have hbn : ((xn : Int) != xn) = false := by simp
        go_wp2_with fail
        have HB8 : Hid (Below w7.heap.size w7 (W.alloc (.cells #[.int .i64 2] 3))) := HW.out.2.2.1.alloc HW.out.2.2.1.size _
        have HN8 : Hid (Arr (W.alloc (.cells #[.int .i64 2] 3)) 3 W.heap.size [.int .i64 (2 : Nat)]) := Arr.new' _ _ _ _ rfl
        have HD8 : Hid (∀ D ∈ [D1, D0], (W.alloc (.cells #[.int .i64 2] 3)).heap[D]? = some (.deferred (some []))) := fun D hD => by
          have h1 : W.heap[D]? = some (.deferred (some [])) := by
            rcases List.mem_cons.1 hD with rfl | h
            · exact HDM.out.1
            · exact HW.out.2.2.2 D h
          exact (Below.heap_alloc _ _ _ (Array.getElem?_eq_some_iff.1 h1).1).trans h1
        have HDN : Hid (D0 ≠ D1) := fun e => by have := HS9.out.2.2.2.2 D0 (by simp); have := HDM.out.2; have := HS9.out.2; omega
        have HD7 : Hid (w7.heap.size ≤ D0 ∧ w7.heap.size ≤ D1) := ⟨HE0.out, by have := HDM.out.2; have := HS9.out.2; omega⟩
        clear hp HW HCN HTU HS9
        generalize W.alloc (.cells #[.int .i64 2] 3) = w82 at HB8 HN8 HD8 ⊢
        generalize W.heap.size = N2 at HN8 ⊢
        have hn9 : w82.cell? ⟨N2, 0, none⟩ = some (.int .i64 2) := HN8.out.cell 0
        rw [rounds_succ]
        have hrc := (HS7.out.later HB8.out).1.2.1.cell 0
        have hfc := (HS7.out.later HB8.out).1.2.1.free 0
        rw [← HA.out] at hrc hfc
        simp only [List.getElem?_cons_zero] at hrc
        have HRC := Lib.hid hrc
        go_wp2_with fail
        refine ⟨by simp, .inl ⟨D1, _, rfl, run_takeDeferred ((Below.heap_setCell w82 ⟨A + 1, 0, none⟩ _ D1 ?_).trans (HD8.out D1 (by simp))), by simp, .inl ⟨D0, _, rfl, run_takeDeferred ((World.putObj_heap_other HDN.out).trans ((Below.heap_setCell w82 ⟨A + 1, 0, none⟩ _ D0 ?_).trans (HD8.out D0 (by simp)))), ?_⟩⟩⟩
        · have := HD7.out.2; have := HS7.out.1.2.1.lt; rw [HA.out]; simp only; omega
        · have := HD7.out.1; have := HS7.out.1.2.1.lt; rw [HA.out]; simp only; omega
        · have hm1 : (w82.setCell ⟨A + 1, 0, none⟩ (.bool true)).heap[D1]? = some (.deferred (some [])) := (Below.heap_setCell w82 ⟨A + 1, 0, none⟩ _ D1 (by have := HD7.out.2; have := HS7.out.1.2.1.lt; rw [HA.out]; simp only; omega)).trans (HD8.out D1 (by simp))
          have hm0 : (w82.setCell ⟨A + 1, 0, none⟩ (.bool true)).heap[D0]? = some (.deferred (some [])) := (Below.heap_setCell w82 ⟨A + 1, 0, none⟩ _ D0 (by have := HD7.out.1; have := HS7.out.1.2.1.lt; rw [HA.out]; simp only; omega)).trans (HD8.out D0 (by simp))
          have hcf := cell_turn (o' := .deferred none) ((World.putObj_heap_other HDN.out).trans hm0) rfl (cell_turn (o' := .deferred none) hm1 rfl (World.cell?_setCell_same w82 ⟨A + 1, 0, none⟩ (.bool true) HRC.out))
          have hsz : A ≤ w7.heap.size := by have := HS7.out.1.2.1.lt; rw [HA.out]; omega
          refine ⟨.bool true, ?_, rfl, ?_⟩
          · simp [results, Tryd.results5, go_sem, hcf]
          · exact (((HS7.out.1.2.2.2.2.trans (HB8.out.mono HS7.out.1.2.2.2.2.size)).setCell (p := ⟨A + 1, 0, none⟩) (by rw [HA.out]; simp) _).trans (below_put _ D1 _ (Nat.le_trans HS7.out.1.2.2.2.2.size HD7.out.2))).trans (below_put _ D0 _ (Nat.le_trans HS7.out.1.2.2.2.2.size HD7.out.1))
end Go.Proofs.YtikokimnhanloaaDoor
