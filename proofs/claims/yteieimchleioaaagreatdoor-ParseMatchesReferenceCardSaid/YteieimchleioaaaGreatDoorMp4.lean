/-
  parse's unit and group.
-/
import Derived.Test.YteieimchleioaaaGreatDoorMp3
import Derived.Test.YteieimchleioaaaGreatDoorMp1
import Derived.Test.YteieimchleioaaaGreatDoorMp0
import Derived.Laws.OwnMore
import Derived.Deep.RegionLaw
import Derived.Lib.Hide
namespace Go.Proofs.YteieimchleioaaaGreatDoor
open Go.ChangeShapes Go.WideShapes Go.ChangeAt Go.RowKit
set_option linter.unusedVariables false

/-- v reads as the expression; all that it leads to is new from B on. -/
def VE (B : Nat) (e : Ex) (w : World) (v : Value) : Prop := RdE (Bt B w.heap.size) w e v
theorem VE.kp {B g : Nat} {e : Ex} {w w' : World} {v : Value} (h : VE B e w v) (hk : Kp g w w') (hg : g < B) : VE B e w' v :=
 (RdE.keep (fun b hb n => World.cell?_of_block (hk.2.2.2.2 b hb.2 (by have := hb.1; omega))) h).imp fun b hb => ⟨hb.1, Nat.lt_of_lt_of_le hb.2 hk.2.2.2.1⟩
theorem VE.low {B B' : Nat} {e : Ex} {w : World} {v : Value} (h : VE B e w v) (hb : B' ≤ B) : VE B' e w v := RdE.imp (fun b hb' => ⟨Nat.le_trans hb hb'.1, hb'.2⟩) h
theorem VE.later {B : Nat} {e : Ex} {w w' : World} {v : Value} (h : VE B e w v) (hb : Below w.heap.size w w') : VE B e w' v := (RdE.below h hb fun b hb => hb.2).imp fun b hb' => ⟨hb'.1, Nat.lt_of_lt_of_le hb'.2 hb.size⟩
theorem VE.leaf (B : Nat) (w : World) (k : Int) (a b : List UInt8) : VE B (.mk k a b []) w (.agg #[.int .i64 k, .string (bstr a), .string (bstr b), .slice none 0 0]) := RdE.of (e := .mk k a b []) (q := none) (c := 0) (Nat.le_refl _) (fun h => absurd h (Nat.lt_irrefl _))
theorem kp_set4 (w : World) (g : Nat) (x0 x1 x2 x3 : Value) : Kp g w ((((w.setCell ⟨g, 0, none⟩ x0).setCell ⟨g, 1, none⟩ x1).setCell ⟨g, 2, none⟩ x2).setCell ⟨g, 3, none⟩ x3) := ((((Kp.of (pb := g) (Below.refl _ _)).set 0 x0).set 1 x1).set 2 x2).set 3 x3
theorem PP.kp {W W' : World} {pb tb c g : Nat} {ts : List Tok} {s : PS} (h : PP W pb tb c ts s) (hk : Kp g W W') (hg : pb < g) (hs : g ≤ W.heap.size) : PP W' pb tb c ts s := h.below (hk.below (Nat.le_refl _) hs) hg
theorem Kp.andThen {pb g : Nat} {W W' W2 : World} (h : Kp pb W W') (hk : Kp g W' W2) (hg : W.heap.size ≤ g) : Kp pb W W2 :=
 ⟨hk.1.trans h.1, hk.2.1.trans h.2.1, hk.2.2.1.trans h.2.2.1, Nat.le_trans h.2.2.2.1 hk.2.2.2.1, fun k hk' hn => (hk.2.2.2.2 k (Nat.lt_of_lt_of_le hk' h.2.2.2.1) (by omega)).trans (h.2.2.2.2 k hk' hn)⟩
theorem stepw_calls {P : Program} {ops : Array Oper} {o : Oper} {a : Act} {w : World} {K : Act → World → Prop} {Q : Exit → Act → World → Prop} {E : Prop} {f : FuncId} {args : Array Value} {C : Ending → World → Prop}
  (hw : Region.wanted o (yielded ops a.tmps) = true) (hrun : (execOp a.eval o).run P w = .ok (.enter f args) w) (hc : Calls P f args w C) (hO : ∀ w', ¬ C .outgrown w') (hP : ∀ ch w', C (.panicked ch) w' → Q (.panic ch) a w')
  (hK : ∀ v w', C (.returned v) w' → K (a.put o.dst v) w') : if Region.wanted o (yielded ops a.tmps) = true then Oper.wp P o a w K Q else E := by
 rw [if_pos hw]
 unfold Oper.wp
 rw [hrun]
 simp only [Oper.upon]
 refine hc.mono fun e w' h => ?_
 cases e with
 | returned v => exact hK v w' h
 | panicked ch => exact hP ch w' h
 | outgrown => exact absurd h (hO w')
theorem QR.grown {α : Type} {pb tb c : Nat} {ts : List Tok} {w : World} {r : PR α} {val : α → World → Value → Prop} (w' : World) : ¬ QR pb tb c ts w r val .outgrown w' := by
 rintro (⟨_, _, _, _, h, _⟩ | ⟨_, _, _, h, _⟩) <;> cases h
theorem QR.ret {α : Type} {pb tb c : Nat} {ts : List Tok} {w : World} {r : PR α} {val : α → World → Value → Prop} {v : Value} {w' : World} (h : QR pb tb c ts w r val (.returned v) w') : ∃ x s', r = .ok x s' ∧ val x w' v ∧ PP w' pb tb c ts s' ∧ Kp pb w w' := by
 rcases h with ⟨x, s', _, h1, h, h2⟩ | ⟨_, _, _, h, _⟩
 ·cases h; exact ⟨x, s', h1, h2⟩
 ·cases h
theorem QR.pan {α : Type} {pb tb c : Nat} {ts : List Tok} {w : World} {r : PR α} {val : α → World → Value → Prop} {ch : List PanicEntry} {w' : World} (h : QR pb tb c ts w r val (.panicked ch) w') : ∃ k i, r = .bad k i ∧ ch = [{ v := flt k (offs ts i), recovered := false }] ∧ Kp pb w w' := by
 rcases h with ⟨_, _, _, _, h, _⟩ | ⟨k, i, h1, h, h2⟩
 ·cases h
 ·cases h; exact ⟨k, i, h1, rfl, h2⟩
def groupW (ts : List Tok) (U : Option (PS → PR Ex)) (s : PS) : PR Ex := match U with
 | none => .bad 7 s.i
 | some U => (U { s with i := s.i + 1, o := s.o + 1 }).then fun e s1 => (wantF ts [41] s1).then fun _ s2 => .ok e { s2 with o := s2.o - 1 }
theorem unitW_group {ts : List Tok} {U : Option (PS → PR Ex)} {s : PS} (h : txt ts s.i = [40]) : unitW ts U s = groupW ts U s := if_pos h
theorem unitW_leaf {ts : List Tok} {U : Option (PS → PR Ex)} {s : PS} (h : ¬ txt ts s.i = [40]) (hn : isName (bstr (txt ts s.i)) = true) (hl : s.l < 32) :
  unitW ts U s = if txt ts (s.i + 1) = [45, 62] then (nameF ts { s with i := s.i + 2, l := s.l + 1 }).then fun r s2 => .ok (.mk 2 (txt ts s.i) r []) s2
   else .ok (.mk 1 [] (txt ts s.i) []) { s with i := s.i + 1, l := s.l + 1 } := by
 unfold unitW
 rw [if_neg h, if_pos hn, if_pos hl]
theorem unitW_many {ts : List Tok} {U : Option (PS → PR Ex)} {s : PS} (h : ¬ txt ts s.i = [40]) (hn : isName (bstr (txt ts s.i)) = true) (hl : ¬ s.l < 32) : unitW ts U s = .bad 15 s.i := by
 unfold unitW
 rw [if_neg h, if_pos hn, if_neg hl]
theorem unitW_no {ts : List Tok} {U : Option (PS → PR Ex)} {s : PS} (h : ¬ txt ts s.i = [40]) (hn : isName (bstr (txt ts s.i)) = false) : unitW ts U s = .bad 6 s.i := by
 unfold unitW
 rw [if_neg h, if_neg (by rw [hn]; simp)]
section
variable {W : World} {pb tb c : Nat} {ts : List Tok} {s : PS}
set_option maxRecDepth 100000 in
set_option maxHeartbeats 2000000 in
theorem unit_any {U : Option (PS → PR Ex)} (ho : OkTs ts) (h : PP W pb tb c ts s) (hi : s.i < ts.length) (HG : txt ts s.i = [40] → ∀ W', PP W' pb tb c ts s → Calls Tryz.prog 104 #[.pointer (some ⟨pb, 0, none⟩)] W' (QR pb tb c ts W' (groupW ts U s) (VE W'.heap.size))) : Calls Tryz.prog 84 #[.pointer (some ⟨pb, 0, none⟩)] W (QR pb tb c ts W (unitW ts U s) (VE W.heap.size)) := by
 have hb0 : Below W.heap.size W (W.alloc (.cells #[.int .i64 0, .string ByteArray.empty, .string ByteArray.empty, .slice none 0 0] 38)) := (Below.refl _ _).alloc (Nat.le_refl _) _
 have HP0 := Lib.hid (h.later hb0)
 have HK0 := Lib.hid (Kp.of (pb := pb) hb0)
 have HA0 : Hid (Arr (W.alloc (.cells #[.int .i64 0, .string ByteArray.empty, .string ByteArray.empty, .slice none 0 0] 38)) 38 W.heap.size [.int .i64 0, .string ByteArray.empty, .string ByteArray.empty, .slice none 0 0]) := Arr.new' _ _ _ _ rfl
 have HIS := Lib.hid (is_any HP0.out hi ⟨#[40]⟩ [40] rfl)
 have HLT : Hid (pb < W.heap.size) := h.1.lt
 have HH := Lib.hid hi
 have HO := Lib.hid ho
 have HG := Lib.hid HG
 obtain ⟨d, hd⟩ : ∃ d, d = decide (txt ts s.i = [40]) := ⟨_, rfl⟩
 have HD := Lib.hid hd
 rw [← hd] at HIS
 clear h hi hb0 ho hd
 go_enter Tryz.func84, Tryz.ntmps84
 go_wp2_with fail
 refine HIS.out.mono ?_
 rintro r w1 ⟨rfl, b1⟩
 have HP1 := Lib.hid (HP0.out.later b1)
 have HK1 := Lib.hid (HK0.out.trans (Kp.of (pb := pb) b1))
 have HA1 := Lib.hid (HA0.out.later b1)
 clear b1 HIS
 cases d with
 | true =>
  have HT := Lib.hid (of_decide_eq_true HD.out.symm)
  have HGC := Lib.hid (HG.out HT.out w1 HP1.out)
  have HE := Lib.hid (unitW_group (U := U) HT.out)
  go_wp2_with fail
  refine HGC.out.mono ?_
  rintro r w2 (⟨e, s2, v, e1, rfl, r2, p2, k2⟩ | ⟨k, i, e1, rfl, k2⟩)
  ·obtain ⟨mk, mv, mn, ms⟩ := e
   have HR2 : Hid (VE w1.heap.size (.mk mk mv mn ms) w2 v) := r2
   obtain ⟨q4, c4, rfl, _, _⟩ := RdE.form r2
   unfold exv at HR2 ⊢
   dsimp only [Ex.kind, Ex.via, Ex.nm, Ex.kids] at HR2 ⊢
   have HA2 := Lib.hid (k2.arr HA1.out (by have := HLT.out; omega))
   have HP2 := Lib.hid p2
   have HK2 := Lib.hid (HK1.out.trans k2)
   have HE2 : Hid (unitW ts U s = .ok (.mk mk mv mn ms) s2) := HE.out.trans e1
   have HLE : Hid (W.heap.size < w1.heap.size) := HA1.out.lt
   have x0 := HA2.out.cell 0
   have x1 := HA2.out.cell 1
   have x2 := HA2.out.cell 2
   have x3 := HA2.out.cell 3
   have y0 := HA2.out.free 0
   have y1 := HA2.out.free 1
   have y2 := HA2.out.free 2
   have y3 := HA2.out.free 3
   simp only [List.getElem?_cons_zero, List.getElem?_cons_succ] at x0 x1 x2 x3
   clear e1 r2 p2 k2 HGC HG
   go_wp2_with fail
   have hk := kp_set4 w2 W.heap.size (.int .i64 mk) (.string (bstr mv)) (.string (bstr mn)) (.slice q4 ms.length c4)
   have hA := HA2.out.set4 (.int .i64 mk) (.string (bstr mv)) (.string (bstr mn)) (.slice q4 ms.length c4)
   exact bodyPost_ret (resE rfl hA rfl) rfl (.inl ⟨_, s2, _, HE2.out, rfl, ((HR2.out.kp hk HLE.out).low (Nat.le_of_lt HLE.out)), HP2.out.kp hk HLT.out HK2.out.2.2.2.1, HK2.out.andThen hk (Nat.le_refl _)⟩)
  ·have HK2 := Lib.hid (HK1.out.trans k2)
   have HE2 : Hid (unitW ts U s = .bad k i) := HE.out.trans e1
   clear e1 k2 HGC HG
   go_wp2_with fail
   exact ⟨rfl, .inr ⟨k, i, HE2.out, rfl, HK2.out⟩⟩
 | false =>
  have HT := Lib.hid (of_decide_eq_false HD.out.symm)
  have HNN := Lib.hid (needName_any HP1.out HH.out)
  clear HG
  go_wp2_with fail
  refine HNN.out.mono ?_
  rintro r w2 ⟨b2, (⟨hn, rfl⟩ | ⟨hn, rfl⟩)⟩
  ·have HP2 := Lib.hid (HP1.out.later b2)
   have HK2 := Lib.hid (HK1.out.trans (Kp.of (pb := pb) b2))
   have HA2 := Lib.hid (HA1.out.later b2)
   have HNM := Lib.hid hn
   have a3 := HP2.out.1.cell 3
   have f3 := HP2.out.1.free 3
   simp only [List.getElem?_cons_zero, List.getElem?_cons_succ] at a3
   clear b2 HNN hn
   by_cases hlt : s.l < 32
   ·have hlt1 : (s.l : Int) < 32 := by omega
    have hz0 : (0 : Int) ≤ s.l := by omega
    have HLF := Lib.hid (unitW_leaf (U := U) HT.out HNM.out hlt)
    have HP3 : Hid (PP (w2.setCell ⟨pb, 3, none⟩ (.int .i64 ((s.l : Int) + 1))) pb tb c ts { s with l := s.l + 1 }) := HP2.out.set (by simp)
    have HK3 := Lib.hid (HK2.out.set 3 (.int .i64 ((s.l : Int) + 1)))
    have HA3 : Hid (Arr (w2.setCell ⟨pb, 3, none⟩ (.int .i64 ((s.l : Int) + 1))) 38 W.heap.size [.int .i64 0, .string ByteArray.empty, .string ByteArray.empty, .slice none 0 0]) := HA2.out.setCell (by have := HLT.out; simp only [ne_eq]; omega) _
    have HN3 := Lib.hid (name_any HP3.out HH.out)
    have hnf : nameF ts { s with l := s.l + 1 } = .ok (txt ts s.i) ⟨s.i + 1, s.o, s.l + 1⟩ := if_pos HNM.out
    rw [hnf] at HN3
    clear hnf hlt
    go_wp2_with fail
    refine (need_t 15).mono ?_
    rintro r w3 ⟨rfl, rfl⟩
    go_wp2_with fail
    refine HN3.out.mono ?_
    rintro r w4 (⟨x, s4, v, e4, rfl, rfl, p4, k4⟩ | ⟨k, i, e4, _⟩)
    ·cases e4
     have HW4 : Hid (W.heap.size < w4.heap.size) := (k4.arr HA3.out (by have := HLT.out; omega)).lt
     have hb5 : Below w4.heap.size w4 (w4.alloc (.cells #[.int .i64 1, .string ⟨#[]⟩, .string (bstr (txt ts s.i)), .slice none 0 0] 38)) := (Below.refl _ _).alloc (Nat.le_refl _) _
     have HP5 := Lib.hid (p4.later hb5)
     have HK4 := Lib.hid (HK3.out.trans k4)
     have HK5 := Lib.hid (HK4.out.trans (Kp.of (pb := pb) hb5))
     have HA5 := Lib.hid ((k4.arr HA3.out (by have := HLT.out; omega)).later hb5)
     have HE5 : Hid (Arr (w4.alloc (.cells #[.int .i64 1, .string ⟨#[]⟩, .string (bstr (txt ts s.i)), .slice none 0 0] 38)) 38 w4.heap.size [.int .i64 1, .string ⟨#[]⟩, .string (bstr (txt ts s.i)), .slice none 0 0]) := Arr.new' _ _ _ _ rfl
     have HS5 : Hid (s.i + 1 < ts.length) := HO.out.step (name_ne HNM.out)
     have HSK := Lib.hid (skip_any HP5.out HS5.out ⟨#[45, 62]⟩ [45, 62] rfl)
     clear p4 k4 HN3 a3 f3 hb5
     go_wp2_with fail
     refine HSK.out.mono ?_
     rintro r w6 ⟨d, hd, rfl, p6, k6⟩
     have HK6 := Lib.hid (HK5.out.trans k6)
     have HA6 := Lib.hid (k6.arr HA5.out (by have := HLT.out; omega))
     have HE6 := Lib.hid (k6.arr HE5.out (by have := HLT.out; have := HW4.out; omega))
     cases d with
     | true =>
      have ht := of_decide_eq_true hd.symm
      have HP6 : Hid (PP w6 pb tb c ts ⟨s.i + 2, s.o, s.l + 1⟩) := p6
      have HS6 : Hid (s.i + 2 < ts.length) := HO.out.step (i := s.i + 1) (by rw [show txt ts (s.i + 1) = _ from ht]; simp)
      have HLT2 := Lib.hid (HLF.out.trans (if_pos ht))
      clear p6 k6 HSK hd ht HP5 HK5 HA5 HE5 HP3 HK3 HA3
      go_upto_region 8 with (fail)
      refine wp_region_held_drew (S := fun _ => True) (by kernel_rfl) trivial (fun hHeld => ?_)
      try simp only [Act.put]
      have hb7 : Below w6.heap.size w6 w6.drew := (Below.refl _ _).drew
      have HP7 := Lib.hid (HP6.out.later hb7)
      have HK7 := Lib.hid (HK6.out.trans (Kp.of (pb := pb) hb7))
      have HA7 := Lib.hid (HA6.out.later hb7)
      have HE7 := Lib.hid (HE6.out.later hb7)
      clear hb7
      generalize w6.drew = w7 at HP7 HK7 HA7 HE7 ⊢
      have HN7 := Lib.hid (name_any HP7.out HS6.out)
      refine wpAnyH_take (i := 0) (oi := ⟨some 29, _, _, _, _, _⟩) (v := .pointer (some ⟨w4.heap.size, 2, none⟩)) rfl (by kernel_rfl) (by kernel_rfl) (by kernel_rfl) (fun _ _ _ h => h) (.inl ⟨by rfl, fun w' hSw => ?_⟩) hHeld ?_
      focus (skip; clear hHeld; go_simp)
      try simp only [Act.put, List.setIfInBounds_toArray, List.set_cons_zero, List.set_cons_succ]
      refine wpAnyH_take (i := 2) (oi := ⟨some 31, _, _, _, _, _⟩) (v := .pointer (some ⟨pb, 0, none⟩)) rfl (by kernel_rfl) (by kernel_rfl) (by kernel_rfl) (fun _ _ _ h => h) (.inl ⟨by rfl, fun w' hSw => ?_⟩) hHeld ?_
      focus (skip; clear hHeld; go_simp)
      try simp only [Act.put, List.setIfInBounds_toArray, List.set_cons_zero, List.set_cons_succ]
      refine wpAnyH_ready (rs := [1, 3]) (by kernel_rfl) (by simp) ?_
      refine AllReadyH.cons (o := ⟨some 30, _, _, _, _, _⟩) rfl (fun K' hK' => ?_) (AllReadyH.cons (o := ⟨some 32, _, _, _, _, _⟩) rfl (fun K' hK' => ?_) AllReadyH.nil)
      ·have x0 := HE7.out.cell 0
       have y0 := HE7.out.free 0
       have x1 := HE7.out.cell 1
       have y1 := HE7.out.free 1
       have x2 := HE7.out.cell 2
       have y2 := HE7.out.free 2
       have x3 := HE7.out.cell 3
       have y3 := HE7.out.free 3
       simp only [List.getElem?_cons_zero, List.getElem?_cons_succ] at x0 x1 x2 x3
       go_simp
       clear x0 y0 x1 y1 x2 y2 x3 y3
       refine hK'.out _ _ trivial (fun _ => ?_)
       clear hK' K'
       try simp only [Act.put, List.setIfInBounds_toArray, List.set_cons_zero, List.set_cons_succ]
       refine wpAnyH_take (i := 4) (oi := ⟨some 33, _, _, _, _, _⟩) (v := .pointer (some ⟨w4.heap.size, 0, none⟩)) rfl (by kernel_rfl) (by kernel_rfl) (by kernel_rfl) (fun _ _ _ h => h) (.inl ⟨by rfl, fun w' hSw => ?_⟩) hHeld ?_
       focus (skip; clear hHeld; go_simp)
       try simp only [Act.put, List.setIfInBounds_toArray, List.set_cons_zero, List.set_cons_succ]
       refine wpAnyH_ready (rs := [3]) (by kernel_rfl) (by simp) ?_
       refine AllReadyH.cons (o := ⟨some 32, _, _, _, _, _⟩) rfl (fun K' hK' => ?_) AllReadyH.nil
       refine stepw_calls (by rfl) ?_ HN7.out (fun w => QR.grown w) ?_ ?_
       focus go_simp
       ·rintro ch w8 hpan
        obtain ⟨k, i, e8, rfl, k8⟩ := hpan.pan
        have HK8 := Lib.hid (HK7.out.trans k8)
        have HE2 : Hid (unitW ts U s = .bad k i) := by
         show _ = _
         rw [HLT2.out, e8]; rfl
        clear e8 k8 hpan
        skip
        exact ⟨rfl, .inr ⟨k, i, HE2.out, rfl, HK8.out⟩⟩
       rintro v w8 hret
       obtain ⟨b, s8, e8, rfl, p8, k8⟩ := hret.ret
       have HP8 := Lib.hid p8
       have HK8 := Lib.hid (HK7.out.trans k8)
       have HA8 := Lib.hid (k8.arr HA7.out (by have := HLT.out; omega))
       have HE8 := Lib.hid (k8.arr HE7.out (by have := HLT.out; have := HW4.out; omega))
       have HE2 : Hid (unitW ts U s = .ok (.mk 2 (txt ts s.i) b []) s8) := by
        show _ = _
        rw [HLT2.out, e8]; rfl
       clear e8 p8 k8 hret
       refine hK'.out _ _ trivial (fun _ => ?_)
       clear hK' K'
       try simp only [Act.put, List.setIfInBounds_toArray, List.set_cons_zero, List.set_cons_succ]
       refine wpAnyH_ready (rs := [5]) (by kernel_rfl) (by simp) ?_
       refine AllReadyH.cons (o := ⟨none, _, _, _, _, _⟩) rfl (fun K' hK' => ?_) AllReadyH.nil
       obtain ⟨x0, y0, x1, y1, x2, y2, x3, y3⟩ := HE8.out.all4
       go_simp
       clear x0 y0 x1 y1 x2 y2 x3 y3
       refine hK'.out _ _ trivial (fun _ => ?_)
       clear hK' K'
       try simp only [Act.put, List.setIfInBounds_toArray, List.set_cons_zero, List.set_cons_succ]
       have HE9 : Hid (Arr (w8.setCell ⟨w4.heap.size, 0, none⟩ (.int .i64 2)) 38 w4.heap.size [.int .i64 2, .string ⟨#[]⟩, .string (bstr (txt ts s.i)), .slice none 0 0]) := HE8.out.set 0 (.int .i64 2)
       refine wpAnyH_take (i := 6) (oi := ⟨some 34, _, _, _, _, _⟩) (v := .pointer (some ⟨w4.heap.size, 1, none⟩)) rfl (by kernel_rfl) (by kernel_rfl) (by kernel_rfl) (fun _ _ _ h => h) (.inl ⟨by rfl, fun w' hSw => ?_⟩) hHeld ?_
       focus (skip; clear hHeld; go_simp)
       try simp only [Act.put, List.setIfInBounds_toArray, List.set_cons_zero, List.set_cons_succ]
       refine wpAnyH_ready (rs := [7]) (by kernel_rfl) (by simp) ?_
       refine AllReadyH.cons (o := ⟨none, _, _, _, _, _⟩) rfl (fun K' hK' => ?_) AllReadyH.nil
       obtain ⟨x0, y0, x1, y1, x2, y2, x3, y3⟩ := HE9.out.all4
       go_simp
       clear x0 y0 x1 y1 x2 y2 x3 y3
       refine hK'.out _ _ trivial (fun _ => ?_)
       clear hK' K'
       try simp only [Act.put, List.setIfInBounds_toArray, List.set_cons_zero, List.set_cons_succ]
       have HE10 : Hid (Arr ((w8.setCell ⟨w4.heap.size, 0, none⟩ (.int .i64 2)).setCell ⟨w4.heap.size, 1, none⟩ (.string (bstr (txt ts s.i)))) 38 w4.heap.size [.int .i64 2, .string (bstr (txt ts s.i)), .string (bstr (txt ts s.i)), .slice none 0 0]) := HE9.out.set 1 (.string (bstr (txt ts s.i)))
       refine wpAnyH_take (i := 8) (oi := ⟨some 35, _, _, _, _, _⟩) (v := .pointer (some ⟨w4.heap.size, 2, none⟩)) rfl (by kernel_rfl) (by kernel_rfl) (by kernel_rfl) (fun _ _ _ h => h) (.inl ⟨by rfl, fun w' hSw => ?_⟩) hHeld ?_
       focus (skip; clear hHeld; go_simp)
       try simp only [Act.put, List.setIfInBounds_toArray, List.set_cons_zero, List.set_cons_succ]
       refine wpAnyH_ready (rs := [9]) (by kernel_rfl) (by simp) ?_
       refine AllReadyH.cons (o := ⟨none, _, _, _, _, _⟩) rfl (fun K' hK' => ?_) AllReadyH.nil
       obtain ⟨x0, y0, x1, y1, x2, y2, x3, y3⟩ := HE10.out.all4
       go_simp
       clear x0 y0 x1 y1 x2 y2 x3 y3
       refine hK'.out _ _ trivial (fun _ => ?_)
       clear hK' K'
       try simp only [Act.put, List.setIfInBounds_toArray, List.set_cons_zero, List.set_cons_succ]
       have HE11 : Hid (Arr (((w8.setCell ⟨w4.heap.size, 0, none⟩ (.int .i64 2)).setCell ⟨w4.heap.size, 1, none⟩ (.string (bstr (txt ts s.i)))).setCell ⟨w4.heap.size, 2, none⟩ (.string (bstr b))) 38 w4.heap.size [.int .i64 2, .string (bstr (txt ts s.i)), .string (bstr b), .slice none 0 0]) := HE10.out.set 2 (.string (bstr b))
       refine wpAnyH_done (by kernel_rfl) ?_ _
       have hk := (((Kp.of (pb := w4.heap.size) (Below.refl w8.heap.size w8)).set 0 (.int .i64 2)).set 1 (.string (bstr (txt ts s.i)))).set 2 (.string (bstr b))
       have HP11 := Lib.hid (HP8.out.kp hk (Nat.lt_of_lt_of_le HLT.out HK4.out.2.2.2.1) (Nat.le_trans (Nat.le_succ _) (show w4.heap.size + 1 ≤ w8.heap.size from HE8.out.lt)))
       have HK11 := Lib.hid (HK8.out.andThen hk HK4.out.2.2.2.1)
       have HA11 := Lib.hid (hk.arr HA8.out (by have := HW4.out; omega))
       clear hk HE9 HE10
       generalize ((w8.setCell ⟨w4.heap.size, 0, none⟩ (.int .i64 2)).setCell ⟨w4.heap.size, 1, none⟩ (.string (bstr (txt ts s.i)))).setCell ⟨w4.heap.size, 2, none⟩ (.string (bstr b)) = w11 at HE11 HP11 HK11 HA11 ⊢
       obtain ⟨x0, y0, x1, y1, x2, y2, x3, y3⟩ := HE11.out.all4
       obtain ⟨p0, q0, p1, q1, p2, q2, p3, q3⟩ := HA11.out.all4
       go_wp2_with fail
       have hk := kp_set4 w11 W.heap.size (.int .i64 2) (.string (bstr (txt ts s.i))) (.string (bstr b)) (.slice none 0 0)
       have hA := HA11.out.set4 (.int .i64 2) (.string (bstr (txt ts s.i))) (.string (bstr b)) (.slice none 0 0)
       exact bodyPost_ret (resE rfl hA rfl) rfl (.inl ⟨_, _, _, HE2.out, rfl, VE.leaf _ _ 2 (txt ts s.i) b, HP11.out.kp hk HLT.out HK11.out.2.2.2.1, HK11.out.andThen hk (Nat.le_refl _)⟩)
      ·refine stepw_calls (by rfl) ?_ HN7.out (fun w => QR.grown w) ?_ ?_
       focus go_simp
       ·rintro ch w8 hpan
        obtain ⟨k, i, e8, rfl, k8⟩ := hpan.pan
        have HK8 := Lib.hid (HK7.out.trans k8)
        have HE2 : Hid (unitW ts U s = .bad k i) := by
         show _ = _
         rw [HLT2.out, e8]; rfl
        clear e8 k8 hpan
        skip
        exact ⟨rfl, .inr ⟨k, i, HE2.out, rfl, HK8.out⟩⟩
       rintro v w8 hret
       obtain ⟨b, s8, e8, rfl, p8, k8⟩ := hret.ret
       have HP8 := Lib.hid p8
       have HK8 := Lib.hid (HK7.out.trans k8)
       have HA8 := Lib.hid (k8.arr HA7.out (by have := HLT.out; omega))
       have HE8 := Lib.hid (k8.arr HE7.out (by have := HLT.out; have := HW4.out; omega))
       have HE2 : Hid (unitW ts U s = .ok (.mk 2 (txt ts s.i) b []) s8) := by
        show _ = _
        rw [HLT2.out, e8]; rfl
       clear e8 p8 k8 hret
       refine hK'.out _ _ trivial (fun _ => ?_)
       clear hK' K'
       try simp only [Act.put, List.setIfInBounds_toArray, List.set_cons_zero, List.set_cons_succ]
       refine wpAnyH_ready (rs := [1]) (by kernel_rfl) (by simp) ?_
       refine AllReadyH.cons (o := ⟨some 30, _, _, _, _, _⟩) rfl (fun K' hK' => ?_) AllReadyH.nil
       obtain ⟨x0, y0, x1, y1, x2, y2, x3, y3⟩ := HE8.out.all4
       go_simp
       clear x0 y0 x1 y1 x2 y2 x3 y3
       refine hK'.out _ _ trivial (fun _ => ?_)
       clear hK' K'
       try simp only [Act.put, List.setIfInBounds_toArray, List.set_cons_zero, List.set_cons_succ]
       refine wpAnyH_take (i := 4) (oi := ⟨some 33, _, _, _, _, _⟩) (v := .pointer (some ⟨w4.heap.size, 0, none⟩)) rfl (by kernel_rfl) (by kernel_rfl) (by kernel_rfl) (fun _ _ _ h => h) (.inl ⟨by rfl, fun w' hSw => ?_⟩) hHeld ?_
       focus (skip; clear hHeld; go_simp)
       try simp only [Act.put, List.setIfInBounds_toArray, List.set_cons_zero, List.set_cons_succ]
       refine wpAnyH_ready (rs := [5]) (by kernel_rfl) (by simp) ?_
       refine AllReadyH.cons (o := ⟨none, _, _, _, _, _⟩) rfl (fun K' hK' => ?_) AllReadyH.nil
       obtain ⟨x0, y0, x1, y1, x2, y2, x3, y3⟩ := HE8.out.all4
       go_simp
       clear x0 y0 x1 y1 x2 y2 x3 y3
       refine hK'.out _ _ trivial (fun _ => ?_)
       clear hK' K'
       try simp only [Act.put, List.setIfInBounds_toArray, List.set_cons_zero, List.set_cons_succ]
       have HE9 : Hid (Arr (w8.setCell ⟨w4.heap.size, 0, none⟩ (.int .i64 2)) 38 w4.heap.size [.int .i64 2, .string ⟨#[]⟩, .string (bstr (txt ts s.i)), .slice none 0 0]) := HE8.out.set 0 (.int .i64 2)
       refine wpAnyH_take (i := 6) (oi := ⟨some 34, _, _, _, _, _⟩) (v := .pointer (some ⟨w4.heap.size, 1, none⟩)) rfl (by kernel_rfl) (by kernel_rfl) (by kernel_rfl) (fun _ _ _ h => h) (.inl ⟨by rfl, fun w' hSw => ?_⟩) hHeld ?_
       focus (skip; clear hHeld; go_simp)
       try simp only [Act.put, List.setIfInBounds_toArray, List.set_cons_zero, List.set_cons_succ]
       refine wpAnyH_ready (rs := [7]) (by kernel_rfl) (by simp) ?_
       refine AllReadyH.cons (o := ⟨none, _, _, _, _, _⟩) rfl (fun K' hK' => ?_) AllReadyH.nil
       obtain ⟨x0, y0, x1, y1, x2, y2, x3, y3⟩ := HE9.out.all4
       go_simp
       clear x0 y0 x1 y1 x2 y2 x3 y3
       refine hK'.out _ _ trivial (fun _ => ?_)
       clear hK' K'
       try simp only [Act.put, List.setIfInBounds_toArray, List.set_cons_zero, List.set_cons_succ]
       have HE10 : Hid (Arr ((w8.setCell ⟨w4.heap.size, 0, none⟩ (.int .i64 2)).setCell ⟨w4.heap.size, 1, none⟩ (.string (bstr (txt ts s.i)))) 38 w4.heap.size [.int .i64 2, .string (bstr (txt ts s.i)), .string (bstr (txt ts s.i)), .slice none 0 0]) := HE9.out.set 1 (.string (bstr (txt ts s.i)))
       refine wpAnyH_take (i := 8) (oi := ⟨some 35, _, _, _, _, _⟩) (v := .pointer (some ⟨w4.heap.size, 2, none⟩)) rfl (by kernel_rfl) (by kernel_rfl) (by kernel_rfl) (fun _ _ _ h => h) (.inl ⟨by rfl, fun w' hSw => ?_⟩) hHeld ?_
       focus (skip; clear hHeld; go_simp)
       try simp only [Act.put, List.setIfInBounds_toArray, List.set_cons_zero, List.set_cons_succ]
       refine wpAnyH_ready (rs := [9]) (by kernel_rfl) (by simp) ?_
       refine AllReadyH.cons (o := ⟨none, _, _, _, _, _⟩) rfl (fun K' hK' => ?_) AllReadyH.nil
       obtain ⟨x0, y0, x1, y1, x2, y2, x3, y3⟩ := HE10.out.all4
       go_simp
       clear x0 y0 x1 y1 x2 y2 x3 y3
       refine hK'.out _ _ trivial (fun _ => ?_)
       clear hK' K'
       try simp only [Act.put, List.setIfInBounds_toArray, List.set_cons_zero, List.set_cons_succ]
       have HE11 : Hid (Arr (((w8.setCell ⟨w4.heap.size, 0, none⟩ (.int .i64 2)).setCell ⟨w4.heap.size, 1, none⟩ (.string (bstr (txt ts s.i)))).setCell ⟨w4.heap.size, 2, none⟩ (.string (bstr b))) 38 w4.heap.size [.int .i64 2, .string (bstr (txt ts s.i)), .string (bstr b), .slice none 0 0]) := HE10.out.set 2 (.string (bstr b))
       refine wpAnyH_done (by kernel_rfl) ?_ _
       have hk := (((Kp.of (pb := w4.heap.size) (Below.refl w8.heap.size w8)).set 0 (.int .i64 2)).set 1 (.string (bstr (txt ts s.i)))).set 2 (.string (bstr b))
       have HP11 := Lib.hid (HP8.out.kp hk (Nat.lt_of_lt_of_le HLT.out HK4.out.2.2.2.1) (Nat.le_trans (Nat.le_succ _) (show w4.heap.size + 1 ≤ w8.heap.size from HE8.out.lt)))
       have HK11 := Lib.hid (HK8.out.andThen hk HK4.out.2.2.2.1)
       have HA11 := Lib.hid (hk.arr HA8.out (by have := HW4.out; omega))
       clear hk HE9 HE10
       generalize ((w8.setCell ⟨w4.heap.size, 0, none⟩ (.int .i64 2)).setCell ⟨w4.heap.size, 1, none⟩ (.string (bstr (txt ts s.i)))).setCell ⟨w4.heap.size, 2, none⟩ (.string (bstr b)) = w11 at HE11 HP11 HK11 HA11 ⊢
       obtain ⟨x0, y0, x1, y1, x2, y2, x3, y3⟩ := HE11.out.all4
       obtain ⟨p0, q0, p1, q1, p2, q2, p3, q3⟩ := HA11.out.all4
       go_wp2_with fail
       have hk := kp_set4 w11 W.heap.size (.int .i64 2) (.string (bstr (txt ts s.i))) (.string (bstr b)) (.slice none 0 0)
       have hA := HA11.out.set4 (.int .i64 2) (.string (bstr (txt ts s.i))) (.string (bstr b)) (.slice none 0 0)
       exact bodyPost_ret (resE rfl hA rfl) rfl (.inl ⟨_, _, _, HE2.out, rfl, VE.leaf _ _ 2 (txt ts s.i) b, HP11.out.kp hk HLT.out HK11.out.2.2.2.1, HK11.out.andThen hk (Nat.le_refl _)⟩)
     | false =>
      have HP6 : Hid (PP w6 pb tb c ts ⟨s.i + 1, s.o, s.l + 1⟩) := p6
      have HLT2 := Lib.hid (HLF.out.trans (if_neg (of_decide_eq_false hd.symm)))
      clear p6 k6 HSK hd HP5 HK5 HA5 HE5 HP3 HK3 HA3
      obtain ⟨x0, y0, x1, y1, x2, y2, x3, y3⟩ := HE6.out.all4
      obtain ⟨p0, q0, p1, q1, p2, q2, p3, q3⟩ := HA6.out.all4
      go_wp2_with fail
      have hk := kp_set4 w6 W.heap.size (.int .i64 1) (.string ⟨#[]⟩) (.string (bstr (txt ts s.i))) (.slice none 0 0)
      have hA := HA6.out.set4 (.int .i64 1) (.string ⟨#[]⟩) (.string (bstr (txt ts s.i))) (.slice none 0 0)
      exact bodyPost_ret (resE rfl hA rfl) rfl (.inl ⟨_, _, _, HLT2.out, rfl, VE.leaf _ _ 1 [] (txt ts s.i), HP6.out.kp hk HLT.out HK6.out.2.2.2.1, HK6.out.andThen hk (Nat.le_refl _)⟩)
    ·cases e4
   ·have hlt1 : ¬ (s.l : Int) < 32 := by omega
    have HLF := Lib.hid (unitW_many (U := U) HT.out HNM.out hlt)
    go_wp2_with fail
    rw [show decide ((s.l : Int) < 32) = false from decide_eq_false (by omega)]
    refine (need_f HP2.out HH.out 15).mono ?_
    rintro r w4 ⟨rfl, b4⟩
    have HK5 := Lib.hid (HK2.out.trans (Kp.of (pb := pb) b4))
    clear b4
    go_wp2_with fail
    exact ⟨rfl, .inr ⟨15, s.i, HLF.out, rfl, HK5.out⟩⟩
  ·have HK2 := Lib.hid (HK1.out.trans (Kp.of (pb := pb) b2))
   have HLF := Lib.hid (unitW_no (U := U) HT.out hn)
   clear b2 HNN hn
   go_wp2_with fail
   exact ⟨rfl, .inr ⟨6, s.i, HLF.out, rfl, HK2.out⟩⟩
end
end Go.Proofs.YteieimchleioaaaGreatDoor
/-
  Rows of the call's own whose elements lead to memory: appended to while other blocks (a call's, a box) are written. For any element that tells how it is read.
-/
namespace Go.Proofs.YteieimchleioaaaGreatDoor
open Go.ChangeShapes Go.WideShapes Go.ChangeAt Go.RowKit
set_option linter.unusedVariables false

/-- How an element of a row lies in cells. -/
structure Kd (α : Type) where
  sty : TypeId
  ty : TypeId
  z : Value
  size : Nat
  bytes : Nat
  und : Tryz.prog.underlying sty = some (.slice ty)
  info : ∃ i, Tryz.prog.info? ty = some i ∧ i.zero = some z ∧ i.size = size ∧ i.bytes = bytes
  zs : z.cells.size = size
  pos : 0 < size
  small : bytes ≤ 1000
  rd : (Nat → Prop) → World → α → List Value → Prop
  len : ∀ {P w x cs}, rd P w x cs → cs.length = size
  ones : ∀ {P w x cs}, rd P w x cs → ∀ u ∈ cs, u.oneCell' = true
  keep : ∀ {P w w' x cs}, (∀ b, P b → ∀ n, w'.cell? ⟨b, n, none⟩ = w.cell? ⟨b, n, none⟩) → rd P w x cs → rd P w' x cs
  imp : ∀ {P Q w x cs}, (∀ b, P b → Q b) → rd P w x cs → rd Q w x cs
def CellsK {α : Type} (K : Kd α) (P : Nat → Prop) (w : World) : List α → List Value → Prop
  | [], cs => cs = []
  | x :: r, cs => ∃ a b, cs = a ++ b ∧ K.rd P w x a ∧ CellsK K P w r b
variable {α : Type} {K : Kd α}
theorem CellsK.keep {P : Nat → Prop} {w w' : World} (hk : ∀ b, P b → ∀ n, w'.cell? ⟨b, n, none⟩ = w.cell? ⟨b, n, none⟩) : ∀ {xs : List α} {cs : List Value}, CellsK K P w xs cs → CellsK K P w' xs cs
  | [], _, h => h
  | x :: r, _, ⟨a, b, e, h1, h2⟩ => ⟨a, b, e, K.keep hk h1, CellsK.keep hk h2⟩
theorem CellsK.imp {P Q : Nat → Prop} {w : World} (hPQ : ∀ b, P b → Q b) : ∀ {xs : List α} {cs : List Value}, CellsK K P w xs cs → CellsK K Q w xs cs
  | [], _, h => h
  | x :: r, _, ⟨a, b, e, h1, h2⟩ => ⟨a, b, e, K.imp hPQ h1, CellsK.imp hPQ h2⟩
theorem CellsK.snoc {P : Nat → Prop} {w : World} {x : α} {c : List Value} (hx : K.rd P w x c) : ∀ {xs : List α} {cs : List Value}, CellsK K P w xs cs → CellsK K P w (xs ++ [x]) (cs ++ c)
  | [], _, h => by
    obtain rfl : _ = [] := h
    exact ⟨c, [], by simp, hx, rfl⟩
  | y :: r, _, ⟨a, b, e, h1, h2⟩ => ⟨a, b ++ c, by rw [e, List.append_assoc], h1, CellsK.snoc hx h2⟩
/-- The blocks of what lies in a row: the row's own and those that are written apart. -/
def SubX (base : Nat) (X : Nat → Prop) (w : World) (v : Value) : Nat → Prop := fun b => base ≤ b ∧ b < w.heap.size ∧ some b ≠ v.ownBlock ∧ ¬ X b
/-- v is a slice of the call's own, from base on, of the elements xs; the blocks X are none of theirs. -/
def PRow (K : Kd α) (base : Nat) (X : Nat → Prop) (w : World) (v : Value) (xs : List α) : Prop := ∃ cs, w.ownsRow base K.ty K.size v xs.length cs ∧ CellsK K (SubX base X w v) w xs cs ∧ ∀ b, v.ownBlock = some b → ¬ X b
variable {base : Nat} {X : Nat → Prop} {w w' : World} {v : Value} {xs : List α}
theorem PRow.nil (K : Kd α) (base : Nat) (X : Nat → Prop) (w : World) : PRow K base X w (.slice none 0 0) [] := ⟨[], World.ownsRow_nil _ _ _ _, rfl, fun b h => by cases h⟩
theorem PRow.form (h : PRow K base X w v xs) : ∃ q c, v = .slice q xs.length c := by
  obtain ⟨cs, h1, _⟩ := h
  rcases h1.2 with ⟨h, hn⟩ | ⟨g, cap, cur, hv, _⟩
  · exact ⟨none, 0, by rw [hn]; exact h⟩
  · exact ⟨_, _, hv⟩
/-- A world in which other blocks alone have turned. -/
theorem PRow.turn (h : PRow K base X w v xs) (hs : w.heap.size ≤ w'.heap.size) (hk : ∀ b, base ≤ b → b < w.heap.size → ¬ X b → w'.heap[b]? = w.heap[b]?) : PRow K base X w' v xs := by
  obtain ⟨cs, h1, h2, h3⟩ := h
  refine ⟨cs, ⟨h1.1, ?_⟩, (h2.keep fun b hb n => World.cell?_of_block (hk b hb.1 hb.2.1 hb.2.2.2)).imp fun b hb => ⟨hb.1, Nat.lt_of_lt_of_le hb.2.1 hs, hb.2.2⟩, h3⟩
  rcases h1.2 with h | ⟨g, cap, cur, rfl, h0, hg, r⟩
  · exact .inl h
  · exact .inr ⟨g, cap, cur, rfl, h0, (hk g h0 (Array.getElem?_eq_some_iff.1 hg).1 (h3 g rfl)).trans hg, r⟩
theorem PRow.later (h : PRow K base X w v xs) (hb : Below w.heap.size w w') : PRow K base X w' v xs := h.turn hb.size fun b _ hl _ => hb.block b hl
theorem PRow.box (h : PRow K base X w v xs) {g : Nat} (hg : g < base ∨ X g) (i : Nat) (u : Value) : PRow K base X (w.setCell ⟨g, i, none⟩ u) v xs :=
  h.turn (by simp [World.setCell]) fun b h1 _ h2 => Below.heap_setCell w ⟨g, i, none⟩ u b (fun e => by have e' : b = g := e; subst e'; rcases hg with hg | hg; omega; exact h2 hg)
/-- Blocks that are none of theirs may be named anew. -/
theorem PRow.wk (h : PRow K base X w v xs) {Y : Nat → Prop} (hY : ∀ b, base ≤ b → b < w.heap.size → Y b → X b) : PRow K base Y w v xs := by
  obtain ⟨cs, h1, h2, h3⟩ := h
  refine ⟨cs, h1, h2.imp fun b hb => ⟨hb.1, hb.2.1, hb.2.2.1, fun h => hb.2.2.2 (hY b hb.1 hb.2.1 h)⟩, fun b hb h => h3 b hb (hY b (h1.lt b hb).1 (h1.lt b hb).2 h)⟩
theorem PRow.low (h : PRow K base X w v xs) {b0 : Nat} (hb : b0 ≤ base) : PRow K b0 (fun b => X b ∨ b < base) w v xs := by
  obtain ⟨cs, h1, h2, h3⟩ := h
  refine ⟨cs, ⟨h1.1, ?_⟩, h2.imp fun b hb' => ⟨Nat.le_trans hb hb'.1, hb'.2.1, hb'.2.2.1, fun h => h.elim hb'.2.2.2 (fun h => absurd hb'.1 (by omega))⟩, fun b hb' h => h.elim (h3 b hb') (fun h => absurd (h1.lt b hb').1 (by omega))⟩
  rcases h1.2 with h | ⟨g, cap, cur, rfl, h0, r⟩
  · exact .inl h
  · exact .inr ⟨g, cap, cur, rfl, Nat.le_trans hb h0, r⟩
/-- One element's row, as a literal makes it. -/
theorem PRow.lit {x : α} {cs : List Value} (hb : base ≤ w.heap.size) (hX : ∀ b, X b → b < w.heap.size) (hr : K.rd (fun b => base ≤ b ∧ b < w.heap.size ∧ ¬ X b) w x cs) : PRow K base X (w.alloc (.cells cs.toArray K.ty)) (.slice (some ⟨w.heap.size, 0, none⟩) 1 1) [x] := by
  have h1 := World.ownsRow_lit (base := base) (e := K.ty) (size := K.size) w cs.toArray 1 hb (by decide) (by simp [K.len hr])
  refine ⟨cs, h1, ⟨cs, [], by simp, ?_, rfl⟩, fun b hb' h => by cases hb'; exact absurd (hX _ h) (Nat.lt_irrefl _)⟩
  refine K.imp (fun b hb' => ⟨hb'.1, by simp; omega, fun e => by cases e; exact absurd hb'.2.1 (Nat.lt_irrefl _), hb'.2.2⟩) (K.keep (fun b hb' n => World.cell?_of_block (Below.heap_alloc w _ b hb'.2.1)) hr)
theorem PRow.app_run (h : PRow K base X w v xs) {n : Nat} {x : α} {cs : List Value} (hc : Arr w K.ty n cs) (hr : K.rd (SubX base X w v) w x cs) (hlen : xs.length + 1 ≤ 200000) (hbase : base ≤ w.heap.size) (hX : ∀ b, X b → b < w.heap.size) (ty : TypeId) :
    ∃ v' w', (Builtin.append_ #[K.sty, K.sty] ty #[v, .slice (some ⟨n, 0, none⟩) 1 1]).run Tryz.prog w = .ok v' w' ∧ PRow K base X w' v' (xs ++ [x]) ∧ w.grownBy w' v.ownBlock ∧ ∀ k, v.ownBlock = some k → base ≤ k ∧ ¬ X k := by
  obtain ⟨i0, hi, hz0, hz1, hz2⟩ := K.info
  obtain ⟨es, h1, h2, h3⟩ := h
  have hsm := K.small
  obtain ⟨v', w', hrun, r1, r2, _, r4⟩ := run_append_own_at (P := Tryz.prog) w base K.sty ty K.ty i0 K.z K.size K.bytes K.und hi hz0 hz1 hz2 K.zs K.pos v xs.length es h1 ⟨n, 0, none⟩ 1 1 cs (by rw [K.len hr, Nat.one_mul])
    (fun j u hu => by
      have := hc.cell j
      rw [hu] at this
      cases j <;> simpa [Addr.add] using this) (K.ones hr) (by unfold maxLen; omega) (Nat.le_trans (Nat.mul_le_mul hlen hsm) (by decide)) hbase
  refine ⟨v', w', hrun, ⟨es ++ cs, by rw [List.length_append]; exact r1, ?_, ?_⟩, r2, fun k hk => ⟨(h1.lt k hk).1, h3 k hk⟩⟩
  · have hk : ∀ b, SubX base X w v b → ∀ m, w'.cell? ⟨b, m, none⟩ = w.cell? ⟨b, m, none⟩ := fun b hb m => World.cell?_of_block (r2.block b hb.2.1 hb.2.2.1)
    have hS : ∀ b, SubX base X w v b → SubX base X w' v' b := fun b hb => ⟨hb.1, Nat.lt_of_lt_of_le hb.2.1 r2.size, by
      rcases r4 with r4 | r4
      · rw [r4]; exact hb.2.2.1
      · rw [r4]; intro e; have := Option.some.inj e; have := hb.2.1; omega, hb.2.2.2⟩
    exact CellsK.snoc (K.imp hS (K.keep hk hr)) ((h2.keep hk).imp hS)
  · intro b hb
    rcases r4 with r4 | r4
    · exact h3 b (r4 ▸ hb)
    · rw [r4] at hb; cases hb; exact fun h => absurd (hX _ h) (Nat.lt_irrefl _)
theorem app_row {ops : Array Oper} {rest : List Oper} {o : Oper} {a : Act} {Q : Exit → Act → World → Prop} (hgd : o.guard = none) (s y : Operand) (ho : o.op = .call { callee := .builtin .append, args := #[s, y], argTypes := #[K.sty, K.sty] })
    {n : Nat} {x : α} {cs : List Value} (hs : a.eval s = v) (h : PRow K base X w v xs) (hx : a.eval y = .slice (some ⟨n, 0, none⟩) 1 1) (hc : Arr w K.ty n cs) (hr : K.rd (SubX base X w v) w x cs) (hlen : xs.length + 1 ≤ 200000) (hbase : base ≤ w.heap.size) (hX : ∀ b, X b → b < w.heap.size)
    (hK : ∀ v' w', PRow K base X w' v' (xs ++ [x]) → w.grownBy w' v.ownBlock → (∀ k, v.ownBlock = some k → base ≤ k ∧ ¬ X k) → wpList Tryz.prog ops Q rest (a.put o.dst v') w') : wpList Tryz.prog ops Q (o :: rest) a w := by
  refine wpList_plain hgd fun K' hK' => ?_
  obtain ⟨v', w', hrun, r1, r2, r3⟩ := h.app_run hc hr hlen hbase hX o.type
  unfold Oper.wp execOp
  simp only [ho, resolve, invoke, builtin, Sem.run_bind, Sem.run_pure, Result.andThen_ok, List.map_toArray, List.map_cons, List.map_nil, hs, hx, hrun]
  exact hK' _ _ (hK v' w' r1 r2 r3)
theorem step_row {ops : Array Oper} {o : Oper} {a : Act} {K' : Act → World → Prop} {Q : Exit → Act → World → Prop} {E : Prop} (hgd : o.guard = none) (s y : Operand) (ho : o.op = .call { callee := .builtin .append, args := #[s, y], argTypes := #[K.sty, K.sty] })
    {n : Nat} {x : α} {cs : List Value} (hs : a.eval s = v) (h : PRow K base X w v xs) (hx : a.eval y = .slice (some ⟨n, 0, none⟩) 1 1) (hc : Arr w K.ty n cs) (hr : K.rd (SubX base X w v) w x cs) (hlen : xs.length + 1 ≤ 200000) (hbase : base ≤ w.heap.size) (hX : ∀ b, X b → b < w.heap.size)
    (hK : ∀ v' w', PRow K base X w' v' (xs ++ [x]) → w.grownBy w' v.ownBlock → (∀ k, v.ownBlock = some k → base ≤ k ∧ ¬ X k) → K' (a.put o.dst v') w') : if Region.wanted o (yielded ops a.tmps) = true then Oper.wp Tryz.prog o a w K' Q else E := by
  have hw : Region.wanted o (yielded ops a.tmps) = true := by simp [Region.wanted, hgd]
  rw [if_pos hw]
  obtain ⟨v', w', hrun, r1, r2, r3⟩ := h.app_run hc hr hlen hbase hX o.type
  unfold Oper.wp execOp
  simp only [ho, resolve, invoke, builtin, Sem.run_bind, Sem.run_pure, Result.andThen_ok, List.map_toArray, List.map_cons, List.map_nil, hs, hx, hrun, Oper.upon]
  exact hK v' w' r1 r2 r3
/-- Where the elements lie. -/
theorem PRow.cells {q : Option Addr} {n c : Nat} (h : PRow K base X w (.slice q n c) xs) : n = xs.length ∧ xs.length ≤ c ∧ (0 < xs.length → ∃ g, q = some ⟨g, 0, none⟩ ∧ base ≤ g ∧ g < w.heap.size ∧ ¬ X g ∧ ∃ cs, CellsK K (fun b => base ≤ b ∧ b < w.heap.size ∧ b ≠ g ∧ ¬ X b) w xs cs ∧ ∀ j u, cs[j]? = some u → w.cell? ⟨g, j, none⟩ = some u) := by
  obtain ⟨cs, h1, h2, h3⟩ := h
  rcases h1.2 with ⟨hv, hn⟩ | ⟨g, cap, cur, hv, h0, hg, hcap, _, hcz, htk⟩
  · simp only [Value.slice.injEq] at hv
    obtain ⟨rfl, rfl, rfl⟩ := hv
    exact ⟨hn.symm, by omega, fun h => by omega⟩
  · simp only [Value.slice.injEq] at hv
    obtain ⟨rfl, rfl, rfl⟩ := hv
    have hgl := (Array.getElem?_eq_some_iff.1 hg).1
    refine ⟨rfl, hcap, fun _ => ⟨g, rfl, h0, hgl, h3 g rfl, cs, h2.imp fun b hb => ⟨hb.1, hb.2.1, fun e => hb.2.2.1 (by rw [e]; rfl), hb.2.2.2⟩, fun j u hj => ?_⟩⟩
    have hjl : j < cs.length := (List.getElem?_eq_some_iff.1 hj).1
    rw [cell_of_row w g _ cur _ (0, 0) hg, ← Array.getElem?_toList]
    rw [← htk, List.getElem?_take, if_pos (by rw [h1.1] at hjl; exact hjl)] at hj
    exact hj

/-! ### expressions -/
def rdEx (P : Nat → Prop) (w : World) (e : Ex) (cs : List Value) : Prop := ∃ v0 v1 v2 v3, cs = [v0, v1, v2, v3] ∧ RdE P w e (.agg #[v0, v1, v2, v3])
def kdEx : Kd Ex where
  sty := 36
  ty := 38
  z := .agg #[.int .i64 0, .string ByteArray.empty, .string ByteArray.empty, .slice none 0 0]
  size := 4
  bytes := 64
  und := Tryz.underlying36
  info := info_parts Tryz.infoEx
  zs := rfl
  pos := by decide
  small := by decide
  rd := rdEx
  len := fun ⟨_, _, _, _, h, _⟩ => by rw [h]; rfl
  ones := fun {P w x cs} ⟨v0, v1, v2, v3, h, h1⟩ u hu => by
    obtain ⟨q, c, h2, _⟩ := h1.form
    unfold exv at h2
    simp only [Value.agg.injEq, Array.mk.injEq, List.cons.injEq, and_true] at h2
    obtain ⟨rfl, rfl, rfl, rfl⟩ := h2
    rw [h] at hu
    simp only [List.mem_cons, List.not_mem_nil, or_false] at hu
    rcases hu with rfl | rfl | rfl | rfl <;> rfl
  keep := fun hk ⟨v0, v1, v2, v3, h, h1⟩ => ⟨v0, v1, v2, v3, h, h1.keep hk⟩
  imp := fun hi ⟨v0, v1, v2, v3, h, h1⟩ => ⟨v0, v1, v2, v3, h, h1.imp hi⟩
theorem rdL_of {P : Nat → Prop} {w : World} {b : Nat} : ∀ {ks : List Ex} {cs : List Value} {o : Nat}, CellsK kdEx P w ks cs → (∀ j u, cs[j]? = some u → w.cell? ⟨b, o + j, none⟩ = some u) → RdL P w ks b o
  | [], _, _, _, _ => by unfold RdL; trivial
  | e :: r, _, o, ⟨a, d, rfl, ⟨v0, v1, v2, v3, h, h1⟩, h2⟩, hc => by
    subst h
    unfold RdL
    refine ⟨⟨v0, v1, v2, v3, hc 0 v0 rfl, hc 1 v1 rfl, hc 2 v2 rfl, hc 3 v3 rfl, h1⟩, rdL_of h2 fun j u hj => ?_⟩
    rw [show o + 4 + j = o + (j + 4) by omega]
    exact hc (j + 4) u hj
theorem PRow.rdE {q : Option Addr} {n c : Nat} {ks : List Ex} (h : PRow kdEx base X w (.slice q n c) ks) (k : Int) (via nm : List UInt8) : RdE (Bt base w.heap.size) w (.mk k via nm ks) (.agg #[.int .i64 k, .string (bstr via), .string (bstr nm), .slice q n c]) := by
  obtain ⟨rfl, hc, hk⟩ := h.cells
  unfold RdE
  refine ⟨q, c, rfl, hc, fun h0 => ?_⟩
  obtain ⟨g, rfl, h1, h2, _, cs, h3, h4⟩ := hk h0
  refine ⟨g, 0, rfl, ⟨h1, h2⟩, (rdL_of h3 fun j u hj => ?_).imp fun b hb => ⟨hb.1, hb.2.1⟩⟩
  rw [Nat.zero_add]
  exact h4 j u hj
end Go.Proofs.YteieimchleioaaaGreatDoor
/-
  parse's group, units, expression.
-/
namespace Go.Proofs.YteieimchleioaaaGreatDoor
open Go.ChangeShapes Go.WideShapes Go.ChangeAt Go.RowKit
set_option linter.unusedVariables false

theorem groupW_some (ts : List Tok) (U : PS → PR Ex) (s : PS) : groupW ts (some U) s = (U ⟨s.i + 1, s.o + 1, s.l⟩).then fun e s1 => (wantF ts [41] s1).then fun _ s2 => .ok e ⟨s2.i, s2.o - 1, s2.l⟩ := rfl
section
variable {W : World} {pb tb c : Nat} {ts : List Tok} {s : PS}
set_option maxRecDepth 100000 in
set_option maxHeartbeats 2000000 in
theorem group_many (h : PP W pb tb c ts s) (hi : s.i < ts.length) (ho : ¬ s.o < 14) : Calls Tryz.prog 104 #[.pointer (some ⟨pb, 0, none⟩)] W (QR pb tb c ts W (groupW ts none s) (VE W.heap.size)) := by
 have hb0 : Below W.heap.size W (W.alloc (.cells #[.int .i64 0, .string ⟨#[]⟩, .string ⟨#[]⟩, .slice none 0 0] 38)) := (Below.refl _ _).alloc (Nat.le_refl _) _
 have HP0 := Lib.hid (h.later hb0)
 have HK0 := Lib.hid (Kp.of (pb := pb) hb0)
 have HH := Lib.hid hi
 have hlt1 : ¬ (s.o : Int) < 14 := by omega
 have a2 := HP0.out.1.cell 2
 simp only [List.getElem?_cons_zero, List.getElem?_cons_succ] at a2
 clear h hi hb0 ho
 go_enter Tryz.func104, Tryz.ntmps104
 go_wp2_with fail
 refine (need_f HP0.out HH.out 7).mono ?_
 rintro r w4 ⟨rfl, b4⟩
 have HK5 := Lib.hid (HK0.out.trans (Kp.of (pb := pb) b4))
 clear b4
 go_wp2_with fail
 exact ⟨rfl, .inr ⟨7, s.i, rfl, rfl, HK5.out⟩⟩
set_option maxRecDepth 100000 in
set_option maxHeartbeats 2000000 in
theorem group_any {U : PS → PR Ex} (ho : OkTs ts) (h : PP W pb tb c ts s) (hi : s.i < ts.length) (ht : txt ts s.i = [40]) (hso : s.o < 14) (hk : Keeps ts U) (HU : ∀ W', PP W' pb tb c ts ⟨s.i + 1, s.o + 1, s.l⟩ → Calls Tryz.prog 55 #[.pointer (some ⟨pb, 0, none⟩)] W' (QR pb tb c ts W' (U ⟨s.i + 1, s.o + 1, s.l⟩) (VE W'.heap.size))) : Calls Tryz.prog 104 #[.pointer (some ⟨pb, 0, none⟩)] W (QR pb tb c ts W (groupW ts (some U) s) (VE W.heap.size)) := by
 have hb0 : Below W.heap.size W (W.alloc (.cells #[.int .i64 0, .string ⟨#[]⟩, .string ⟨#[]⟩, .slice none 0 0] 38)) := (Below.refl _ _).alloc (Nat.le_refl _) _
 have HP0 := Lib.hid (h.later hb0)
 have HK0 := Lib.hid (Kp.of (pb := pb) hb0)
 have HA0 : Hid (Arr (W.alloc (.cells #[.int .i64 0, .string ⟨#[]⟩, .string ⟨#[]⟩, .slice none 0 0] 38)) 38 W.heap.size [.int .i64 0, .string ⟨#[]⟩, .string ⟨#[]⟩, .slice none 0 0]) := Arr.new' _ _ _ _ rfl
 have HLT : Hid (pb < W.heap.size) := h.1.lt
 have HH := Lib.hid hi
 have HO := Lib.hid ho
 have HU := Lib.hid HU
 have HKP := Lib.hid hk
 have hlt1 : (s.o : Int) < 14 := by omega
 have hz0 : (0 : Int) ≤ s.o := by omega
 have a2 := HP0.out.1.cell 2
 have f2 := HP0.out.1.free 2
 simp only [List.getElem?_cons_zero, List.getElem?_cons_succ] at a2
 have HP1 : Hid (PP ((W.alloc (.cells #[.int .i64 0, .string ⟨#[]⟩, .string ⟨#[]⟩, .slice none 0 0] 38)).setCell ⟨pb, 2, none⟩ (.int .i64 ((s.o : Int) + 1))) pb tb c ts ⟨s.i, s.o + 1, s.l⟩) := HP0.out.set (by simp)
 have HK1 := Lib.hid (HK0.out.set 2 (.int .i64 ((s.o : Int) + 1)))
 have HA1 : Hid (Arr ((W.alloc (.cells #[.int .i64 0, .string ⟨#[]⟩, .string ⟨#[]⟩, .slice none 0 0] 38)).setCell ⟨pb, 2, none⟩ (.int .i64 ((s.o : Int) + 1))) 38 W.heap.size [.int .i64 0, .string ⟨#[]⟩, .string ⟨#[]⟩, .slice none 0 0]) := HA0.out.setCell (by have := HLT.out; simp only [ne_eq]; omega) _
 have HWA := Lib.hid (want_any HP1.out HH.out ⟨#[40]⟩ [40] rfl)
 have hwf : wantF ts [40] ⟨s.i, s.o + 1, s.l⟩ = .ok () ⟨s.i + 1, s.o + 1, s.l⟩ := if_pos ht
 rw [hwf] at HWA
 have HS1 : Hid (s.i + 1 < ts.length) := ho.step (by rw [ht]; simp)
 clear h hi hb0 hso ht ho hk hwf
 go_enter Tryz.func104, Tryz.ntmps104
 go_wp2_with fail
 refine (need_t 7).mono ?_
 rintro r w3 ⟨rfl, rfl⟩
 go_wp2_with fail
 refine HWA.out.mono ?_
 rintro r w4 (⟨x, s4, v, e4, rfl, _, p4, k4⟩ | ⟨k, i, e4, _⟩)
 ·cases e4
  have HP4 := Lib.hid p4
  have HK4 := Lib.hid (HK1.out.trans k4)
  have HA4 := Lib.hid (k4.arr HA1.out (by have := HLT.out; omega))
  have HUC := Lib.hid (HU.out w4 HP4.out)
  clear p4 k4 HWA HP0 HK0 HA0 a2 f2
  go_wp2_with fail
  refine HUC.out.mono ?_
  rintro r w5 (⟨e, s5, v, e5, rfl, r5, p5, k5⟩ | ⟨k, i, e5, rfl, k5⟩)
  ·obtain ⟨i5, o5, l5⟩ := s5
   obtain ⟨h5, hoo, _⟩ := HKP.out _ _ _ HS1.out e5
   obtain rfl : o5 = s.o + 1 := hoo
   obtain ⟨mk, mv, mn, ms⟩ := e
   have HR5 : Hid (VE w4.heap.size (.mk mk mv mn ms) w5 v) := r5
   obtain ⟨q4, c4, rfl, _, _⟩ := RdE.form r5
   unfold exv at HR5 ⊢
   dsimp only [Ex.kind, Ex.via, Ex.nm, Ex.kids] at HR5 ⊢
   have HB6 : Hid (Below w5.heap.size w5 (w5.alloc (.cells #[.int .i64 mk, .string (bstr mv), .string (bstr mn), .slice q4 ms.length c4] 38))) := (Below.refl _ _).alloc (Nat.le_refl _) _
   have HP6 := Lib.hid (p5.later HB6.out)
   have HK6 := Lib.hid ((HK4.out.trans k5).trans (Kp.of (pb := pb) HB6.out))
   have HA6 := Lib.hid ((k5.arr HA4.out (by have := HLT.out; omega)).later HB6.out)
   have HR6 := Lib.hid (HR5.out.later HB6.out)
   have HE6 : Hid (Arr (w5.alloc (.cells #[.int .i64 mk, .string (bstr mv), .string (bstr mn), .slice q4 ms.length c4] 38)) 38 w5.heap.size [.int .i64 mk, .string (bstr mv), .string (bstr mn), .slice q4 ms.length c4]) := Arr.new' _ _ _ _ rfl
   have HH5 : Hid (i5 < ts.length) := h5
   have HWB := Lib.hid (want_any HP6.out HH5.out ⟨#[41]⟩ [41] rfl)
   have HLE : Hid (W.heap.size < w4.heap.size ∧ w4.heap.size ≤ w5.heap.size) := ⟨HA4.out.lt, k5.2.2.2.1⟩
   have HE5 := Lib.hid e5
   clear e5 r5 p5 k5 HUC h5 HU HR5
   go_wp2_with fail
   refine HWB.out.mono ?_
   rintro r w7 (⟨x, s7, v, e7, rfl, _, p7, k7⟩ | ⟨k, i, e7, rfl, k7⟩)
   ·obtain rfl := want_some e7
    have HP7 : Hid (PP w7 pb tb c ts ⟨i5 + 1, s.o + 1, l5⟩) := p7
    have HK7 := Lib.hid (HK6.out.trans k7)
    have HA7 := Lib.hid (k7.arr HA6.out (by have := HLT.out; omega))
    have HE7 := Lib.hid (k7.arr HE6.out (by have := HLT.out; have := HLE.out; omega))
    have HR7 := Lib.hid (HR6.out.kp k7 (by have := HLT.out; have := HLE.out; omega))
    have a2 := HP7.out.1.cell 2
    have f2 := HP7.out.1.free 2
    simp only [List.getElem?_cons_zero, List.getElem?_cons_succ] at a2
    have a2 : w7.cell? ⟨pb, 2, none⟩ = some (.int .i64 ((s.o : Int) + 1)) := by rw [a2]; simp
    have hss : (s.o : Int) + 1 - 1 = s.o := by omega
    have HP8 : Hid (PP (w7.setCell ⟨pb, 2, none⟩ (.int .i64 (s.o : Int))) pb tb c ts ⟨i5 + 1, s.o, l5⟩) := HP7.out.set (by simp)
    have HK8 := Lib.hid (HK7.out.set 2 (.int .i64 (s.o : Int)))
    have HA8 : Hid (Arr (w7.setCell ⟨pb, 2, none⟩ (.int .i64 (s.o : Int))) 38 W.heap.size [.int .i64 0, .string ⟨#[]⟩, .string ⟨#[]⟩, .slice none 0 0]) := HA7.out.setCell (by have := HLT.out; simp only [ne_eq]; omega) _
    have HE8 : Hid (Arr (w7.setCell ⟨pb, 2, none⟩ (.int .i64 (s.o : Int))) 38 w5.heap.size [.int .i64 mk, .string (bstr mv), .string (bstr mn), .slice q4 ms.length c4]) := HE7.out.setCell (by have := HLT.out; have := HLE.out; simp only [ne_eq]; omega) _
    have HR8 := Lib.hid (HR7.out.kp ((Kp.of (pb := pb) (Below.refl w7.heap.size w7)).set 2 (.int .i64 (s.o : Int))) (by have := HLT.out; have := HLE.out; omega))
    have HE2 : Hid (groupW ts (some U) s = .ok (.mk mk mv mn ms) ⟨i5 + 1, s.o, l5⟩) := by
     show _ = _
     rw [groupW_some]
     rw [HE5.out, PR.then_ok, e7, PR.then_ok]
     rfl
    clear e7 p7 k7 HWB
    go_upto_region 7 with (fail)
    clear a2 f2 hss
    generalize w7.setCell ⟨pb, 2, none⟩ (.int .i64 (s.o : Int)) = w8 at HP8 HK8 HA8 HE8 HR8 ⊢
    obtain ⟨x0, y0, x1, y1, x2, y2, x3, y3⟩ := HE8.out.all4
    obtain ⟨p0, q0, p1, q1, p2, q2, p3, q3⟩ := HA8.out.all4
    go_wp2_with fail
    have hk := kp_set4 w8 W.heap.size (.int .i64 mk) (.string (bstr mv)) (.string (bstr mn)) (.slice q4 ms.length c4)
    have hA := HA8.out.set4 (.int .i64 mk) (.string (bstr mv)) (.string (bstr mn)) (.slice q4 ms.length c4)
    exact bodyPost_ret (resE rfl hA rfl) rfl (.inl ⟨_, _, _, HE2.out, rfl, ((HR8.out.kp hk HLE.out.1).low (Nat.le_of_lt HLE.out.1)), HP8.out.kp hk HLT.out HK8.out.2.2.2.1, HK8.out.andThen hk (Nat.le_refl _)⟩)
   ·have HK7 := Lib.hid (HK6.out.trans k7)
    have HE2 : Hid (groupW ts (some U) s = .bad k i) := by
     show _ = _
     rw [groupW_some]
     rw [HE5.out, PR.then_ok, e7]; rfl
    clear e7 k7 HWB
    go_wp2_with fail
    exact ⟨rfl, .inr ⟨k, i, HE2.out, rfl, HK7.out⟩⟩
  ·have HK5 := Lib.hid (HK4.out.trans k5)
   have HE2 : Hid (groupW ts (some U) s = .bad k i) := by
    show _ = _
    rw [groupW_some]
    rw [e5]; rfl
   clear e5 k5 HUC
   go_wp2_with fail
   exact ⟨rfl, .inr ⟨k, i, HE2.out, rfl, HK5.out⟩⟩
 ·cases e4
end
end Go.Proofs.YteieimchleioaaaGreatDoor
/-
  parse's units, expression.
-/
namespace Go.Proofs.YteieimchleioaaaGreatDoor
open Go.ChangeShapes Go.WideShapes Go.ChangeAt Go.RowKit
set_option linter.unusedVariables false

/-- The parser's place, read off the world: for a loop's measure. -/
def plc (pb : Nat) (w : World) : Nat := match w.cell? ⟨pb, 1, none⟩ with
 | some (.int _ x) => x.toNat
 | _ => 0
theorem PP.plc {W : World} {pb tb c : Nat} {ts : List Tok} {s : PS} (h : PP W pb tb c ts s) : plc pb W = s.i := by
 have h1 := h.1.cell 1
 simp only [List.getElem?_cons_zero, List.getElem?_cons_succ] at h1
 unfold Proofs.YteieimchleioaaaGreatDoor.plc
 rw [h1]
 simp
theorem unitsW_one {ts : List Tok} {U : PS → PR Ex} {s s1 : PS} {e : Ex} (h : U s = .ok e s1) (ho : opK (txt ts s1.i) = 0) : unitsW ts U s = .ok e s1 := by
 unfold unitsW
 rw [h, PR.then_ok, if_pos ho]
def finU (kk : Int) (r : PR (List Ex)) : PR Ex := r.then fun ks s2 => .ok (.mk kk [] [] ks) s2
theorem unitsW_loop {ts : List Tok} {U : PS → PR Ex} {s s1 : PS} {e : Ex} (h : U s = .ok e s1) (ho : ¬ opK (txt ts s1.i) = 0) : unitsW ts U s = finU (opK (txt ts s1.i)) (loopW ts U (txt ts s1.i) ts.length [e] s1) := by
 unfold unitsW
 rw [h, PR.then_ok, if_neg ho]
 rfl
theorem loopW_end {ts : List Tok} {U : PS → PR Ex} {sg : List UInt8} {n : Nat} {acc : List Ex} {s : PS} (h : ¬ txt ts s.i = sg) : loopW ts U sg (n + 1) acc s = .ok acc s := by rw [loopW, if_neg h]
theorem loopW_bad {ts : List Tok} {U : PS → PR Ex} {sg : List UInt8} {n : Nat} {acc : List Ex} {s : PS} {k i : Nat} (h : txt ts s.i = sg) (hu : U s.up = .bad k i) : loopW ts U sg (n + 1) acc s = .bad k i := by rw [loopW, if_pos h, hu, PR.then_bad]
theorem loopW_two {ts : List Tok} {U : PS → PR Ex} {sg : List UInt8} {n : Nat} {acc : List Ex} {s s1 : PS} {e : Ex} (h : txt ts s.i = sg) (hu : U s.up = .ok e s1) (h5 : opK sg = 5) : loopW ts U sg (n + 1) acc s = .ok (acc ++ [e]) s1 := by rw [loopW, if_pos h, hu, PR.then_ok, if_pos h5]
theorem loopW_more {ts : List Tok} {U : PS → PR Ex} {sg : List UInt8} {n : Nat} {acc : List Ex} {s s1 : PS} {e : Ex} (h : txt ts s.i = sg) (hu : U s.up = .ok e s1) (h5 : ¬ opK sg = 5) : loopW ts U sg (n + 1) acc s = loopW ts U sg n (acc ++ [e]) s1 := by rw [loopW, if_pos h, hu, PR.then_ok, if_neg h5]
/-- What the loop over units keeps: the parser, the result's cell, the expression's cell with the row of the kids. -/
def UL (W : World) (pb tb c : Nat) (ts : List Tok) (g : Nat) (kk : Int) (acc : List Ex) (s : PS) (wr : World) : Prop :=
 ∃ q cc, PRow kdEx (W.heap.size + 1) (fun b => b = g) wr (.slice q acc.length cc) acc ∧ Arr wr 38 g [.int .i64 kk, .string ⟨#[]⟩, .string ⟨#[]⟩, .slice q acc.length cc] ∧ Arr wr 38 W.heap.size [.int .i64 0, .string ⟨#[]⟩, .string ⟨#[]⟩, .slice none 0 0] ∧ PP wr pb tb c ts s ∧ Kp pb W wr
section
variable {W : World} {pb tb c : Nat} {ts : List Tok} {s : PS}
theorem UL.lt {g : Nat} {kk : Int} {acc : List Ex} {s : PS} {wr : World} (h : UL W pb tb c ts g kk acc s wr) : g < wr.heap.size := by obtain ⟨q, cc, _, h, _⟩ := h; exact h.lt
/-- Behind a call that writes into the parser. -/
theorem UL.kp {g : Nat} {kk : Int} {acc : List Ex} {s s' : PS} {wr w' : World} (h : UL W pb tb c ts g kk acc s wr) (hk : Kp pb wr w') (hp : PP w' pb tb c ts s') (hpb : pb < W.heap.size) (hg : W.heap.size < g) : UL W pb tb c ts g kk acc s' w' := by
 obtain ⟨q, cc, h1, h2, h3, h4, h5⟩ := h
 exact ⟨q, cc, h1.turn hk.2.2.2.1 (fun b hb hl _ => hk.2.2.2.2 b hl (by omega)), hk.arr h2 (by omega), hk.arr h3 (by omega), hp, h5.trans hk⟩
theorem UL.later {g : Nat} {kk : Int} {acc : List Ex} {s : PS} {wr w' : World} (h : UL W pb tb c ts g kk acc s wr) (hb : Below wr.heap.size wr w') : UL W pb tb c ts g kk acc s w' := by
 obtain ⟨q, cc, h1, h2, h3, h4, h5⟩ := h
 exact ⟨q, cc, h1.later hb, h2.later hb, h3.later hb, h4.later hb, h5.trans (Kp.of hb)⟩
set_option maxRecDepth 100000 in
set_option maxHeartbeats 2000000 in
theorem units_any {U : PS → PR Ex} (ho : OkTs ts) (h : PP W pb tb c ts s) (hi : s.i < ts.length) (hk : Keeps ts U) (HU : ∀ W' s', PP W' pb tb c ts s' → s'.i < ts.length → s'.o = s.o → Calls Tryz.prog 84 #[.pointer (some ⟨pb, 0, none⟩)] W' (QR pb tb c ts W' (U s') (VE W'.heap.size))) : Calls Tryz.prog 55 #[.pointer (some ⟨pb, 0, none⟩)] W (QR pb tb c ts W (unitsW ts U s) (VE W.heap.size)) := by
 have hb0 : Below W.heap.size W (W.alloc (.cells #[.int .i64 0, .string ⟨#[]⟩, .string ⟨#[]⟩, .slice none 0 0] 38)) := (Below.refl _ _).alloc (Nat.le_refl _) _
 have HP0 := Lib.hid (h.later hb0)
 have HK0 := Lib.hid (Kp.of (pb := pb) hb0)
 have HA0 : Hid (Arr (W.alloc (.cells #[.int .i64 0, .string ⟨#[]⟩, .string ⟨#[]⟩, .slice none 0 0] 38)) 38 W.heap.size [.int .i64 0, .string ⟨#[]⟩, .string ⟨#[]⟩, .slice none 0 0]) := Arr.new' _ _ _ _ rfl
 have HLT : Hid (pb < W.heap.size) := h.1.lt
 have HH := Lib.hid hi
 have HO := Lib.hid ho
 have HU := Lib.hid HU
 have HKU := Lib.hid hk
 have HUC := Lib.hid (HU.out _ s HP0.out hi rfl)
 clear h hi hb0 ho hk
 go_enter Tryz.func55, Tryz.ntmps55
 go_wp2_with fail
 refine HUC.out.mono ?_
 rintro r w1 (⟨e, s1, v, e1, rfl, r1, p1, k1⟩ | ⟨k, i, e1, rfl, k1⟩)
 ·have HE1 := Lib.hid e1
  have HS1 : Hid (s1.i < ts.length ∧ s1.o = s.o) := by
   have kk := HKU.out _ _ _ HH.out e1
   exact ⟨kk.1, kk.2.1⟩
  obtain ⟨mk, mv, mn, ms⟩ := e
  have HR1 : Hid (VE (W.heap.size + 1) (.mk mk mv mn ms) w1 v) := by
   have := r1
   rw [show (W.alloc (.cells #[.int .i64 0, .string ⟨#[]⟩, .string ⟨#[]⟩, .slice none 0 0] 38)).heap.size = W.heap.size + 1 from by simp] at this
   exact this
  obtain ⟨q4, c4, rfl, _, _⟩ := RdE.form r1
  unfold exv at HR1 ⊢
  dsimp only [Ex.kind, Ex.via, Ex.nm, Ex.kids] at HR1 ⊢
  have HB2 : Hid (Below w1.heap.size w1 (w1.alloc (.cells #[.int .i64 mk, .string (bstr mv), .string (bstr mn), .slice q4 ms.length c4] 38))) := (Below.refl _ _).alloc (Nat.le_refl _) _
  have HP2 := Lib.hid (p1.later HB2.out)
  have HK1 := Lib.hid (HK0.out.trans k1)
  have HK2 := Lib.hid (HK1.out.trans (Kp.of (pb := pb) HB2.out))
  have HA2 := Lib.hid ((k1.arr HA0.out (by have := HLT.out; omega)).later HB2.out)
  have HR2 := Lib.hid (HR1.out.later HB2.out)
  have HF2 : Hid (Arr (w1.alloc (.cells #[.int .i64 mk, .string (bstr mv), .string (bstr mn), .slice q4 ms.length c4] 38)) 38 w1.heap.size [.int .i64 mk, .string (bstr mv), .string (bstr mn), .slice q4 ms.length c4]) := Arr.new' _ _ _ _ rfl
  have HW1 : Hid (W.heap.size + 1 ≤ w1.heap.size) := by have := k1.2.2.2.1; rw [show (W.alloc (.cells #[.int .i64 0, .string ⟨#[]⟩, .string ⟨#[]⟩, .slice none 0 0] 38)).heap.size = W.heap.size + 1 from by simp] at this; exact this
  have HOP := Lib.hid (operator_any HP2.out HS1.out.1)
  clear e1 r1 p1 k1 HUC HR1
  go_wp2_with fail
  refine HOP.out.mono ?_
  rintro r w3 ⟨rfl, b3⟩
  have HP3 := Lib.hid (HP2.out.later b3)
  have HK3 := Lib.hid (HK2.out.trans (Kp.of (pb := pb) b3))
  have HA3 := Lib.hid (HA2.out.later b3)
  have HR3 := Lib.hid (HR2.out.later b3)
  have HF3 := Lib.hid (HF2.out.later b3)
  have HW3 : Hid (w1.heap.size + 1 ≤ w3.heap.size) := by have h := b3.size; rw [show (w1.alloc (.cells #[.int .i64 mk, .string (bstr mv), .string (bstr mn), .slice q4 ms.length c4] 38)).heap.size = w1.heap.size + 1 from by simp] at h; exact h
  obtain ⟨sg, hsg⟩ : ∃ x, x = txt ts s1.i := ⟨_, rfl⟩
  rw [← hsg]
  obtain ⟨kk, hkk⟩ : ∃ x, x = opK sg := ⟨_, rfl⟩
  rw [← hkk]
  have HKK := Lib.hid hkk
  have HSG := Lib.hid hsg
  clear b3 HOP HP2 HK2 HA2 HR2 HF2 HB2
  have hz0 := HF3.out.cell 0
  have hz1 := HF3.out.cell 1
  have hz2 := HF3.out.cell 2
  have hz3 := HF3.out.cell 3
  simp only [List.getElem?_cons_zero, List.getElem?_cons_succ] at hz0 hz1 hz2 hz3
  by_cases h0 : kk = 0
  ·have h0' : (kk == 0) = true := by simp [h0]
   have HE2 : Hid (unitsW ts U s = .ok (.mk mk mv mn ms) s1) := unitsW_one HE1.out (by rw [← hsg, ← hkk]; exact h0)
   clear h0 hkk hsg
   obtain ⟨p0, z0, p1, z1, p2, z2, p3, z3⟩ := HA3.out.all4
   go_wp2_with fail
   have hk := kp_set4 w3 W.heap.size (.int .i64 mk) (.string (bstr mv)) (.string (bstr mn)) (.slice q4 ms.length c4)
   have hA := HA3.out.set4 (.int .i64 mk) (.string (bstr mv)) (.string (bstr mn)) (.slice q4 ms.length c4)
   exact bodyPost_ret (resE rfl hA rfl) rfl (.inl ⟨_, _, _, HE2.out, rfl, ((VE.kp HR3.out hk (Nat.lt_succ_self _)).low (Nat.le_succ _)), HP3.out.kp hk HLT.out HK3.out.2.2.2.1, HK3.out.andThen hk (Nat.le_refl _)⟩)
  ·have h0' : (kk == 0) = false := by simp [h0]
   have HE2 : Hid (unitsW ts U s = finU kk (loopW ts U sg ts.length [Ex.mk mk mv mn ms] s1)) := by
    show _ = _
    rw [unitsW_loop HE1.out (by rw [← hsg, ← hkk]; exact h0), ← hsg, ← hkk]
   have HSN : Hid (sg ≠ []) := opK_ne (by rw [← hkk]; exact h0)
   have HOS : Hid (opS sg = sg) := by show _ = _; unfold opS; rw [← hkk, if_neg h0]
   rw [HOS.out]
   clear h0 hkk hsg
   obtain ⟨g, hg⟩ : ∃ g, g = w3.heap.size + 1 := ⟨_, rfl⟩
   have HB4 : Hid (Below w3.heap.size w3 (w3.alloc (.cells #[.int .i64 mk, .string (bstr mv), .string (bstr mn), .slice q4 ms.length c4] 38))) := (Below.refl _ _).alloc (Nat.le_refl _) _
   have HU0 : Hid (UL W pb tb c ts (w3.heap.size + 1) kk [Ex.mk mk mv mn ms] s1 ((w3.alloc (.cells #[.int .i64 mk, .string (bstr mv), .string (bstr mn), .slice q4 ms.length c4] 38)).alloc (.cells #[.int .i64 kk, .string ⟨#[]⟩, .string ⟨#[]⟩, .slice (some ⟨w3.heap.size, 0, none⟩) 1 1] 38))) := by
    refine ⟨some ⟨w3.heap.size, 0, none⟩, 1, ?_, Arr.new2 _ _ _ _ _ rfl, (HA3.out.alloc _).alloc _, ?_, ?_⟩
    ·have h1 := PRow.lit (K := kdEx) (base := W.heap.size + 1) (X := fun _ => False) (w := w3) (x := .mk mk mv mn ms) (cs := [.int .i64 mk, .string (bstr mv), .string (bstr mn), .slice q4 ms.length c4]) (by have := HW1.out; have := HW3.out; omega) (fun b h => h.elim) ⟨_, _, _, _, rfl, RdE.imp (fun b hb => ⟨hb.1, hb.2, fun h => h⟩) HR3.out⟩
     exact (h1.wk (Y := fun b => b = w3.heap.size + 1) (fun b _ hl h => by simp at hl; omega)).later ((Below.refl _ _).alloc (Nat.le_refl _) _)
    ·exact (HP3.out.later HB4.out).later ((Below.refl _ _).alloc (Nat.le_refl _) _)
    ·exact (HK3.out.trans (Kp.of (pb := pb) HB4.out)).trans (Kp.of (pb := pb) ((Below.refl _ _).alloc (Nat.le_refl _) _))
   have HGW : Hid (W.heap.size + 1 ≤ g) := by show _ ≤ g; have := HW1.out; have := HW3.out; omega
   rw [← hg] at HU0
   clear HP3 HK3 HA3 HR3 HB4
   go_upto_region 5 with (fail)
   go_wp2_with fail
   clear hz0 hz1 hz2 hz3
   rw [show (w3.heap.size + 1 : Nat) = g from hg.symm]
   clear hg
   go_loopw [23] (fun _ wr => ∃ (n : Nat) (acc : List Ex) (s2 : PS), ts.length ≤ s2.i + n ∧ acc.length ≤ s2.i + 1 ∧ Hid (UL W pb tb c ts g kk acc s2 wr) ∧ Hid (s2.i < ts.length) ∧ Hid (s2.o = s.o) ∧ Hid (unitsW ts U s = finU kk (loopW ts U sg n acc s2))) (fun _ wr => ts.length - plc pb wr)
   case atStart => exact ⟨ts.length, _, s1, by omega, by simp, HU0.out, HS1.out.1, HS1.out.2, HE2.out⟩
   case round =>
    obtain ⟨n, acc, s2, hn, hal, HUL, HS2, HO2, HE⟩ := hrel
    obtain ⟨n, rfl⟩ : ∃ m, n = m + 1 := ⟨n - 1, by have := HS2.out; omega⟩
    obtain ⟨q, cc, RW2, G2, A2, P2, K2⟩ := HUL.out
    have HPL : Hid (plc pb wr = s2.i) := P2.plc
    have HRW2 := Lib.hid RW2
    have HG2 := Lib.hid G2
    have HA2 := Lib.hid A2
    have HP2 := Lib.hid P2
    have HK2 := Lib.hid K2
    have HAC : Hid (acc.length + 1 ≤ 200000) := by have := P2.2.2.2.1; have := HS2.out; show _ ≤ _; omega
    have HSK := Lib.hid (skip_any P2 HS2.out (bstr sg) sg (bstr_data _))
    clear RW2 G2 A2 P2 K2 HUL
    go_wp2_with fail
    refine HSK.out.mono ?_
    rintro r w6 ⟨d, hd, rfl, p6, k6⟩
    have HRW6 := Lib.hid (HRW2.out.turn (w' := w6) k6.2.2.2.1 (fun b hb hl _ => k6.2.2.2.2 b hl (by have := HLT.out; omega)))
    have HG6 := Lib.hid (k6.arr HG2.out (by have := HLT.out; have := HGW.out; omega))
    have HA6 := Lib.hid (k6.arr HA2.out (by have := HLT.out; omega))
    have HK6 := Lib.hid (HK2.out.trans k6)
    clear HRW2 HG2 HA2 HP2 HK2
    cases d with
    | true =>
     have HT := Lib.hid (of_decide_eq_true hd.symm)
     have HP6 : Hid (PP w6 pb tb c ts s2.up) := p6
     have HS6 : Hid (s2.up.i < ts.length) := HO.out.step (by rw [HT.out]; exact HSN.out)
     clear p6 k6 HSK hd
     go_upto_region 7 with (fail)
     refine wp_region_held_drew (S := fun _ => True) (by kernel_rfl) trivial (fun hHeld => ?_)
     try simp only [Act.put]
     have hb7 : Below w6.heap.size w6 w6.drew := (Below.refl _ _).drew
     have HP7 := Lib.hid (HP6.out.later hb7)
     have HK7 := Lib.hid (HK6.out.trans (Kp.of (pb := pb) hb7))
     have HA7 := Lib.hid (HA6.out.later hb7)
     have HG7 := Lib.hid (HG6.out.later hb7)
     have HRW7 := Lib.hid (HRW6.out.later hb7)
     clear hb7
     generalize w6.drew = w7 at HP7 HK7 HA7 HG7 HRW7 ⊢
     have HN7 := Lib.hid (HU.out w7 s2.up HP7.out HS6.out HO2.out)
     have HGL : Hid (g < w7.heap.size) := HG7.out.lt
     have HBL : Hid (∀ b, (Value.slice q acc.length cc).ownBlock = some b → b < w7.heap.size) := fun b hb => by obtain ⟨_, h, _⟩ := HRW7.out; exact (h.lt b hb).2
     refine wpAnyH_take (i := 0) (oi := ⟨some 24, _, _, _, _, _⟩) (v := .pointer (some ⟨g, 3, none⟩)) rfl (by kernel_rfl) (by kernel_rfl) (by kernel_rfl) (fun _ _ _ h => h) (.inl ⟨by rfl, fun w' hSw => ?_⟩) hHeld ?_
     focus (skip; clear hHeld; go_simp)
     try simp only [Act.put, List.setIfInBounds_toArray, List.set_cons_zero, List.set_cons_succ]
     refine wpAnyH_take (i := 2) (oi := ⟨some 26, _, _, _, _, _⟩) (v := .pointer (some ⟨pb, 0, none⟩)) rfl (by kernel_rfl) (by kernel_rfl) (by kernel_rfl) (fun _ _ _ h => h) (.inl ⟨by rfl, fun w' hSw => ?_⟩) hHeld ?_
     focus (skip; clear hHeld; go_simp)
     try simp only [Act.put, List.setIfInBounds_toArray, List.set_cons_zero, List.set_cons_succ]
     refine wpAnyH_ready (rs := [1, 3]) (by kernel_rfl) (by simp) ?_
     refine AllReadyH.cons (o := ⟨some 25, _, _, _, _, _⟩) rfl (fun K' hK' => ?_) (AllReadyH.cons (o := ⟨some 27, _, _, _, _, _⟩) rfl (fun K' hK' => ?_) AllReadyH.nil)
     ·have x3 := HG7.out.cell 3
      simp only [List.getElem?_cons_zero, List.getElem?_cons_succ] at x3
      go_simp
      clear x3
      refine hK'.out _ _ trivial (fun _ => ?_)
      clear hK' K'
      try simp only [Act.put, List.setIfInBounds_toArray, List.set_cons_zero, List.set_cons_succ]
      refine wpAnyH_ready (rs := [3]) (by kernel_rfl) (by simp) ?_
      refine AllReadyH.cons (o := ⟨some 27, _, _, _, _, _⟩) rfl (fun K' hK' => ?_) AllReadyH.nil
      refine stepw_calls (by rfl) ?_ HN7.out (fun w => QR.grown w) ?_ ?_
      focus go_simp
      ·rintro ch w8 hpan
       obtain ⟨k, i, e8, rfl, k8⟩ := hpan.pan
       have HK8 := Lib.hid (HK7.out.trans k8)
       have HE2 : Hid (unitsW ts U s = .bad k i) := by
        show _ = _
        rw [HE.out, loopW_bad HT.out e8]; rfl
       clear e8 k8 hpan
       exact ⟨rfl, .inr ⟨k, i, HE2.out, rfl, HK8.out⟩⟩
      rintro v w8 hret
      obtain ⟨e, s8, e8, r8, p8, k8⟩ := hret.ret
      have HE8 := Lib.hid e8
      have HS8 : Hid (s8.i < ts.length ∧ s2.i + 1 ≤ s8.i) := by
       have kk := HKU.out _ _ _ HS6.out e8
       exact ⟨kk.1, kk.2.2.1⟩
      have HO8 : Hid (s8.o = s.o) := (HKU.out _ _ _ HS6.out e8).2.1.trans HO2.out
      obtain ⟨mk, mv, mn, ms⟩ := e
      have HR8 : Hid (VE w7.heap.size (.mk mk mv mn ms) w8 v) := r8
      obtain ⟨q4, c4, rfl, _, _⟩ := RdE.form r8
      unfold exv at HR8 ⊢
      dsimp only [Ex.kind, Ex.via, Ex.nm, Ex.kids] at HR8 ⊢
      have hgs : g < w7.heap.size := HGL.out
      have HRW8 := Lib.hid (HRW7.out.turn (w' := w8) k8.2.2.2.1 (fun b hb hl _ => k8.2.2.2.2 b hl (by have := HLT.out; omega)))
      have HG8 := Lib.hid (k8.arr HG7.out (by have := HLT.out; have := HGW.out; omega))
      have HA8 := Lib.hid (k8.arr HA7.out (by have := HLT.out; omega))
      have HP8 := Lib.hid p8
      have HK8 := Lib.hid (HK7.out.trans k8)
      have HWS : Hid (w7.heap.size ≤ w8.heap.size) := k8.2.2.2.1
      clear e8 r8 p8 k8 hret hgs
      refine hK'.out _ _ trivial (fun _ => ?_)
      clear hK' K'
      try simp only [Act.put, List.setIfInBounds_toArray, List.set_cons_zero, List.set_cons_succ]
      refine wpAnyH_ready (rs := [4]) (by kernel_rfl) (by simp) ?_
      refine AllReadyH.cons (o := ⟨some 28, _, _, _, _, _⟩) rfl (fun K' hK' => ?_) AllReadyH.nil
      go_simp
      refine hK'.out _ _ trivial (fun _ => ?_)
      clear hK' K'
      try simp only [Act.put, List.setIfInBounds_toArray, List.set_cons_zero, List.set_cons_succ]
      have HB9 : Hid (Below w8.heap.size w8 (w8.alloc (.cells #[.int .i64 mk, .string (bstr mv), .string (bstr mn), .slice q4 ms.length c4] 38))) := (Below.refl _ _).alloc (Nat.le_refl _) _
      have HRW9 := Lib.hid (HRW8.out.later HB9.out)
      have HG9 := Lib.hid (HG8.out.later HB9.out)
      have HA9 := Lib.hid (HA8.out.later HB9.out)
      have HP9 := Lib.hid (HP8.out.later HB9.out)
      have HK9 := Lib.hid (HK8.out.trans (Kp.of HB9.out))
      have HE9 : Hid (Arr (w8.alloc (.cells #[.int .i64 mk, .string (bstr mv), .string (bstr mn), .slice q4 ms.length c4] 38)) 38 w8.heap.size [.int .i64 mk, .string (bstr mv), .string (bstr mn), .slice q4 ms.length c4]) := Arr.new' _ _ _ _ rfl
      have HR9 : Hid (rdEx (SubX (W.heap.size + 1) (fun b => b = g) (w8.alloc (.cells #[.int .i64 mk, .string (bstr mv), .string (bstr mn), .slice q4 ms.length c4] 38)) (.slice q acc.length cc)) (w8.alloc (.cells #[.int .i64 mk, .string (bstr mv), .string (bstr mn), .slice q4 ms.length c4] 38)) (.mk mk mv mn ms) [.int .i64 mk, .string (bstr mv), .string (bstr mn), .slice q4 ms.length c4]) := ⟨_, _, _, _, rfl, RdE.imp (fun b hb => ⟨by have := HGL.out; have := HGW.out; have := hb.1; omega, hb.2, fun e => by have h1 := (HBL.out b e.symm); have := hb.1; omega, by have := HGL.out; have := hb.1; omega⟩) (HR8.out.later HB9.out)⟩
      have HX9 : Hid (∀ b, b = g → b < (w8.alloc (.cells #[.int .i64 mk, .string (bstr mv), .string (bstr mn), .slice q4 ms.length c4] 38)).heap.size) := fun b hb => by have := HG9.out.lt; rw [hb]; exact this
      generalize w8.alloc (.cells #[.int .i64 mk, .string (bstr mv), .string (bstr mn), .slice q4 ms.length c4] 38) = w9 at HRW9 HG9 HA9 HP9 HK9 HE9 HR9 HX9 ⊢
      clear HB9
      refine wpAnyH_ready (rs := [5]) (by kernel_rfl) (by simp) ?_
      refine AllReadyH.cons (o := ⟨some 29, _, _, _, _, _⟩) rfl (fun K' hK' => ?_) AllReadyH.nil
      refine step_row (K := kdEx) rfl (.tmp 25) (.tmp 28) rfl rfl HRW9.out rfl HE9.out HR9.out HAC.out (Nat.le_trans (Nat.succ_le_of_lt HA9.out.lt) (Nat.le_refl _)) HX9.out ?_
      intro v10 w10 r10 g10 o10
      have HP10 := Lib.hid (HP9.out.below (B := W.heap.size) ((Below.refl _ _).grown g10 (Nat.le_of_lt HA9.out.lt) (fun k hk => Nat.le_of_succ_le (o10 k hk).1)) HLT.out)
      have HK10 := Lib.hid (HK9.out.grown g10 (fun k hk => Nat.le_of_succ_le (o10 k hk).1))
      have HG10 : Hid (Arr w10 38 g [.int .i64 kk, .string ⟨#[]⟩, .string ⟨#[]⟩, .slice q acc.length cc]) := (g10.block g HG9.out.lt (fun e => (o10 g e.symm).2 rfl)).trans HG9.out
      have HA10 : Hid (Arr w10 38 W.heap.size [.int .i64 0, .string ⟨#[]⟩, .string ⟨#[]⟩, .slice none 0 0]) := (g10.block _ HA9.out.lt (fun e => absurd (o10 _ e.symm).1 (by omega))).trans HA9.out
      have HRW10 := Lib.hid r10
      obtain ⟨q10, c10, hv10⟩ := r10.form
      rw [List.length_append, List.length_singleton] at hv10
      subst hv10
      clear r10 g10 o10
      refine hK'.out _ _ trivial (fun _ => ?_)
      clear hK' K'
      try simp only [Act.put, List.setIfInBounds_toArray, List.set_cons_zero, List.set_cons_succ]
      refine wpAnyH_take (i := 6) (oi := ⟨some 30, _, _, _, _, _⟩) (v := .pointer (some ⟨g, 3, none⟩)) rfl (by kernel_rfl) (by kernel_rfl) (by kernel_rfl) (fun _ _ _ h => h) (.inl ⟨by rfl, fun w' hSw => ?_⟩) hHeld ?_
      focus (skip; clear hHeld; go_simp)
      try simp only [Act.put, List.setIfInBounds_toArray, List.set_cons_zero, List.set_cons_succ]
      refine wpAnyH_ready (rs := [7]) (by kernel_rfl) (by simp) ?_
      refine AllReadyH.cons (o := ⟨none, _, _, _, _, _⟩) rfl (fun K' hK' => ?_) AllReadyH.nil
      obtain ⟨x0, y0, x1, y1, x2, y2, x3, y3⟩ := HG10.out.all4
      go_simp
      clear x0 y0 x1 y1 x2 y2 x3 y3
      refine hK'.out _ _ trivial (fun _ => ?_)
      clear hK' K'
      try simp only [Act.put, List.setIfInBounds_toArray, List.set_cons_zero, List.set_cons_succ]
      have HG11 : Hid (Arr (w10.setCell ⟨g, 3, none⟩ (.slice q10 (acc.length + 1) c10)) 38 g [.int .i64 kk, .string ⟨#[]⟩, .string ⟨#[]⟩, .slice q10 (acc.length + 1) c10]) := HG10.out.set 3 _
      have HU11 : Hid (UL W pb tb c ts g kk (acc ++ [Ex.mk mk mv mn ms]) s8 (w10.setCell ⟨g, 3, none⟩ (.slice q10 (acc.length + 1) c10))) :=
       ⟨q10, c10, by rw [List.length_append, List.length_singleton]; exact HRW10.out.box (.inr rfl) 3 _, by rw [List.length_append, List.length_singleton]; exact HG11.out, HA10.out.setCell (by have := HGW.out; simp only [ne_eq]; omega) _, HP10.out.box (by have := HLT.out; have := HGW.out; omega) 3 _, HK10.out.box (by have := HGW.out; omega) 3 _⟩
      refine wpAnyH_done (by kernel_rfl) ?_ _
      clear HRW10 HG10 HA10 HP10 HK10 HG11 HRW9 HG9 HA9 HP9 HK9 HE9 HR9 HX9 HRW8 HG8 HA8 HP8 HK8 HR8
      generalize w10.setCell ⟨g, 3, none⟩ (.slice q10 (acc.length + 1) c10) = w11 at HU11 ⊢
      by_cases h5 : kk = 5
      ·have h5' : (kk == 5) = true := by simp [h5]
       have HE11 : Hid (unitsW ts U s = .ok (.mk kk [] [] (acc ++ [Ex.mk mk mv mn ms])) s8) := by
        show _ = _
        rw [HE.out, loopW_two HT.out HE8.out (HKK.out.symm.trans h5)]
        rfl
       clear HE h5
       obtain ⟨q, cc, HRW, HG, HA, HP, HK⟩ := HU11.out
       have HRW := Lib.hid HRW
       have HG := Lib.hid HG
       have HA := Lib.hid HA
       have HP := Lib.hid HP
       have HK := Lib.hid HK
       generalize (acc ++ [Ex.mk mk mv mn ms]) = acc2 at HE11 HRW HG HU11 ⊢
       obtain ⟨x0, y0, x1, y1, x2, y2, x3, y3⟩ := HG.out.all4
       obtain ⟨p0, z0, p1, z1, p2, z2, p3, z3⟩ := HA.out.all4
       go_wp2_with fail
       have hk := kp_set4 w11 W.heap.size (.int .i64 kk) (.string ⟨#[]⟩) (.string ⟨#[]⟩) (.slice q acc2.length cc)
       have hA := HA.out.set4 (.int .i64 kk) (.string ⟨#[]⟩) (.string ⟨#[]⟩) (.slice q acc2.length cc)
       exact bodyPost_ret (resE rfl hA rfl) rfl (.inl ⟨_, _, _, HE11.out, rfl, ((VE.kp (HRW.out.rdE kk [] []) hk (Nat.lt_succ_self _)).low (Nat.le_succ _)), HP.out.kp hk HLT.out HK.out.2.2.2.1, HK.out.andThen hk (Nat.le_refl _)⟩)
      ·have h5' : (kk == 5) = false := by simp [h5]
       have HE11 : Hid (unitsW ts U s = finU kk (loopW ts U sg n (acc ++ [Ex.mk mk mv mn ms]) s8)) := by
        show _ = _
        rw [HE.out, loopW_more HT.out HE8.out (fun h => h5 (HKK.out.trans h))]
       go_wp2_with fail
       go_roundw
       case rel => exact ⟨n, acc ++ [Ex.mk mk mv mn ms], s8, by have := HS8.out; omega, by rw [List.length_append, List.length_singleton]; have := HS8.out; omega, HU11.out, HS8.out.1, HO8.out, HE11.out⟩
       case measure => rw [HPL.out, PP.plc (by obtain ⟨_, _, _, _, _, h, _⟩ := HU11.out; exact h)]; have := HS8.out; omega
     ·refine stepw_calls (by rfl) ?_ HN7.out (fun w => QR.grown w) ?_ ?_
      focus go_simp
      ·rintro ch w8 hpan
       obtain ⟨k, i, e8, rfl, k8⟩ := hpan.pan
       have HK8 := Lib.hid (HK7.out.trans k8)
       have HE2 : Hid (unitsW ts U s = .bad k i) := by
        show _ = _
        rw [HE.out, loopW_bad HT.out e8]; rfl
       clear e8 k8 hpan
       exact ⟨rfl, .inr ⟨k, i, HE2.out, rfl, HK8.out⟩⟩
      rintro v w8 hret
      obtain ⟨e, s8, e8, r8, p8, k8⟩ := hret.ret
      have HE8 := Lib.hid e8
      have HS8 : Hid (s8.i < ts.length ∧ s2.i + 1 ≤ s8.i) := by
       have kk := HKU.out _ _ _ HS6.out e8
       exact ⟨kk.1, kk.2.2.1⟩
      have HO8 : Hid (s8.o = s.o) := (HKU.out _ _ _ HS6.out e8).2.1.trans HO2.out
      obtain ⟨mk, mv, mn, ms⟩ := e
      have HR8 : Hid (VE w7.heap.size (.mk mk mv mn ms) w8 v) := r8
      obtain ⟨q4, c4, rfl, _, _⟩ := RdE.form r8
      unfold exv at HR8 ⊢
      dsimp only [Ex.kind, Ex.via, Ex.nm, Ex.kids] at HR8 ⊢
      have hgs : g < w7.heap.size := HGL.out
      have HRW8 := Lib.hid (HRW7.out.turn (w' := w8) k8.2.2.2.1 (fun b hb hl _ => k8.2.2.2.2 b hl (by have := HLT.out; omega)))
      have HG8 := Lib.hid (k8.arr HG7.out (by have := HLT.out; have := HGW.out; omega))
      have HA8 := Lib.hid (k8.arr HA7.out (by have := HLT.out; omega))
      have HP8 := Lib.hid p8
      have HK8 := Lib.hid (HK7.out.trans k8)
      have HWS : Hid (w7.heap.size ≤ w8.heap.size) := k8.2.2.2.1
      clear e8 r8 p8 k8 hret hgs
      refine hK'.out _ _ trivial (fun _ => ?_)
      clear hK' K'
      try simp only [Act.put, List.setIfInBounds_toArray, List.set_cons_zero, List.set_cons_succ]
      refine wpAnyH_ready (rs := [1, 4]) (by kernel_rfl) (by simp) ?_
      refine AllReadyH.cons (o := ⟨some 25, _, _, _, _, _⟩) rfl (fun K' hK' => ?_) (AllReadyH.cons (o := ⟨some 28, _, _, _, _, _⟩) rfl (fun K' hK' => ?_) AllReadyH.nil)
      ·have x3 := HG8.out.cell 3
       simp only [List.getElem?_cons_zero, List.getElem?_cons_succ] at x3
       go_simp
       clear x3
       refine hK'.out _ _ trivial (fun _ => ?_)
       clear hK' K'
       try simp only [Act.put, List.setIfInBounds_toArray, List.set_cons_zero, List.set_cons_succ]
       refine wpAnyH_ready (rs := [4]) (by kernel_rfl) (by simp) ?_
       refine AllReadyH.cons (o := ⟨some 28, _, _, _, _, _⟩) rfl (fun K' hK' => ?_) AllReadyH.nil
       go_simp
       refine hK'.out _ _ trivial (fun _ => ?_)
       clear hK' K'
       try simp only [Act.put, List.setIfInBounds_toArray, List.set_cons_zero, List.set_cons_succ]
       have HB9 : Hid (Below w8.heap.size w8 (w8.alloc (.cells #[.int .i64 mk, .string (bstr mv), .string (bstr mn), .slice q4 ms.length c4] 38))) := (Below.refl _ _).alloc (Nat.le_refl _) _
       have HRW9 := Lib.hid (HRW8.out.later HB9.out)
       have HG9 := Lib.hid (HG8.out.later HB9.out)
       have HA9 := Lib.hid (HA8.out.later HB9.out)
       have HP9 := Lib.hid (HP8.out.later HB9.out)
       have HK9 := Lib.hid (HK8.out.trans (Kp.of HB9.out))
       have HE9 : Hid (Arr (w8.alloc (.cells #[.int .i64 mk, .string (bstr mv), .string (bstr mn), .slice q4 ms.length c4] 38)) 38 w8.heap.size [.int .i64 mk, .string (bstr mv), .string (bstr mn), .slice q4 ms.length c4]) := Arr.new' _ _ _ _ rfl
       have HR9 : Hid (rdEx (SubX (W.heap.size + 1) (fun b => b = g) (w8.alloc (.cells #[.int .i64 mk, .string (bstr mv), .string (bstr mn), .slice q4 ms.length c4] 38)) (.slice q acc.length cc)) (w8.alloc (.cells #[.int .i64 mk, .string (bstr mv), .string (bstr mn), .slice q4 ms.length c4] 38)) (.mk mk mv mn ms) [.int .i64 mk, .string (bstr mv), .string (bstr mn), .slice q4 ms.length c4]) := ⟨_, _, _, _, rfl, RdE.imp (fun b hb => ⟨by have := HGL.out; have := HGW.out; have := hb.1; omega, hb.2, fun e => by have h1 := (HBL.out b e.symm); have := hb.1; omega, by have := HGL.out; have := hb.1; omega⟩) (HR8.out.later HB9.out)⟩
       have HX9 : Hid (∀ b, b = g → b < (w8.alloc (.cells #[.int .i64 mk, .string (bstr mv), .string (bstr mn), .slice q4 ms.length c4] 38)).heap.size) := fun b hb => by have := HG9.out.lt; rw [hb]; exact this
       generalize w8.alloc (.cells #[.int .i64 mk, .string (bstr mv), .string (bstr mn), .slice q4 ms.length c4] 38) = w9 at HRW9 HG9 HA9 HP9 HK9 HE9 HR9 HX9 ⊢
       clear HB9
       refine wpAnyH_ready (rs := [5]) (by kernel_rfl) (by simp) ?_
       refine AllReadyH.cons (o := ⟨some 29, _, _, _, _, _⟩) rfl (fun K' hK' => ?_) AllReadyH.nil
       refine step_row (K := kdEx) rfl (.tmp 25) (.tmp 28) rfl rfl HRW9.out rfl HE9.out HR9.out HAC.out (Nat.le_trans (Nat.succ_le_of_lt HA9.out.lt) (Nat.le_refl _)) HX9.out ?_
       intro v10 w10 r10 g10 o10
       have HP10 := Lib.hid (HP9.out.below (B := W.heap.size) ((Below.refl _ _).grown g10 (Nat.le_of_lt HA9.out.lt) (fun k hk => Nat.le_of_succ_le (o10 k hk).1)) HLT.out)
       have HK10 := Lib.hid (HK9.out.grown g10 (fun k hk => Nat.le_of_succ_le (o10 k hk).1))
       have HG10 : Hid (Arr w10 38 g [.int .i64 kk, .string ⟨#[]⟩, .string ⟨#[]⟩, .slice q acc.length cc]) := (g10.block g HG9.out.lt (fun e => (o10 g e.symm).2 rfl)).trans HG9.out
       have HA10 : Hid (Arr w10 38 W.heap.size [.int .i64 0, .string ⟨#[]⟩, .string ⟨#[]⟩, .slice none 0 0]) := (g10.block _ HA9.out.lt (fun e => absurd (o10 _ e.symm).1 (by omega))).trans HA9.out
       have HRW10 := Lib.hid r10
       obtain ⟨q10, c10, hv10⟩ := r10.form
       rw [List.length_append, List.length_singleton] at hv10
       subst hv10
       clear r10 g10 o10
       refine hK'.out _ _ trivial (fun _ => ?_)
       clear hK' K'
       try simp only [Act.put, List.setIfInBounds_toArray, List.set_cons_zero, List.set_cons_succ]
       refine wpAnyH_take (i := 6) (oi := ⟨some 30, _, _, _, _, _⟩) (v := .pointer (some ⟨g, 3, none⟩)) rfl (by kernel_rfl) (by kernel_rfl) (by kernel_rfl) (fun _ _ _ h => h) (.inl ⟨by rfl, fun w' hSw => ?_⟩) hHeld ?_
       focus (skip; clear hHeld; go_simp)
       try simp only [Act.put, List.setIfInBounds_toArray, List.set_cons_zero, List.set_cons_succ]
       refine wpAnyH_ready (rs := [7]) (by kernel_rfl) (by simp) ?_
       refine AllReadyH.cons (o := ⟨none, _, _, _, _, _⟩) rfl (fun K' hK' => ?_) AllReadyH.nil
       obtain ⟨x0, y0, x1, y1, x2, y2, x3, y3⟩ := HG10.out.all4
       go_simp
       clear x0 y0 x1 y1 x2 y2 x3 y3
       refine hK'.out _ _ trivial (fun _ => ?_)
       clear hK' K'
       try simp only [Act.put, List.setIfInBounds_toArray, List.set_cons_zero, List.set_cons_succ]
       have HG11 : Hid (Arr (w10.setCell ⟨g, 3, none⟩ (.slice q10 (acc.length + 1) c10)) 38 g [.int .i64 kk, .string ⟨#[]⟩, .string ⟨#[]⟩, .slice q10 (acc.length + 1) c10]) := HG10.out.set 3 _
       have HU11 : Hid (UL W pb tb c ts g kk (acc ++ [Ex.mk mk mv mn ms]) s8 (w10.setCell ⟨g, 3, none⟩ (.slice q10 (acc.length + 1) c10))) :=
        ⟨q10, c10, by rw [List.length_append, List.length_singleton]; exact HRW10.out.box (.inr rfl) 3 _, by rw [List.length_append, List.length_singleton]; exact HG11.out, HA10.out.setCell (by have := HGW.out; simp only [ne_eq]; omega) _, HP10.out.box (by have := HLT.out; have := HGW.out; omega) 3 _, HK10.out.box (by have := HGW.out; omega) 3 _⟩
       refine wpAnyH_done (by kernel_rfl) ?_ _
       clear HRW10 HG10 HA10 HP10 HK10 HG11 HRW9 HG9 HA9 HP9 HK9 HE9 HR9 HX9 HRW8 HG8 HA8 HP8 HK8 HR8
       generalize w10.setCell ⟨g, 3, none⟩ (.slice q10 (acc.length + 1) c10) = w11 at HU11 ⊢
       by_cases h5 : kk = 5
       ·have h5' : (kk == 5) = true := by simp [h5]
        have HE11 : Hid (unitsW ts U s = .ok (.mk kk [] [] (acc ++ [Ex.mk mk mv mn ms])) s8) := by
         show _ = _
         rw [HE.out, loopW_two HT.out HE8.out (HKK.out.symm.trans h5)]
         rfl
        clear HE h5
        obtain ⟨q, cc, HRW, HG, HA, HP, HK⟩ := HU11.out
        have HRW := Lib.hid HRW
        have HG := Lib.hid HG
        have HA := Lib.hid HA
        have HP := Lib.hid HP
        have HK := Lib.hid HK
        generalize (acc ++ [Ex.mk mk mv mn ms]) = acc2 at HE11 HRW HG HU11 ⊢
        obtain ⟨x0, y0, x1, y1, x2, y2, x3, y3⟩ := HG.out.all4
        obtain ⟨p0, z0, p1, z1, p2, z2, p3, z3⟩ := HA.out.all4
        go_wp2_with fail
        have hk := kp_set4 w11 W.heap.size (.int .i64 kk) (.string ⟨#[]⟩) (.string ⟨#[]⟩) (.slice q acc2.length cc)
        have hA := HA.out.set4 (.int .i64 kk) (.string ⟨#[]⟩) (.string ⟨#[]⟩) (.slice q acc2.length cc)
        exact bodyPost_ret (resE rfl hA rfl) rfl (.inl ⟨_, _, _, HE11.out, rfl, ((VE.kp (HRW.out.rdE kk [] []) hk (Nat.lt_succ_self _)).low (Nat.le_succ _)), HP.out.kp hk HLT.out HK.out.2.2.2.1, HK.out.andThen hk (Nat.le_refl _)⟩)
       ·have h5' : (kk == 5) = false := by simp [h5]
        have HE11 : Hid (unitsW ts U s = finU kk (loopW ts U sg n (acc ++ [Ex.mk mk mv mn ms]) s8)) := by
         show _ = _
         rw [HE.out, loopW_more HT.out HE8.out (fun h => h5 (HKK.out.trans h))]
        go_wp2_with fail
        go_roundw
        case rel => exact ⟨n, acc ++ [Ex.mk mk mv mn ms], s8, by have := HS8.out; omega, by rw [List.length_append, List.length_singleton]; have := HS8.out; omega, HU11.out, HS8.out.1, HO8.out, HE11.out⟩
        case measure => rw [HPL.out, PP.plc (by obtain ⟨_, _, _, _, _, h, _⟩ := HU11.out; exact h)]; have := HS8.out; omega
      ·go_simp
       refine hK'.out _ _ trivial (fun _ => ?_)
       clear hK' K'
       try simp only [Act.put, List.setIfInBounds_toArray, List.set_cons_zero, List.set_cons_succ]
       have HB9 : Hid (Below w8.heap.size w8 (w8.alloc (.cells #[.int .i64 mk, .string (bstr mv), .string (bstr mn), .slice q4 ms.length c4] 38))) := (Below.refl _ _).alloc (Nat.le_refl _) _
       have HRW9 := Lib.hid (HRW8.out.later HB9.out)
       have HG9 := Lib.hid (HG8.out.later HB9.out)
       have HA9 := Lib.hid (HA8.out.later HB9.out)
       have HP9 := Lib.hid (HP8.out.later HB9.out)
       have HK9 := Lib.hid (HK8.out.trans (Kp.of HB9.out))
       have HE9 : Hid (Arr (w8.alloc (.cells #[.int .i64 mk, .string (bstr mv), .string (bstr mn), .slice q4 ms.length c4] 38)) 38 w8.heap.size [.int .i64 mk, .string (bstr mv), .string (bstr mn), .slice q4 ms.length c4]) := Arr.new' _ _ _ _ rfl
       have HR9 : Hid (rdEx (SubX (W.heap.size + 1) (fun b => b = g) (w8.alloc (.cells #[.int .i64 mk, .string (bstr mv), .string (bstr mn), .slice q4 ms.length c4] 38)) (.slice q acc.length cc)) (w8.alloc (.cells #[.int .i64 mk, .string (bstr mv), .string (bstr mn), .slice q4 ms.length c4] 38)) (.mk mk mv mn ms) [.int .i64 mk, .string (bstr mv), .string (bstr mn), .slice q4 ms.length c4]) := ⟨_, _, _, _, rfl, RdE.imp (fun b hb => ⟨by have := HGL.out; have := HGW.out; have := hb.1; omega, hb.2, fun e => by have h1 := (HBL.out b e.symm); have := hb.1; omega, by have := HGL.out; have := hb.1; omega⟩) (HR8.out.later HB9.out)⟩
       have HX9 : Hid (∀ b, b = g → b < (w8.alloc (.cells #[.int .i64 mk, .string (bstr mv), .string (bstr mn), .slice q4 ms.length c4] 38)).heap.size) := fun b hb => by have := HG9.out.lt; rw [hb]; exact this
       generalize w8.alloc (.cells #[.int .i64 mk, .string (bstr mv), .string (bstr mn), .slice q4 ms.length c4] 38) = w9 at HRW9 HG9 HA9 HP9 HK9 HE9 HR9 HX9 ⊢
       clear HB9
       refine wpAnyH_ready (rs := [1]) (by kernel_rfl) (by simp) ?_
       refine AllReadyH.cons (o := ⟨some 25, _, _, _, _, _⟩) rfl (fun K' hK' => ?_) AllReadyH.nil
       have x3 := HG9.out.cell 3
       simp only [List.getElem?_cons_zero, List.getElem?_cons_succ] at x3
       go_simp
       clear x3
       refine hK'.out _ _ trivial (fun _ => ?_)
       clear hK' K'
       try simp only [Act.put, List.setIfInBounds_toArray, List.set_cons_zero, List.set_cons_succ]
       refine wpAnyH_ready (rs := [5]) (by kernel_rfl) (by simp) ?_
       refine AllReadyH.cons (o := ⟨some 29, _, _, _, _, _⟩) rfl (fun K' hK' => ?_) AllReadyH.nil
       refine step_row (K := kdEx) rfl (.tmp 25) (.tmp 28) rfl rfl HRW9.out rfl HE9.out HR9.out HAC.out (Nat.le_trans (Nat.succ_le_of_lt HA9.out.lt) (Nat.le_refl _)) HX9.out ?_
       intro v10 w10 r10 g10 o10
       have HP10 := Lib.hid (HP9.out.below (B := W.heap.size) ((Below.refl _ _).grown g10 (Nat.le_of_lt HA9.out.lt) (fun k hk => Nat.le_of_succ_le (o10 k hk).1)) HLT.out)
       have HK10 := Lib.hid (HK9.out.grown g10 (fun k hk => Nat.le_of_succ_le (o10 k hk).1))
       have HG10 : Hid (Arr w10 38 g [.int .i64 kk, .string ⟨#[]⟩, .string ⟨#[]⟩, .slice q acc.length cc]) := (g10.block g HG9.out.lt (fun e => (o10 g e.symm).2 rfl)).trans HG9.out
       have HA10 : Hid (Arr w10 38 W.heap.size [.int .i64 0, .string ⟨#[]⟩, .string ⟨#[]⟩, .slice none 0 0]) := (g10.block _ HA9.out.lt (fun e => absurd (o10 _ e.symm).1 (by omega))).trans HA9.out
       have HRW10 := Lib.hid r10
       obtain ⟨q10, c10, hv10⟩ := r10.form
       rw [List.length_append, List.length_singleton] at hv10
       subst hv10
       clear r10 g10 o10
       refine hK'.out _ _ trivial (fun _ => ?_)
       clear hK' K'
       try simp only [Act.put, List.setIfInBounds_toArray, List.set_cons_zero, List.set_cons_succ]
       refine wpAnyH_take (i := 6) (oi := ⟨some 30, _, _, _, _, _⟩) (v := .pointer (some ⟨g, 3, none⟩)) rfl (by kernel_rfl) (by kernel_rfl) (by kernel_rfl) (fun _ _ _ h => h) (.inl ⟨by rfl, fun w' hSw => ?_⟩) hHeld ?_
       focus (skip; clear hHeld; go_simp)
       try simp only [Act.put, List.setIfInBounds_toArray, List.set_cons_zero, List.set_cons_succ]
       refine wpAnyH_ready (rs := [7]) (by kernel_rfl) (by simp) ?_
       refine AllReadyH.cons (o := ⟨none, _, _, _, _, _⟩) rfl (fun K' hK' => ?_) AllReadyH.nil
       obtain ⟨x0, y0, x1, y1, x2, y2, x3, y3⟩ := HG10.out.all4
       go_simp
       clear x0 y0 x1 y1 x2 y2 x3 y3
       refine hK'.out _ _ trivial (fun _ => ?_)
       clear hK' K'
       try simp only [Act.put, List.setIfInBounds_toArray, List.set_cons_zero, List.set_cons_succ]
       have HG11 : Hid (Arr (w10.setCell ⟨g, 3, none⟩ (.slice q10 (acc.length + 1) c10)) 38 g [.int .i64 kk, .string ⟨#[]⟩, .string ⟨#[]⟩, .slice q10 (acc.length + 1) c10]) := HG10.out.set 3 _
       have HU11 : Hid (UL W pb tb c ts g kk (acc ++ [Ex.mk mk mv mn ms]) s8 (w10.setCell ⟨g, 3, none⟩ (.slice q10 (acc.length + 1) c10))) :=
        ⟨q10, c10, by rw [List.length_append, List.length_singleton]; exact HRW10.out.box (.inr rfl) 3 _, by rw [List.length_append, List.length_singleton]; exact HG11.out, HA10.out.setCell (by have := HGW.out; simp only [ne_eq]; omega) _, HP10.out.box (by have := HLT.out; have := HGW.out; omega) 3 _, HK10.out.box (by have := HGW.out; omega) 3 _⟩
       refine wpAnyH_done (by kernel_rfl) ?_ _
       clear HRW10 HG10 HA10 HP10 HK10 HG11 HRW9 HG9 HA9 HP9 HK9 HE9 HR9 HX9 HRW8 HG8 HA8 HP8 HK8 HR8
       generalize w10.setCell ⟨g, 3, none⟩ (.slice q10 (acc.length + 1) c10) = w11 at HU11 ⊢
       by_cases h5 : kk = 5
       ·have h5' : (kk == 5) = true := by simp [h5]
        have HE11 : Hid (unitsW ts U s = .ok (.mk kk [] [] (acc ++ [Ex.mk mk mv mn ms])) s8) := by
         show _ = _
         rw [HE.out, loopW_two HT.out HE8.out (HKK.out.symm.trans h5)]
         rfl
        clear HE h5
        obtain ⟨q, cc, HRW, HG, HA, HP, HK⟩ := HU11.out
        have HRW := Lib.hid HRW
        have HG := Lib.hid HG
        have HA := Lib.hid HA
        have HP := Lib.hid HP
        have HK := Lib.hid HK
        generalize (acc ++ [Ex.mk mk mv mn ms]) = acc2 at HE11 HRW HG HU11 ⊢
        obtain ⟨x0, y0, x1, y1, x2, y2, x3, y3⟩ := HG.out.all4
        obtain ⟨p0, z0, p1, z1, p2, z2, p3, z3⟩ := HA.out.all4
        go_wp2_with fail
        have hk := kp_set4 w11 W.heap.size (.int .i64 kk) (.string ⟨#[]⟩) (.string ⟨#[]⟩) (.slice q acc2.length cc)
        have hA := HA.out.set4 (.int .i64 kk) (.string ⟨#[]⟩) (.string ⟨#[]⟩) (.slice q acc2.length cc)
        exact bodyPost_ret (resE rfl hA rfl) rfl (.inl ⟨_, _, _, HE11.out, rfl, ((VE.kp (HRW.out.rdE kk [] []) hk (Nat.lt_succ_self _)).low (Nat.le_succ _)), HP.out.kp hk HLT.out HK.out.2.2.2.1, HK.out.andThen hk (Nat.le_refl _)⟩)
       ·have h5' : (kk == 5) = false := by simp [h5]
        have HE11 : Hid (unitsW ts U s = finU kk (loopW ts U sg n (acc ++ [Ex.mk mk mv mn ms]) s8)) := by
         show _ = _
         rw [HE.out, loopW_more HT.out HE8.out (fun h => h5 (HKK.out.trans h))]
        go_wp2_with fail
        go_roundw
        case rel => exact ⟨n, acc ++ [Ex.mk mk mv mn ms], s8, by have := HS8.out; omega, by rw [List.length_append, List.length_singleton]; have := HS8.out; omega, HU11.out, HS8.out.1, HO8.out, HE11.out⟩
        case measure => rw [HPL.out, PP.plc (by obtain ⟨_, _, _, _, _, h, _⟩ := HU11.out; exact h)]; have := HS8.out; omega
    | false =>
     have HE11 : Hid (unitsW ts U s = .ok (.mk kk [] [] acc) s2) := by
      show _ = _
      rw [HE.out, loopW_end (of_decide_eq_false hd.symm)]; rfl
     have HP : Hid (PP w6 pb tb c ts s2) := p6
     have HG := Lib.hid HG6.out
     have HA := Lib.hid HA6.out
     have HRW := Lib.hid HRW6.out
     have HK := Lib.hid HK6.out
     clear p6 k6 HSK hd HG6 HA6 HRW6 HK6
     obtain ⟨x0, y0, x1, y1, x2, y2, x3, y3⟩ := HG.out.all4
     obtain ⟨p0, z0, p1, z1, p2, z2, p3, z3⟩ := HA.out.all4
     go_wp2_with fail
     have hk := kp_set4 w6 W.heap.size (.int .i64 kk) (.string ⟨#[]⟩) (.string ⟨#[]⟩) (.slice q acc.length cc)
     have hA := HA.out.set4 (.int .i64 kk) (.string ⟨#[]⟩) (.string ⟨#[]⟩) (.slice q acc.length cc)
     exact bodyPost_ret (resE rfl hA rfl) rfl (.inl ⟨_, _, _, HE11.out, rfl, ((VE.kp (HRW.out.rdE kk [] []) hk (Nat.lt_succ_self _)).low (Nat.le_succ _)), HP.out.kp hk HLT.out HK.out.2.2.2.1, HK.out.andThen hk (Nat.le_refl _)⟩)
 ·have HK1 := Lib.hid (HK0.out.trans k1)
  have HE2 : Hid (unitsW ts U s = .bad k i) := by
   show _ = _
   unfold unitsW
   rw [e1]; rfl
  clear e1 k1 HUC
  go_wp2_with fail
  exact ⟨rfl, .inr ⟨k, i, HE2.out, rfl, HK1.out⟩⟩
end
end Go.Proofs.YteieimchleioaaaGreatDoor
/-
  parse's units at every depth, expression.
-/
namespace Go.Proofs.YteieimchleioaaaGreatDoor
open Go.ChangeShapes Go.WideShapes Go.ChangeAt Go.RowKit
set_option linter.unusedVariables false

theorem units_all {pb tb c : Nat} {ts : List Tok} (ho : OkTs ts) : ∀ (d : Nat) (W : World) (s : PS), PP W pb tb c ts s → s.i < ts.length → s.o + d = 14 → Calls Tryz.prog 55 #[.pointer (some ⟨pb, 0, none⟩)] W (QR pb tb c ts W (unitsF ts d s) (VE W.heap.size))
 | 0, W, s, h, hi, hd => by
  rw [unitsF_eq]
  exact units_any ho h hi (keeps_unit ho 0) fun W' s' hp hi' ho' => unit_any (U := none) ho hp hi' fun ht W2 hp2 => group_many hp2 hi' (by omega)
 | d + 1, W, s, h, hi, hd => by
  rw [unitsF_eq]
  refine units_any ho h hi (keeps_unit ho (d + 1)) fun W' s' hp hi' ho' => unit_any (U := some (unitsF ts d)) ho hp hi' fun ht W2 hp2 => ?_
  exact group_any ho hp2 hi' ht (by omega) (keeps_units ho d) fun W3 hp3 => units_all ho d W3 _ hp3 (ho.step (by rw [ht]; simp)) (by show s'.o + 1 + d = 14; omega)
section
variable {W : World} {pb tb c : Nat} {ts : List Tok} {s : PS}
set_option maxRecDepth 100000 in
set_option maxHeartbeats 2000000 in
theorem expr_any (ho : OkTs ts) (h : PP W pb tb c ts s) (hi : s.i < ts.length) : Calls Tryz.prog 28 #[.pointer (some ⟨pb, 0, none⟩)] W (QR pb tb c ts W (exprF ts s) (VE W.heap.size)) := by
 have hb0 : Below W.heap.size W (W.alloc (.cells #[.int .i64 0, .string ⟨#[]⟩, .string ⟨#[]⟩, .slice none 0 0] 38)) := (Below.refl _ _).alloc (Nat.le_refl _) _
 have hp0 := h.later hb0
 have hk0 := Kp.of (pb := pb) hb0
 have hA0 : Arr (W.alloc (.cells #[.int .i64 0, .string ⟨#[]⟩, .string ⟨#[]⟩, .slice none 0 0] 38)) 38 W.heap.size [.int .i64 0, .string ⟨#[]⟩, .string ⟨#[]⟩, .slice none 0 0] := Arr.new' _ _ _ _ rfl
 have HLT : Hid (pb < W.heap.size) := h.1.lt
 have a2 := hp0.1.cell 2
 have a3 := hp0.1.cell 3
 have f2 := hp0.1.free 2
 have f3 := hp0.1.free 3
 simp only [List.getElem?_cons_zero, List.getElem?_cons_succ] at a2 a3
 have hp1 : PP ((W.alloc (.cells #[.int .i64 0, .string ⟨#[]⟩, .string ⟨#[]⟩, .slice none 0 0] 38)).setCell ⟨pb, 2, none⟩ (.int .i64 0)) pb tb c ts ⟨s.i, 0, s.l⟩ := hp0.set (by simp)
 have HP2 : Hid (PP (((W.alloc (.cells #[.int .i64 0, .string ⟨#[]⟩, .string ⟨#[]⟩, .slice none 0 0] 38)).setCell ⟨pb, 2, none⟩ (.int .i64 0)).setCell ⟨pb, 3, none⟩ (.int .i64 0)) pb tb c ts ⟨s.i, 0, 0⟩) := hp1.set (by simp)
 have HK2 := Lib.hid ((hk0.set 2 (.int .i64 0)).set 3 (.int .i64 0))
 have HA2 : Hid (Arr (((W.alloc (.cells #[.int .i64 0, .string ⟨#[]⟩, .string ⟨#[]⟩, .slice none 0 0] 38)).setCell ⟨pb, 2, none⟩ (.int .i64 0)).setCell ⟨pb, 3, none⟩ (.int .i64 0)) 38 W.heap.size [.int .i64 0, .string ⟨#[]⟩, .string ⟨#[]⟩, .slice none 0 0]) := (hA0.setCell (by have := HLT.out; simp only [ne_eq]; omega) _).setCell (by have := HLT.out; simp only [ne_eq]; omega) _
 have HU := Lib.hid (units_all ho 14 _ _ HP2.out hi rfl)
 have HS2 : Hid (W.heap.size + 1 ≤ (((W.alloc (.cells #[.int .i64 0, .string ⟨#[]⟩, .string ⟨#[]⟩, .slice none 0 0] 38)).setCell ⟨pb, 2, none⟩ (.int .i64 0)).setCell ⟨pb, 3, none⟩ (.int .i64 0)).heap.size) := HA2.out.lt
 have HE : Hid (exprF ts s = unitsF ts 14 ⟨s.i, 0, 0⟩) := rfl
 clear h hi hb0 hp0 hk0 hA0 hp1 ho
 go_enter Tryz.func28, Tryz.ntmps28
 go_wp2_with fail
 refine HU.out.mono ?_
 rintro r w5 (⟨e, s5, v, e5, rfl, r5, p5, k5⟩ | ⟨k, i, e5, rfl, k5⟩)
 ·obtain ⟨mk, mv, mn, ms⟩ := e
  have HR5 : Hid (VE (W.heap.size + 1) (.mk mk mv mn ms) w5 v) := VE.low r5 HS2.out
  obtain ⟨q4, c4, rfl, _, _⟩ := RdE.form r5
  unfold exv at HR5 ⊢
  dsimp only [Ex.kind, Ex.via, Ex.nm, Ex.kids] at HR5 ⊢
  have HA5 := Lib.hid (k5.arr HA2.out (by have := HLT.out; omega))
  have HP5 := Lib.hid p5
  have HK5 := Lib.hid (HK2.out.trans k5)
  have HE5 : Hid (exprF ts s = .ok (.mk mk mv mn ms) s5) := HE.out.trans e5
  clear e5 r5 p5 k5 HU a2 a3 f2 f3
  obtain ⟨x0, y0, x1, y1, x2, y2, x3, y3⟩ := HA5.out.all4
  go_wp2_with fail
  have hk := kp_set4 w5 W.heap.size (.int .i64 mk) (.string (bstr mv)) (.string (bstr mn)) (.slice q4 ms.length c4)
  have hA := HA5.out.set4 (.int .i64 mk) (.string (bstr mv)) (.string (bstr mn)) (.slice q4 ms.length c4)
  exact bodyPost_ret (resE rfl hA rfl) rfl (.inl ⟨_, _, _, HE5.out, rfl, ((VE.kp HR5.out hk (Nat.lt_succ_self _)).low (Nat.le_succ _)), HP5.out.kp hk HLT.out HK5.out.2.2.2.1, HK5.out.andThen hk (Nat.le_refl _)⟩)
 ·have HK5 := Lib.hid (HK2.out.trans k5)
  have HE5 : Hid (exprF ts s = .bad k i) := HE.out.trans e5
  clear e5 k5 HU
  go_wp2_with fail
  exact ⟨rfl, .inr ⟨k, i, HE5.out, rfl, HK5.out⟩⟩
end
end Go.Proofs.YteieimchleioaaaGreatDoor
