/-
  parse's schema.
-/
import Derived.Test.YteieimchleioaaaGreatDoorMp5
import Derived.Defers
import Derived.Recover
import Derived.Laws.Pointers
import Derived.Test.YteieimchleioaaaGreatDoorMp2
import Derived.Deep.CutBlock
namespace Go.Proofs.YteieimchleioaaaGreatDoor
open Go.ChangeShapes Go.WideShapes Go.ChangeAt Go.RowKit
set_option linter.unusedVariables false

def VS (B : Nat) (l : List DefB) (w : World) (v : Value) : Prop := ∃ u, v = .agg #[u] ∧ RdK kdDef (Bt B w.heap.size) w l u
theorem VS.kp {B g : Nat} {l : List DefB} {w w' : World} {v : Value} (h : VS B l w v) (hk : Kp g w w') (hg : g < B) : VS B l w' v := by
 obtain ⟨u, h1, h2⟩ := h
 exact ⟨u, h1, h2.kp hk hg⟩
theorem VS.low {B B' : Nat} {l : List DefB} {w : World} {v : Value} (h : VS B l w v) (hb : B' ≤ B) : VS B' l w v := by
 obtain ⟨u, h1, h2⟩ := h
 exact ⟨u, h1, h2.imp fun b hb' => ⟨Nat.le_trans hb hb'.1, hb'.2⟩⟩
theorem VS.form {B : Nat} {l : List DefB} {w : World} {v : Value} (h : VS B l w v) : ∃ q c, v = .agg #[.slice q l.length c] ∧ RdK kdDef (Bt B w.heap.size) w l (.slice q l.length c) := by
 obtain ⟨u, rfl, h2⟩ := h
 obtain ⟨q, c, rfl, h3⟩ := h2
 exact ⟨q, c, rfl, q, c, rfl, h3⟩
theorem Arr.setS {w : World} {t : TypeId} {g : Nat} {y0 : Value} (h : Arr w t g [y0]) (x0 : Value) : Arr (w.setCell ⟨g, 0, none⟩ x0) t g [x0] := (h.set 0 x0)
theorem kp_setS (w : World) (g : Nat) (x0 : Value) : Kp g w (w.setCell ⟨g, 0, none⟩ x0) := ((Kp.of (pb := g) (Below.refl _ _)).set 0 x0)
theorem resS {fn : Func} {p : Tmp} (h : fn.results = #[.cell p 25]) {tmps : Array Value} {w : World} {g : Nat} {x0 : Value} (hA : Arr w 25 g [x0]) (hp : tmps.getD p undef = .pointer (some ⟨g, 0, none⟩)) :
  (results fn tmps).run Tryz.prog w = .ok (.agg #[x0]) w :=
 results_cell_row h tmps w g 25 #[x0] (0, 0) _ hp hA Tryz.underlying25 rfl (by kernel_rfl)
theorem defsF_end {ts : List Tok} {n : Nat} {acc : List DefB} {s : PS} (h1 : ¬ txt ts s.i = wDefB) : defsF ts (n + 1) acc s = .ok acc s := by rw [defsF, if_neg h1]
theorem defsF_many {ts : List Tok} {n : Nat} {acc : List DefB} {s : PS} (h : txt ts s.i = wDefB) (hl : ¬ acc.length < 64) : defsF ts (n + 1) acc s = .bad 15 s.i := by rw [defsF, if_pos h, if_neg hl]
theorem defsF_bad {ts : List Tok} {n : Nat} {acc : List DefB} {s : PS} {k i : Nat} (h : txt ts s.i = wDefB) (hl : acc.length < 64) (he : defF ts s = .bad k i) : defsF ts (n + 1) acc s = .bad k i := by rw [defsF, if_pos h, if_pos hl, he]; rfl
theorem defsF_ok {ts : List Tok} {n : Nat} {acc : List DefB} {s s1 : PS} {m : DefB} (h : txt ts s.i = wDefB) (hl : acc.length < 64) (he : defF ts s = .ok m s1) : defsF ts (n + 1) acc s = defsF ts n (acc ++ [m]) s1 := by rw [defsF, if_pos h, if_pos hl, he]; rfl
theorem keeps_members {ts : List Tok} (h : OkTs ts) : ∀ (n : Nat) (acc : List MemB) s l s', s.i < ts.length → membersF ts n acc s = .ok l s' → s'.i < ts.length
 | 0, acc, s, l, s', hi, e => by rw [membersF] at e; cases e; exact hi
 | n + 1, acc, s, l, s', hi, e => by
  rw [membersF] at e
  split at e
  ·split at e
   ·obtain ⟨m, s1, e1, e⟩ := then_some e
    exact keeps_members h n _ _ _ _ (keeps_member h _ _ _ hi e1) e
   ·cases e
  ·cases e; exact hi
theorem keeps_def {ts : List Tok} (h : OkTs ts) : ∀ s m s', s.i < ts.length → defF ts s = .ok m s' → s'.i < ts.length := by
 intro s m s' hi e
 unfold defF at e
 obtain ⟨_, s0, e0, e⟩ := then_some e
 obtain ⟨n, s1, e1, e⟩ := then_some e
 obtain ⟨_, s2, e2, e⟩ := then_some e
 obtain ⟨l, s3, e3, e⟩ := then_some e
 obtain ⟨_, s4, e4, e⟩ := then_some e
 cases e
 have k0 := (keeps_want h (by decide) _ _ _ hi e0).1
 have k1 := (keeps_name h _ _ _ k0 e1).1
 have k2 := (keeps_want h (by decide) _ _ _ k1 e2).1
 have k3 := keeps_members h _ _ _ _ _ k2 e3
 exact (keeps_want h (by decide) _ _ _ k3 e4).1
theorem keeps_defs {ts : List Tok} (h : OkTs ts) : ∀ (n : Nat) (acc : List DefB) s l s', s.i < ts.length → defsF ts n acc s = .ok l s' → s'.i < ts.length
 | 0, acc, s, l, s', hi, e => by rw [defsF] at e; cases e; exact hi
 | n + 1, acc, s, l, s', hi, e => by
  rw [defsF] at e
  split at e
  ·split at e
   ·obtain ⟨m, s1, e1, e⟩ := then_some e
    exact keeps_defs h n _ _ _ _ (keeps_def h _ _ _ hi e1) e
   ·cases e
  ·cases e; exact hi
section
variable {W : World} {pb tb c : Nat} {ts : List Tok} {s : PS}
set_option maxRecDepth 100000 in
set_option maxHeartbeats 2000000 in
theorem schema_any (ho : OkTs ts) (h : PP W pb tb c ts s) (hi : s.i < ts.length) : Calls Tryz.prog 14 #[.pointer (some ⟨pb, 0, none⟩)] W (QR pb tb c ts W (schemaR ts s) (VS W.heap.size)) := by
 have hb0 : Below W.heap.size W (W.alloc (.cells #[.slice none 0 0] 25)) := (Below.refl _ _).alloc (Nat.le_refl _) _
 have HP0 := Lib.hid (h.later hb0)
 have HK0 := Lib.hid (Kp.of (pb := pb) hb0)
 have HA0 : Hid (Arr (W.alloc (.cells #[.slice none 0 0] 25)) 25 W.heap.size [.slice none 0 0]) := Arr.new' _ _ _ _ rfl
 have HLT : Hid (pb < W.heap.size) := h.1.lt
 have HH := Lib.hid hi
 have HO := Lib.hid ho
 clear h hi hb0 ho
 go_enter Tryz.func14, Tryz.ntmps14
 go_wp2_with fail
 go_loopw [4] (fun _ wr => ∃ (m : Nat) (acc : List DefB) (s4 : PS) (q : Option Addr) (cc : Nat), acc.length + m = 65 ∧ acc.length ≤ 64 ∧ Hid (PRow kdDef (W.heap.size + 1) (fun _ => False) wr (.slice q acc.length cc) acc) ∧ Hid (Arr wr 25 W.heap.size [.slice q acc.length cc]) ∧ Hid (PP wr pb tb c ts s4) ∧ Hid (s4.i < ts.length) ∧ Hid (Kp pb W wr) ∧ Hid (schemaR ts s = defsF ts m acc s4)) (fun _ wr => 65 - mlen W.heap.size 0 wr)
 case atStart => exact ⟨65, [], s, none, 0, rfl, by simp, PRow.nil _ _ _ _, HA0.out, HP0.out, HH.out, HK0.out, rfl⟩
 case round =>
  obtain ⟨m, acc, s4, q, cc, hm, h64, HRW, HA, HP, HS4, HK, HE⟩ := hrel
  obtain ⟨m, rfl⟩ : ∃ j, m = j + 1 := ⟨m - 1, by omega⟩
  have HM := Lib.hid hm
  have HI1 := Lib.hid (is_any HP.out HS4.out ⟨#[100, 101, 102, 105, 110, 105, 116, 105, 111, 110]⟩ wDefB rfl)
  obtain ⟨d1, hd1⟩ : ∃ d, d = decide (txt ts s4.i = wDefB) := ⟨_, rfl⟩
  have HD1 := Lib.hid hd1
  rw [← hd1] at HI1
  clear hd1
  go_wp2_with fail
  refine HI1.out.mono ?_
  rintro r w6 ⟨rfl, b5⟩
  have HRW6 := Lib.hid (HRW.out.later b5)
  have HA6 := Lib.hid (HA.out.later b5)
  have HP6 := Lib.hid (HP.out.later b5)
  have HK6 := Lib.hid (HK.out.trans (Kp.of (pb := pb) b5))
  clear b5 HI1
  cases d1 with
  | true =>
   have HT := Lib.hid (of_decide_eq_true HD1.out.symm)
   obtain ⟨x0, y0⟩ := HA6.out.all1
   by_cases h6 : acc.length < 64
   ·have hl1 : (acc.length : Int) < 64 := by omega
    have HA64 := Lib.hid h6
    have HAC : Hid (acc.length + 1 ≤ 200000) := by show _ ≤ _; omega
    clear h6
    go_wp2_with fail
    refine (need_t 15).mono ?_
    rintro r w6 ⟨rfl, rfl⟩
    go_upto_region 3 with (fail)
    clear x0 y0
    refine wp_region_held_drew (S := fun _ => True) (by kernel_rfl) trivial (fun hHeld => ?_)
    try simp only [Act.put]
    have hb7 : Below w6.heap.size w6 w6.drew := (Below.refl _ _).drew
    have HP7 := Lib.hid (HP6.out.later hb7)
    have HK7 := Lib.hid (HK6.out.trans (Kp.of (pb := pb) hb7))
    have HA7 := Lib.hid (HA6.out.later hb7)
    have HRW7 := Lib.hid (HRW6.out.later hb7)
    clear hb7
    generalize w6.drew = w7 at HP7 HK7 HA7 HRW7 ⊢
    have HN7 := Lib.hid (def_any HO.out HP7.out HS4.out)
    have HGL : Hid (W.heap.size < w7.heap.size) := HA7.out.lt
    have HBL : Hid (∀ b, (Value.slice q acc.length cc).ownBlock = some b → b < w7.heap.size) := fun b hb => by obtain ⟨_, h, _⟩ := HRW7.out; exact (h.lt b hb).2
    refine wpAnyH_take (i := 0) (oi := ⟨some 11, _, _, _, _, _⟩) (v := .pointer (some ⟨W.heap.size, 0, none⟩)) rfl (by kernel_rfl) (by kernel_rfl) (by kernel_rfl) (fun _ _ _ h => h) (.inl ⟨by rfl, fun w' hSw => ?_⟩) hHeld ?_
    focus (skip; clear hHeld; go_simp)
    try simp only [Act.put, List.setIfInBounds_toArray, List.set_cons_zero, List.set_cons_succ]
    refine wpAnyH_take (i := 2) (oi := ⟨some 13, _, _, _, _, _⟩) (v := .pointer (some ⟨pb, 0, none⟩)) rfl (by kernel_rfl) (by kernel_rfl) (by kernel_rfl) (fun _ _ _ h => h) (.inl ⟨by rfl, fun w' hSw => ?_⟩) hHeld ?_
    focus (skip; clear hHeld; go_simp)
    try simp only [Act.put, List.setIfInBounds_toArray, List.set_cons_zero, List.set_cons_succ]
    refine wpAnyH_ready (rs := [1, 3]) (by kernel_rfl) (by simp) ?_
    refine AllReadyH.cons (o := ⟨some 12, _, _, _, _, _⟩) rfl (fun K' hK' => ?_) (AllReadyH.cons (o := ⟨some 14, _, _, _, _, _⟩) rfl (fun K' hK' => ?_) AllReadyH.nil)
    ·have x0 := HA7.out.cell 0
     have y0 := HA7.out.free 0
     simp only [List.getElem?_cons_zero] at x0
     go_simp
     clear x0 y0
     refine hK'.out _ _ trivial (fun _ => ?_)
     clear hK' K'
     try simp only [Act.put, List.setIfInBounds_toArray, List.set_cons_zero, List.set_cons_succ]
     refine wpAnyH_ready (rs := [3]) (by kernel_rfl) (by simp) ?_
     refine AllReadyH.cons (o := ⟨some 14, _, _, _, _, _⟩) rfl (fun K' hK' => ?_) AllReadyH.nil
     refine stepw_calls (by rfl) ?_ HN7.out (fun w => QR.grown w) ?_ ?_
     focus go_simp
     ·rintro ch w8 hpan
      obtain ⟨k, i, e8, rfl, k8⟩ := hpan.pan
      have HK8 := Lib.hid (HK7.out.trans k8)
      have HE2 : Hid (schemaR ts s = .bad k i) := by
       show _ = _
       rw [HE.out, defsF_bad HT.out HA64.out e8]
      clear e8 k8 hpan
      exact ⟨rfl, .inr ⟨k, i, HE2.out, rfl, HK8.out⟩⟩
     rintro v w8 hret
     obtain ⟨e, s8, e8, r8, p8, k8⟩ := hret.ret
     have HE8 := Lib.hid e8
     have HS8 : Hid (s8.i < ts.length) := keeps_def HO.out _ _ _ HS4.out e8
     obtain ⟨n1, n2⟩ := e
     obtain ⟨q5, c5, rfl, r8b⟩ := VD.form r8
     have HR8 := Lib.hid r8b
     clear r8 r8b
     have HRW8 := Lib.hid (HRW7.out.turn (w' := w8) k8.2.2.2.1 (fun b hb hl _ => k8.2.2.2.2 b hl (by have := HLT.out; omega)))
     have HA8 := Lib.hid (k8.arr HA7.out (by have := HLT.out; omega))
     have HP8 := Lib.hid p8
     have HK8 := Lib.hid (HK7.out.trans k8)
     clear e8 p8 k8 hret
     refine hK'.out _ _ trivial (fun _ => ?_)
     clear hK' K'
     try simp only [Act.put, List.setIfInBounds_toArray, List.set_cons_zero, List.set_cons_succ]
     refine wpAnyH_ready (rs := [4]) (by kernel_rfl) (by simp) ?_
     refine AllReadyH.cons (o := ⟨some 15, _, _, _, _, _⟩) rfl (fun K' hK' => ?_) AllReadyH.nil
     go_simp
     refine hK'.out _ _ trivial (fun _ => ?_)
     clear hK' K'
     try simp only [Act.put, List.setIfInBounds_toArray, List.set_cons_zero, List.set_cons_succ]
     have HB9 : Hid (Below w8.heap.size w8 (w8.alloc (.cells #[.string (bstr n1), .slice q5 n2.length c5] 44))) := (Below.refl _ _).alloc (Nat.le_refl _) _
     have HRW9 := Lib.hid (HRW8.out.later HB9.out)
     have HA9 := Lib.hid (HA8.out.later HB9.out)
     have HP9 := Lib.hid (HP8.out.later HB9.out)
     have HK9 := Lib.hid (HK8.out.trans (Kp.of HB9.out))
     have HE9 : Hid (Arr (w8.alloc (.cells #[.string (bstr n1), .slice q5 n2.length c5] 44)) 44 w8.heap.size [.string (bstr n1), .slice q5 n2.length c5]) := Arr.new' _ _ _ _ rfl
     have HR9 : Hid (kdDef.rd (SubX (W.heap.size + 1) (fun _ => False) (w8.alloc (.cells #[.string (bstr n1), .slice q5 n2.length c5] 44)) (.slice q acc.length cc)) (w8.alloc (.cells #[.string (bstr n1), .slice q5 n2.length c5] 44)) (n1, n2) [.string (bstr n1), .slice q5 n2.length c5]) := kdDef.imp (fun b hb => ⟨by have := HGL.out; have := hb.1; omega, Nat.lt_of_lt_of_le hb.2 HB9.out.size, fun e => by have h1 := (HBL.out b e.symm); have := hb.1; omega, fun h => h⟩) (kdDef.keep (fun b hb n => HB9.out.cell (p := ⟨b, n, none⟩) hb.2) HR8.out)
     generalize w8.alloc (.cells #[.string (bstr n1), .slice q5 n2.length c5] 44) = w9 at HRW9 HA9 HP9 HK9 HE9 HR9 ⊢
     clear HB9
     refine wpAnyH_ready (rs := [5]) (by kernel_rfl) (by simp) ?_
     refine AllReadyH.cons (o := ⟨some 16, _, _, _, _, _⟩) rfl (fun K' hK' => ?_) AllReadyH.nil
     refine step_row (K := kdDef) rfl (.tmp 12) (.tmp 15) rfl rfl HRW9.out rfl HE9.out HR9.out HAC.out HA9.out.lt (fun b h => h.elim) ?_
     intro v10 w10 r10 g10 o10
     have HP10 := Lib.hid (HP9.out.below (B := W.heap.size) ((Below.refl _ _).grown g10 (Nat.le_of_lt HA9.out.lt) (fun k hk => Nat.le_of_succ_le (o10 k hk).1)) HLT.out)
     have HK10 := Lib.hid (HK9.out.grown g10 (fun k hk => Nat.le_of_succ_le (o10 k hk).1))
     have HA10 : Hid (Arr w10 25 W.heap.size [.slice q acc.length cc]) := (g10.block _ HA9.out.lt (fun e => absurd (o10 _ e.symm).1 (by omega))).trans HA9.out
     have HRW10 := Lib.hid r10
     obtain ⟨q10, c10, hv10⟩ := r10.form
     rw [List.length_append, List.length_singleton] at hv10
     subst hv10
     clear r10 g10 o10
     refine hK'.out _ _ trivial (fun _ => ?_)
     clear hK' K'
     try simp only [Act.put, List.setIfInBounds_toArray, List.set_cons_zero, List.set_cons_succ]
     refine wpAnyH_take (i := 6) (oi := ⟨some 17, _, _, _, _, _⟩) (v := .pointer (some ⟨W.heap.size, 0, none⟩)) rfl (by kernel_rfl) (by kernel_rfl) (by kernel_rfl) (fun _ _ _ h => h) (.inl ⟨by rfl, fun w' hSw => ?_⟩) hHeld ?_
     focus (skip; clear hHeld; go_simp)
     try simp only [Act.put, List.setIfInBounds_toArray, List.set_cons_zero, List.set_cons_succ]
     refine wpAnyH_ready (rs := [7]) (by kernel_rfl) (by simp) ?_
     refine AllReadyH.cons (o := ⟨none, _, _, _, _, _⟩) rfl (fun K' hK' => ?_) AllReadyH.nil
     obtain ⟨x0, y0⟩ := HA10.out.all1
     go_simp
     clear x0 y0
     refine hK'.out _ _ trivial (fun _ => ?_)
     clear hK' K'
     try simp only [Act.put, List.setIfInBounds_toArray, List.set_cons_zero, List.set_cons_succ]
     have HA11 : Hid (Arr (w10.setCell ⟨W.heap.size, 0, none⟩ (.slice q10 (acc.length + 1) c10)) 25 W.heap.size [.slice q10 (acc.length + 1) c10]) := HA10.out.set 0 _
     have HRW11 := Lib.hid (HRW10.out.box (.inl (Nat.lt_succ_self _)) 0 (.slice q10 (acc.length + 1) c10))
     have HP11 := Lib.hid (HP10.out.box HLT.out 0 (.slice q10 (acc.length + 1) c10))
     have HK11 := Lib.hid (HK10.out.box (Nat.le_refl _) 0 (.slice q10 (acc.length + 1) c10))
     refine wpAnyH_done (by kernel_rfl) ?_ _
     clear HRW10 HA10 HP10 HK10 HRW9 HA9 HP9 HK9 HE9 HR9 HRW8 HA8 HP8 HK8 HR8
     generalize (w10.setCell ⟨W.heap.size, 0, none⟩ (.slice q10 (acc.length + 1) c10)) = w11 at HA11 HRW11 HP11 HK11 ⊢
     have HE11 : Hid (schemaR ts s = defsF ts m (acc ++ [(n1, n2)]) s8) := by
      show _ = _
      rw [HE.out, defsF_ok HT.out HA64.out HE8.out]
     go_wp2_with fail
     go_roundw
     case rel => exact ⟨m, acc ++ [(n1, n2)], s8, q10, c10, by rw [List.length_append, List.length_singleton]; omega, by rw [List.length_append, List.length_singleton]; have := HA64.out; omega, by rw [List.length_append, List.length_singleton]; exact HRW11.out, by rw [List.length_append, List.length_singleton]; exact HA11.out, HP11.out, HS8.out, HK11.out, HE11.out⟩
     case measure => rw [mlen_arr HA11.out 0 rfl, mlen_arr HA.out 0 rfl]; have := HA64.out; omega
    ·refine stepw_calls (by rfl) ?_ HN7.out (fun w => QR.grown w) ?_ ?_
     focus go_simp
     ·rintro ch w8 hpan
      obtain ⟨k, i, e8, rfl, k8⟩ := hpan.pan
      have HK8 := Lib.hid (HK7.out.trans k8)
      have HE2 : Hid (schemaR ts s = .bad k i) := by
       show _ = _
       rw [HE.out, defsF_bad HT.out HA64.out e8]
      clear e8 k8 hpan
      exact ⟨rfl, .inr ⟨k, i, HE2.out, rfl, HK8.out⟩⟩
     rintro v w8 hret
     obtain ⟨e, s8, e8, r8, p8, k8⟩ := hret.ret
     have HE8 := Lib.hid e8
     have HS8 : Hid (s8.i < ts.length) := keeps_def HO.out _ _ _ HS4.out e8
     obtain ⟨n1, n2⟩ := e
     obtain ⟨q5, c5, rfl, r8b⟩ := VD.form r8
     have HR8 := Lib.hid r8b
     clear r8 r8b
     have HRW8 := Lib.hid (HRW7.out.turn (w' := w8) k8.2.2.2.1 (fun b hb hl _ => k8.2.2.2.2 b hl (by have := HLT.out; omega)))
     have HA8 := Lib.hid (k8.arr HA7.out (by have := HLT.out; omega))
     have HP8 := Lib.hid p8
     have HK8 := Lib.hid (HK7.out.trans k8)
     clear e8 p8 k8 hret
     refine hK'.out _ _ trivial (fun _ => ?_)
     clear hK' K'
     try simp only [Act.put, List.setIfInBounds_toArray, List.set_cons_zero, List.set_cons_succ]
     refine wpAnyH_ready (rs := [1, 4]) (by kernel_rfl) (by simp) ?_
     refine AllReadyH.cons (o := ⟨some 12, _, _, _, _, _⟩) rfl (fun K' hK' => ?_) (AllReadyH.cons (o := ⟨some 15, _, _, _, _, _⟩) rfl (fun K' hK' => ?_) AllReadyH.nil)
     ·have x0 := HA8.out.cell 0
      have y0 := HA8.out.free 0
      simp only [List.getElem?_cons_zero] at x0
      go_simp
      clear x0 y0
      refine hK'.out _ _ trivial (fun _ => ?_)
      clear hK' K'
      try simp only [Act.put, List.setIfInBounds_toArray, List.set_cons_zero, List.set_cons_succ]
      refine wpAnyH_ready (rs := [4]) (by kernel_rfl) (by simp) ?_
      refine AllReadyH.cons (o := ⟨some 15, _, _, _, _, _⟩) rfl (fun K' hK' => ?_) AllReadyH.nil
      go_simp
      refine hK'.out _ _ trivial (fun _ => ?_)
      clear hK' K'
      try simp only [Act.put, List.setIfInBounds_toArray, List.set_cons_zero, List.set_cons_succ]
      have HB9 : Hid (Below w8.heap.size w8 (w8.alloc (.cells #[.string (bstr n1), .slice q5 n2.length c5] 44))) := (Below.refl _ _).alloc (Nat.le_refl _) _
      have HRW9 := Lib.hid (HRW8.out.later HB9.out)
      have HA9 := Lib.hid (HA8.out.later HB9.out)
      have HP9 := Lib.hid (HP8.out.later HB9.out)
      have HK9 := Lib.hid (HK8.out.trans (Kp.of HB9.out))
      have HE9 : Hid (Arr (w8.alloc (.cells #[.string (bstr n1), .slice q5 n2.length c5] 44)) 44 w8.heap.size [.string (bstr n1), .slice q5 n2.length c5]) := Arr.new' _ _ _ _ rfl
      have HR9 : Hid (kdDef.rd (SubX (W.heap.size + 1) (fun _ => False) (w8.alloc (.cells #[.string (bstr n1), .slice q5 n2.length c5] 44)) (.slice q acc.length cc)) (w8.alloc (.cells #[.string (bstr n1), .slice q5 n2.length c5] 44)) (n1, n2) [.string (bstr n1), .slice q5 n2.length c5]) := kdDef.imp (fun b hb => ⟨by have := HGL.out; have := hb.1; omega, Nat.lt_of_lt_of_le hb.2 HB9.out.size, fun e => by have h1 := (HBL.out b e.symm); have := hb.1; omega, fun h => h⟩) (kdDef.keep (fun b hb n => HB9.out.cell (p := ⟨b, n, none⟩) hb.2) HR8.out)
      generalize w8.alloc (.cells #[.string (bstr n1), .slice q5 n2.length c5] 44) = w9 at HRW9 HA9 HP9 HK9 HE9 HR9 ⊢
      clear HB9
      refine wpAnyH_ready (rs := [5]) (by kernel_rfl) (by simp) ?_
      refine AllReadyH.cons (o := ⟨some 16, _, _, _, _, _⟩) rfl (fun K' hK' => ?_) AllReadyH.nil
      refine step_row (K := kdDef) rfl (.tmp 12) (.tmp 15) rfl rfl HRW9.out rfl HE9.out HR9.out HAC.out HA9.out.lt (fun b h => h.elim) ?_
      intro v10 w10 r10 g10 o10
      have HP10 := Lib.hid (HP9.out.below (B := W.heap.size) ((Below.refl _ _).grown g10 (Nat.le_of_lt HA9.out.lt) (fun k hk => Nat.le_of_succ_le (o10 k hk).1)) HLT.out)
      have HK10 := Lib.hid (HK9.out.grown g10 (fun k hk => Nat.le_of_succ_le (o10 k hk).1))
      have HA10 : Hid (Arr w10 25 W.heap.size [.slice q acc.length cc]) := (g10.block _ HA9.out.lt (fun e => absurd (o10 _ e.symm).1 (by omega))).trans HA9.out
      have HRW10 := Lib.hid r10
      obtain ⟨q10, c10, hv10⟩ := r10.form
      rw [List.length_append, List.length_singleton] at hv10
      subst hv10
      clear r10 g10 o10
      refine hK'.out _ _ trivial (fun _ => ?_)
      clear hK' K'
      try simp only [Act.put, List.setIfInBounds_toArray, List.set_cons_zero, List.set_cons_succ]
      refine wpAnyH_take (i := 6) (oi := ⟨some 17, _, _, _, _, _⟩) (v := .pointer (some ⟨W.heap.size, 0, none⟩)) rfl (by kernel_rfl) (by kernel_rfl) (by kernel_rfl) (fun _ _ _ h => h) (.inl ⟨by rfl, fun w' hSw => ?_⟩) hHeld ?_
      focus (skip; clear hHeld; go_simp)
      try simp only [Act.put, List.setIfInBounds_toArray, List.set_cons_zero, List.set_cons_succ]
      refine wpAnyH_ready (rs := [7]) (by kernel_rfl) (by simp) ?_
      refine AllReadyH.cons (o := ⟨none, _, _, _, _, _⟩) rfl (fun K' hK' => ?_) AllReadyH.nil
      obtain ⟨x0, y0⟩ := HA10.out.all1
      go_simp
      clear x0 y0
      refine hK'.out _ _ trivial (fun _ => ?_)
      clear hK' K'
      try simp only [Act.put, List.setIfInBounds_toArray, List.set_cons_zero, List.set_cons_succ]
      have HA11 : Hid (Arr (w10.setCell ⟨W.heap.size, 0, none⟩ (.slice q10 (acc.length + 1) c10)) 25 W.heap.size [.slice q10 (acc.length + 1) c10]) := HA10.out.set 0 _
      have HRW11 := Lib.hid (HRW10.out.box (.inl (Nat.lt_succ_self _)) 0 (.slice q10 (acc.length + 1) c10))
      have HP11 := Lib.hid (HP10.out.box HLT.out 0 (.slice q10 (acc.length + 1) c10))
      have HK11 := Lib.hid (HK10.out.box (Nat.le_refl _) 0 (.slice q10 (acc.length + 1) c10))
      refine wpAnyH_done (by kernel_rfl) ?_ _
      clear HRW10 HA10 HP10 HK10 HRW9 HA9 HP9 HK9 HE9 HR9 HRW8 HA8 HP8 HK8 HR8
      generalize (w10.setCell ⟨W.heap.size, 0, none⟩ (.slice q10 (acc.length + 1) c10)) = w11 at HA11 HRW11 HP11 HK11 ⊢
      have HE11 : Hid (schemaR ts s = defsF ts m (acc ++ [(n1, n2)]) s8) := by
       show _ = _
       rw [HE.out, defsF_ok HT.out HA64.out HE8.out]
      go_wp2_with fail
      go_roundw
      case rel => exact ⟨m, acc ++ [(n1, n2)], s8, q10, c10, by rw [List.length_append, List.length_singleton]; omega, by rw [List.length_append, List.length_singleton]; have := HA64.out; omega, by rw [List.length_append, List.length_singleton]; exact HRW11.out, by rw [List.length_append, List.length_singleton]; exact HA11.out, HP11.out, HS8.out, HK11.out, HE11.out⟩
      case measure => rw [mlen_arr HA11.out 0 rfl, mlen_arr HA.out 0 rfl]; have := HA64.out; omega
     ·go_simp
      refine hK'.out _ _ trivial (fun _ => ?_)
      clear hK' K'
      try simp only [Act.put, List.setIfInBounds_toArray, List.set_cons_zero, List.set_cons_succ]
      have HB9 : Hid (Below w8.heap.size w8 (w8.alloc (.cells #[.string (bstr n1), .slice q5 n2.length c5] 44))) := (Below.refl _ _).alloc (Nat.le_refl _) _
      have HRW9 := Lib.hid (HRW8.out.later HB9.out)
      have HA9 := Lib.hid (HA8.out.later HB9.out)
      have HP9 := Lib.hid (HP8.out.later HB9.out)
      have HK9 := Lib.hid (HK8.out.trans (Kp.of HB9.out))
      have HE9 : Hid (Arr (w8.alloc (.cells #[.string (bstr n1), .slice q5 n2.length c5] 44)) 44 w8.heap.size [.string (bstr n1), .slice q5 n2.length c5]) := Arr.new' _ _ _ _ rfl
      have HR9 : Hid (kdDef.rd (SubX (W.heap.size + 1) (fun _ => False) (w8.alloc (.cells #[.string (bstr n1), .slice q5 n2.length c5] 44)) (.slice q acc.length cc)) (w8.alloc (.cells #[.string (bstr n1), .slice q5 n2.length c5] 44)) (n1, n2) [.string (bstr n1), .slice q5 n2.length c5]) := kdDef.imp (fun b hb => ⟨by have := HGL.out; have := hb.1; omega, Nat.lt_of_lt_of_le hb.2 HB9.out.size, fun e => by have h1 := (HBL.out b e.symm); have := hb.1; omega, fun h => h⟩) (kdDef.keep (fun b hb n => HB9.out.cell (p := ⟨b, n, none⟩) hb.2) HR8.out)
      generalize w8.alloc (.cells #[.string (bstr n1), .slice q5 n2.length c5] 44) = w9 at HRW9 HA9 HP9 HK9 HE9 HR9 ⊢
      clear HB9
      refine wpAnyH_ready (rs := [1]) (by kernel_rfl) (by simp) ?_
      refine AllReadyH.cons (o := ⟨some 12, _, _, _, _, _⟩) rfl (fun K' hK' => ?_) AllReadyH.nil
      obtain ⟨x0, y0⟩ := HA9.out.all1
      go_simp
      clear x0 y0
      refine hK'.out _ _ trivial (fun _ => ?_)
      clear hK' K'
      try simp only [Act.put, List.setIfInBounds_toArray, List.set_cons_zero, List.set_cons_succ]
      refine wpAnyH_ready (rs := [5]) (by kernel_rfl) (by simp) ?_
      refine AllReadyH.cons (o := ⟨some 16, _, _, _, _, _⟩) rfl (fun K' hK' => ?_) AllReadyH.nil
      refine step_row (K := kdDef) rfl (.tmp 12) (.tmp 15) rfl rfl HRW9.out rfl HE9.out HR9.out HAC.out HA9.out.lt (fun b h => h.elim) ?_
      intro v10 w10 r10 g10 o10
      have HP10 := Lib.hid (HP9.out.below (B := W.heap.size) ((Below.refl _ _).grown g10 (Nat.le_of_lt HA9.out.lt) (fun k hk => Nat.le_of_succ_le (o10 k hk).1)) HLT.out)
      have HK10 := Lib.hid (HK9.out.grown g10 (fun k hk => Nat.le_of_succ_le (o10 k hk).1))
      have HA10 : Hid (Arr w10 25 W.heap.size [.slice q acc.length cc]) := (g10.block _ HA9.out.lt (fun e => absurd (o10 _ e.symm).1 (by omega))).trans HA9.out
      have HRW10 := Lib.hid r10
      obtain ⟨q10, c10, hv10⟩ := r10.form
      rw [List.length_append, List.length_singleton] at hv10
      subst hv10
      clear r10 g10 o10
      refine hK'.out _ _ trivial (fun _ => ?_)
      clear hK' K'
      try simp only [Act.put, List.setIfInBounds_toArray, List.set_cons_zero, List.set_cons_succ]
      refine wpAnyH_take (i := 6) (oi := ⟨some 17, _, _, _, _, _⟩) (v := .pointer (some ⟨W.heap.size, 0, none⟩)) rfl (by kernel_rfl) (by kernel_rfl) (by kernel_rfl) (fun _ _ _ h => h) (.inl ⟨by rfl, fun w' hSw => ?_⟩) hHeld ?_
      focus (skip; clear hHeld; go_simp)
      try simp only [Act.put, List.setIfInBounds_toArray, List.set_cons_zero, List.set_cons_succ]
      refine wpAnyH_ready (rs := [7]) (by kernel_rfl) (by simp) ?_
      refine AllReadyH.cons (o := ⟨none, _, _, _, _, _⟩) rfl (fun K' hK' => ?_) AllReadyH.nil
      obtain ⟨x0, y0⟩ := HA10.out.all1
      go_simp
      clear x0 y0
      refine hK'.out _ _ trivial (fun _ => ?_)
      clear hK' K'
      try simp only [Act.put, List.setIfInBounds_toArray, List.set_cons_zero, List.set_cons_succ]
      have HA11 : Hid (Arr (w10.setCell ⟨W.heap.size, 0, none⟩ (.slice q10 (acc.length + 1) c10)) 25 W.heap.size [.slice q10 (acc.length + 1) c10]) := HA10.out.set 0 _
      have HRW11 := Lib.hid (HRW10.out.box (.inl (Nat.lt_succ_self _)) 0 (.slice q10 (acc.length + 1) c10))
      have HP11 := Lib.hid (HP10.out.box HLT.out 0 (.slice q10 (acc.length + 1) c10))
      have HK11 := Lib.hid (HK10.out.box (Nat.le_refl _) 0 (.slice q10 (acc.length + 1) c10))
      refine wpAnyH_done (by kernel_rfl) ?_ _
      clear HRW10 HA10 HP10 HK10 HRW9 HA9 HP9 HK9 HE9 HR9 HRW8 HA8 HP8 HK8 HR8
      generalize (w10.setCell ⟨W.heap.size, 0, none⟩ (.slice q10 (acc.length + 1) c10)) = w11 at HA11 HRW11 HP11 HK11 ⊢
      have HE11 : Hid (schemaR ts s = defsF ts m (acc ++ [(n1, n2)]) s8) := by
       show _ = _
       rw [HE.out, defsF_ok HT.out HA64.out HE8.out]
      go_wp2_with fail
      go_roundw
      case rel => exact ⟨m, acc ++ [(n1, n2)], s8, q10, c10, by rw [List.length_append, List.length_singleton]; omega, by rw [List.length_append, List.length_singleton]; have := HA64.out; omega, by rw [List.length_append, List.length_singleton]; exact HRW11.out, by rw [List.length_append, List.length_singleton]; exact HA11.out, HP11.out, HS8.out, HK11.out, HE11.out⟩
      case measure => rw [mlen_arr HA11.out 0 rfl, mlen_arr HA.out 0 rfl]; have := HA64.out; omega
   ·have hl1 : ¬ (acc.length : Int) < 64 := by omega
    have HEb : Hid (schemaR ts s = .bad 15 s4.i) := by
     show _ = _
     rw [HE.out, defsF_many HT.out h6]
    clear h6
    go_wp2_with fail
    rw [show decide ((acc.length : Int) < 64) = false from decide_eq_false (by omega)]
    refine (need_f HP6.out HS4.out 15).mono ?_
    rintro r w7 ⟨rfl, b7⟩
    have HK7 := Lib.hid (HK6.out.trans (Kp.of (pb := pb) b7))
    clear b7
    go_wp2_with fail
    exact ⟨rfl, .inr ⟨15, s4.i, HEb.out, rfl, HK7.out⟩⟩
  | false =>
   have HEb : Hid (schemaR ts s = .ok acc s4) := by
    show _ = _
    rw [HE.out, defsF_end (of_decide_eq_false HD1.out.symm)]
   have HR9 := Lib.hid HRW6.out.rdK
   obtain ⟨x0, y0⟩ := HA6.out.all1
   go_wp2_with fail
   have hk := kp_setS w6 W.heap.size (.slice q acc.length cc)
   have hA := HA6.out.setS (.slice q acc.length cc)
   have hv : VS (W.heap.size + 1) acc w6 (.agg #[.slice q acc.length cc]) := ⟨_, rfl, HR9.out⟩
   exact bodyPost_ret (resS rfl hA rfl) rfl (.inl ⟨_, _, _, HEb.out, rfl, ((VS.kp hv hk (Nat.lt_succ_self _)).low (Nat.le_succ _)), HP6.out.kp hk HLT.out HK6.out.2.2.2.1, HK6.out.andThen hk (Nat.le_refl _)⟩)
end
end Go.Proofs.YteieimchleioaaaGreatDoor
/-
  parse's read: the tokens, the rule, what it throws.
-/
namespace Go.Proofs.YteieimchleioaaaGreatDoor
open Go.ChangeShapes Go.WideShapes Go.ChangeAt Go.RowKit
set_option linter.unusedVariables false

theorem consT_mem {t x : Tok} {r : Toks} (h : x ∈ (consT t r).1) : x = t ∨ x ∈ r.1 := by
 unfold consT at h
 split at h
 ·exact List.mem_cons.1 h
 ·cases h
theorem consT_len (t : Tok) (r : Toks) : (consT t r).1.length ≤ r.1.length + 1 := by
 unfold consT
 split
 ·simp
 ·simp
/-- Offsets are not negative, and tokens are not more than bytes and one. -/
theorem tokF_offs : ∀ (n i : Nat) (l : List UInt8), (∀ t ∈ (tokF n i l).1, (0 : Int) ≤ t.2.2) ∧ (tokF n i l).1.length ≤ l.length + 1
 | 0, i, l => ⟨fun t h => (by simp [tokF] at h), by simp [tokF]⟩
 | n + 1, i, [] => ⟨fun t h => (by simp [tokF] at h; subst h; show (0 : Int) ≤ (i : Int); omega), by simp [tokF]⟩
 | n + 1, i, c :: r => by
  unfold tokF
  have hz : ∀ (k : Nat) (b : List UInt8), (0 : Int) ≤ (mkT k b i).2.2 := fun k b => by show (0 : Int) ≤ (i : Int); omega
  split
  ·rename_i hw
   have h1 := wd_len c r hw
   split
   ·have ih := tokF_offs n (i + ((c :: r).takeWhile wdB).length) ((c :: r).drop ((c :: r).takeWhile wdB).length)
    refine ⟨fun t h => ?_, ?_⟩
    ·rcases consT_mem h with rfl | h
     ·exact hz _ _
     ·exact ih.1 t h
    ·have h2 := ih.2
     have h3 := consT_len (mkT 1 ((c :: r).takeWhile wdB) i) (tokF n (i + ((c :: r).takeWhile wdB).length) ((c :: r).drop ((c :: r).takeWhile wdB).length))
     rw [List.length_drop] at h2
     rw [List.length_cons] at h2 ⊢
     omega
   ·exact ⟨fun t h => (by cases h), by simp⟩
  ·split
   ·have ih := tokF_offs n (i + 1) r
    exact ⟨ih.1, by rw [List.length_cons]; omega⟩
   ·split
    ·have ih := tokF_offs n (i + ((c :: r).takeWhile lnB).length) ((c :: r).drop ((c :: r).takeWhile lnB).length)
     exact ⟨ih.1, Nat.le_trans ih.2 (by rw [List.length_drop]; omega)⟩
    ·split
     ·have ih := tokF_offs n (i + 2) (r.drop 1)
      refine ⟨fun t h => ?_, ?_⟩
      ·rcases consT_mem h with rfl | h
       ·exact hz _ _
       ·exact ih.1 t h
      ·have h2 := ih.2
       have h3 := consT_len (mkT 2 [45, 62] i) (tokF n (i + 2) (r.drop 1))
       rw [List.length_drop] at h2
       rw [List.length_cons]
       omega
     ·split
      ·have ih := tokF_offs n (i + 1) r
       refine ⟨fun t h => ?_, ?_⟩
       ·rcases consT_mem h with rfl | h
        ·exact hz _ _
        ·exact ih.1 t h
       ·have h2 := ih.2
        have h3 := consT_len (mkT 2 [c] i) (tokF n (i + 1) r)
        rw [List.length_cons]
        omega
      ·exact ⟨fun t h => (by cases h), by simp⟩
theorem tokS_offs (l : List UInt8) (i : Nat) : offs (tokS l).1 i = (offT (tokS l).1 i : Nat) := by
 have h : (0 : Int) ≤ offs (tokS l).1 i := by
  unfold offs
  rw [List.getD_eq_getElem?_getD]
  cases h : (tokS l).1[i]? with
  | none => exact Int.le_refl _
  | some t => exact (tokF_offs _ 0 l).1 t (List.mem_of_getElem? h)
 unfold offT
 show offs (tokS l).1 i = ((offs (tokS l).1 i).toNat : Int)
 omega
theorem tokS_len (l : List UInt8) : (tokS l).1.length ≤ l.length + 1 := (tokF_offs _ 0 l).2
theorem assertF_yes (v : Value) (w : World) : (Instr.typeAssert (.iface 81 v) 20 81 true).run Tryz.prog w = .ok (.tuple #[v, .bool true]) w := by kernel_rfl
theorem assertF_nil (w : World) : (Instr.typeAssert .nilIface 20 81 true).run Tryz.prog w = .ok (.tuple #[.agg #[.int .i64 0, .int .i64 0], .bool false]) w := by kernel_rfl
set_option maxRecDepth 100000 in
set_option maxHeartbeats 2000000 in
theorem catchE (p : Addr) (x : Value) (k : Nat) (n : Int) (older : List PanicEntry) (w : World) (hc : w.cell? p = some x) (hz : w.frozen? p = false) :
  CallsD Tryz.prog 54 #[.pointer (some p)] (.panicking ({ v := flt k n, recovered := false } :: older)) w fun e u' w' =>
   e = .returned (.tuple #[]) ∧ u' = .panicking ({ v := flt k n, recovered := true } :: older) ∧ w' = (w.alloc (.cells #[.int .i64 (k : Nat), .int .i64 n] 81)).setCell p (flt k n) := by
 unfold flt
 have hp : p.block < w.heap.size := World.block_lt_of_cell? w p hc
 have hc' : (w.alloc (.cells #[.int .i64 (k : Nat), .int .i64 n] 81)).cell? p = some x := (World.cell?_alloc_lt _ _ _ hp).trans hc
 have hz' : (w.alloc (.cells #[.int .i64 (k : Nat), .int .i64 n] 81)).frozen? p = false := by
  rw [World.frozen?_of_block (Below.heap_alloc w _ p.block hp)]; exact hz
 refine callsD_of_wpS Tryz.func54 rfl fun c₀ cs hu => ?_
 apply wpS_seq
 apply wpS_region
 simp [wpOpsS, go_sem, recoverD, hu, Tryz.ntmps54, Exit.thenS, assertF_yes]
 apply wpS_seq
 apply wpS_region
 simp [wpOpsS, go_sem, Exit.thenS]
 refine wpS_cond (t := true) (by simp [Act.eval, Array.replicate]) ?_
 simp only [if_true]
 apply wpS_region
 simp [wpOpsS, go_sem, hc', hz', bodyPostS, results, Tryz.results54]
theorem idleE (p : Addr) (w : World) :
  CallsD Tryz.prog 54 #[.pointer (some p)] .returning w fun e u' w' => e = .returned (.tuple #[]) ∧ u' = .returning ∧ Below w.heap.size w w' := by
 have hb : Below w.heap.size w (w.alloc (.cells #[.int .i64 0, .int .i64 0] 81)) := (Below.refl _ _).alloc (Nat.le_refl _) _
 refine callsD_of_wpS Tryz.func54 rfl fun c₀ cs hu => ?_
 apply wpS_seq
 apply wpS_region
 simp [wpOpsS, go_sem, recoverD, hu, Tryz.ntmps54, Exit.thenS, assertF_nil]
 apply wpS_seq
 apply wpS_region
 simp [wpOpsS, go_sem, Exit.thenS]
 refine wpS_cond (t := false) (by simp [Act.eval, Array.replicate]) ?_
 simp only [Bool.false_eq_true, if_false]
 refine wpS_of_wp (wp_skip ?_)
 cases c₀
 simp_all [bodyPostS, results, Tryz.results54]
set_option maxRecDepth 100000 in
set_option maxHeartbeats 2000000 in
theorem catchS (p : Addr) (x : Value) (k : Nat) (n : Int) (older : List PanicEntry) (w : World) (hc : w.cell? p = some x) (hz : w.frozen? p = false) :
  CallsD Tryz.prog 31 #[.pointer (some p)] (.panicking ({ v := flt k n, recovered := false } :: older)) w fun e u' w' =>
   e = .returned (.tuple #[]) ∧ u' = .panicking ({ v := flt k n, recovered := true } :: older) ∧ w' = (w.alloc (.cells #[.int .i64 (k : Nat), .int .i64 n] 81)).setCell p (flt k n) := by
 unfold flt
 have hp : p.block < w.heap.size := World.block_lt_of_cell? w p hc
 have hc' : (w.alloc (.cells #[.int .i64 (k : Nat), .int .i64 n] 81)).cell? p = some x := (World.cell?_alloc_lt _ _ _ hp).trans hc
 have hz' : (w.alloc (.cells #[.int .i64 (k : Nat), .int .i64 n] 81)).frozen? p = false := by
  rw [World.frozen?_of_block (Below.heap_alloc w _ p.block hp)]; exact hz
 refine callsD_of_wpS Tryz.func31 rfl fun c₀ cs hu => ?_
 apply wpS_seq
 apply wpS_region
 simp [wpOpsS, go_sem, recoverD, hu, Tryz.ntmps31, Exit.thenS, assertF_yes]
 apply wpS_seq
 apply wpS_region
 simp [wpOpsS, go_sem, Exit.thenS]
 refine wpS_cond (t := true) (by simp [Act.eval, Array.replicate]) ?_
 simp only [if_true]
 apply wpS_region
 simp [wpOpsS, go_sem, hc', hz', bodyPostS, results, Tryz.results31]
theorem idleS (p : Addr) (w : World) :
  CallsD Tryz.prog 31 #[.pointer (some p)] .returning w fun e u' w' => e = .returned (.tuple #[]) ∧ u' = .returning ∧ Below w.heap.size w w' := by
 have hb : Below w.heap.size w (w.alloc (.cells #[.int .i64 0, .int .i64 0] 81)) := (Below.refl _ _).alloc (Nat.le_refl _) _
 refine callsD_of_wpS Tryz.func31 rfl fun c₀ cs hu => ?_
 apply wpS_seq
 apply wpS_region
 simp [wpOpsS, go_sem, recoverD, hu, Tryz.ntmps31, Exit.thenS, assertF_nil]
 apply wpS_seq
 apply wpS_region
 simp [wpOpsS, go_sem, Exit.thenS]
 refine wpS_cond (t := false) (by simp [Act.eval, Array.replicate]) ?_
 simp only [Bool.false_eq_true, if_false]
 refine wpS_of_wp (wp_skip ?_)
 cases c₀
 simp_all [bodyPostS, results, Tryz.results31]
end Go.Proofs.YteieimchleioaaaGreatDoor
/-
  parse's read: what any text is read as.
-/
namespace Go.Proofs.YteieimchleioaaaGreatDoor
open Go.ChangeShapes Go.WideShapes Go.ChangeAt Go.RowKit
set_option linter.unusedVariables false

open errAs (ErrT)
/-- What read hands back. -/
def ReadPost {α : Type} (val : Nat → α → World → Value → Prop) (zero : Value) (w : World) (r : RR α) (e : Ending) (w' : World) : Prop :=
 Below w.heap.size w w' ∧ ((∃ x v, r = .ok x ∧ e = .returned (.tuple #[v, .nilIface]) ∧ val w.heap.size x w' v) ∨ (∃ c i, c ≠ 0 ∧ r = .bad c i ∧ e = .returned (.tuple #[zero, faultN c i])))
theorem readF_lex {α : Type} {rule : List Tok → PS → PR α} {l : List UInt8} (h : ¬ (tokS l).2.1 = 0) : readF rule l = .bad (tokS l).2.1 (tokS l).2.2 := if_neg h
theorem readF_ok {α : Type} {rule : List Tok → PS → PR α} {l : List UInt8} {x : α} {s : PS} (h : (tokS l).2.1 = 0) (hr : rule (tokS l).1 ps0 = .ok x s) (he : ((tokS l).1.getD s.i tok0).1 = 3) : readF rule l = .ok x := by
 unfold readF
 rw [if_pos h, hr]
 unfold endF
 rw [PR.then_ok, if_pos he]
 rfl
theorem readF_more {α : Type} {rule : List Tok → PS → PR α} {l : List UInt8} {x : α} {s : PS} (h : (tokS l).2.1 = 0) (hr : rule (tokS l).1 ps0 = .ok x s) (he : ¬ ((tokS l).1.getD s.i tok0).1 = 3) : readF rule l = .bad 6 (offT (tokS l).1 s.i) := by
 unfold readF
 rw [if_pos h, hr]
 unfold endF
 rw [PR.then_ok, if_neg he]
 rfl
theorem readF_bad {α : Type} {rule : List Tok → PS → PR α} {l : List UInt8} {k i : Nat} (h : (tokS l).2.1 = 0) (hr : rule (tokS l).1 ps0 = .bad k i) : readF rule l = .bad k (offT (tokS l).1 i) := by
 unfold readF
 rw [if_pos h, hr]
 rfl
theorem flt_fault (l : List UInt8) (k i : Nat) : flt k (offs (tokS l).1 i) = faultN k (offT (tokS l).1 i) := by
 unfold flt faultN
 rw [tokS_offs]
theorem okTs_pos {ts : List Tok} (h : OkTs ts) : 0 < ts.length := by
 obtain ⟨us, e, rfl, _⟩ := h
 simp
/-- The parser that read makes. -/
theorem pp_new {w : World} {base : Nat} {q : Option Addr} {c : Nat} {ts : List Tok} (ho : OkTs ts) (hl : ts.length ≤ 100000) (hr : TokRow base 87 w (.slice q ts.length c) ts) (hres : ResT w) :
  ∃ tb, q = some ⟨tb, 0, none⟩ ∧ PP (w.alloc (.cells #[.slice q ts.length c, .int .i64 0, .int .i64 0, .int .i64 0] 84)) w.heap.size tb c ts ps0 := by
 have hp := okTs_pos ho
 have h1 := hr.1
 rcases hr.2 with ⟨h, hn⟩ | ⟨g, cap, cur, hv, h0, hg, hcap, _, hcz, htk⟩
 ·omega
 ·simp only [Value.slice.injEq] at hv
  obtain ⟨rfl, _, rfl⟩ := hv
  have hgl := (Array.getElem?_eq_some_iff.1 hg).1
  refine ⟨g, rfl, Arr.new' _ _ _ _ rfl, hgl, fun i hi j hj => ?_, hl, ?_, ?_⟩
  ·rw [World.cell?_alloc_lt _ _ _ hgl, cell_of_row w g _ cur _ (0, 0) hg, ← Array.getElem?_toList]
   have h2 := tks_at ts i j hi hj
   rw [show (0, [], 0) = tok0 from rfl] at h2
   rw [← h2, ← htk, List.getElem?_take, if_pos (by omega), Nat.mul_comm]
  ·exact hres.below ((Below.refl _ _).alloc (Nat.le_refl _) _) hres.lt
  ·exact hres.lt
def VA (B : Nat) (l : List AlB) (w : World) (v : Value) : Prop := RdA (Bt B w.heap.size) w l v
theorem TokRow.box {base : Nat} {e : TypeId} {w : World} {v : Value} {ts : List Tok} (h : TokRow base e w v ts) {g : Nat} (hg : g < base) (i : Nat) (x : Value) : TokRow base e (w.setCell ⟨g, i, none⟩ x) v ts := by
 refine ⟨h.1, ?_⟩
 rcases h.2 with h | ⟨k, cap, cur, rfl, h0, h1, r⟩
 ·exact .inl h
 ·exact .inr ⟨k, cap, cur, rfl, h0, (Below.heap_setCell w ⟨g, i, none⟩ x k (fun e => by have e' : k = g := e; omega)).trans h1, r⟩
theorem VE.form {B : Nat} {mk : Int} {mv mn : List UInt8} {ms : List Ex} {w : World} {v : Value} (h : VE B (.mk mk mv mn ms) w v) : ∃ q4 c4, v = .agg #[.int .i64 mk, .string (bstr mv), .string (bstr mn), .slice q4 ms.length c4] := by
 obtain ⟨q, c, h, _⟩ := RdE.form h
 exact ⟨q, c, h⟩
theorem VA.kp {B g : Nat} {l : List AlB} {w w' : World} {v : Value} (h : VA B l w v) (hk : Kp g w w') (hg : g < B) : VA B l w' v := RdA.kp h hk hg
theorem VA.low {B B' : Nat} {l : List AlB} {w : World} {v : Value} (h : VA B l w v) (hb : B' ≤ B) : VA B' l w v := RdA.low h hb
theorem VA.later {B : Nat} {l : List AlB} {w w' : World} {v : Value} (h : VA B l w v) (hb : Below w.heap.size w w') : VA B l w' v := (RdA.keep (fun b hb' n => hb.cell (p := ⟨b, n, none⟩) hb'.2) h).imp fun b hb' => ⟨hb'.1, Nat.lt_of_lt_of_le hb'.2 hb.size⟩
theorem VS.later {B : Nat} {l : List DefB} {w w' : World} {v : Value} (h : VS B l w v) (hb : Below w.heap.size w w') : VS B l w' v := by
 obtain ⟨u, h1, h2⟩ := h
 exact ⟨u, h1, (h2.keep fun b hb' n => hb.cell (p := ⟨b, n, none⟩) hb'.2).imp fun b hb' => ⟨hb'.1, Nat.lt_of_lt_of_le hb'.2 hb.size⟩⟩
theorem below_box {w0 w : World} (h : Below w0.heap.size w0 w) {g : Nat} (hg : w0.heap.size ≤ g) (i : Nat) (v : Value) : Below w0.heap.size w0 (w.setCell ⟨g, i, none⟩ v) := h.setCell (p := ⟨g, i, none⟩) hg v
set_option maxRecDepth 100000 in
set_option maxHeartbeats 4000000 in
theorem readE_any (s : ByteArray) (hs : s.size ≤ 65536) (w : World) (hr : ResT w) (hcode : ∀ (ts : List Tok) k i, exprF ts ps0 = .bad k i → k ≠ 0) : Calls Tryz.prog 27 #[.string s, .func (.func 28) #[] #[]] w (ReadPost VE (.agg #[.int .i64 0, .string ⟨#[]⟩, .string ⟨#[]⟩, .slice none 0 0]) w (readF exprF s.data.toList)) := by
 have hmf : ∀ (fn : Fn) (first cap : Array Value) (w : World), (Instr.makeFunc fn first cap).run Tryz.prog w = .ok (.func fn first cap) w := fun _ _ _ _ => rfl
 have hB2 : Below w.heap.size w ((w.alloc (.cells #[.int .i64 0, .string ⟨#[]⟩, .string ⟨#[]⟩, .slice none 0 0] 38)).alloc (.cells #[.nilIface] 27)) := ((Below.refl _ _).alloc (Nat.le_refl _) _).alloc (by simp) _
 have HA2 : Hid (Arr ((w.alloc (.cells #[.int .i64 0, .string ⟨#[]⟩, .string ⟨#[]⟩, .slice none 0 0] 38)).alloc (.cells #[.nilIface] 27)) 38 w.heap.size [.int .i64 0, .string ⟨#[]⟩, .string ⟨#[]⟩, .slice none 0 0]) := (Arr.new' _ _ _ _ rfl).alloc _
 have HC2 : Hid (Arr ((w.alloc (.cells #[.int .i64 0, .string ⟨#[]⟩, .string ⟨#[]⟩, .slice none 0 0] 38)).alloc (.cells #[.nilIface] 27)) 27 (w.heap.size + 1) [.nilIface]) := Arr.new2 _ _ _ _ _ rfl
 have HR2 : Hid (ResT ((w.alloc (.cells #[.int .i64 0, .string ⟨#[]⟩, .string ⟨#[]⟩, .slice none 0 0] 38)).alloc (.cells #[.nilIface] 27))) := hr.below hB2 hr.lt
 have HGR : Hid (0 < w.heap.size) := hr.lt
 have HLX := Lib.hid (lex_any s hs _ HR2.out)
 have HB2 := Lib.hid hB2
 have HCD := Lib.hid hcode
 obtain ⟨l, hl⟩ : ∃ l, l = s.data.toList := ⟨_, rfl⟩
 have HLS : Hid (l.length ≤ 65536) := by show _ ≤ _; rw [hl, Array.length_toList]; exact hs
 rw [← hl] at HLX ⊢
 clear hr hB2 hcode hl hs
 go_enter_defers Tryz.func27, Tryz.ntmps27
 go_wp2_with fail
 refine HLX.out.mono ?_
 rintro r w3 ⟨v, rfl, r3, b3⟩
 obtain ⟨q, c, rfl, hc⟩ := r3.form
 have HR3 : Hid (TokRow (w.heap.size + 2) 87 w3 (.slice q (tokS l).1.length c) (tokS l).1) := by
  have h := r3
  rw [show ((w.alloc (.cells #[.int .i64 0, .string ⟨#[]⟩, .string ⟨#[]⟩, .slice none 0 0] 38)).alloc (.cells #[.nilIface] 27)).heap.size = w.heap.size + 2 from by simp] at h
  exact h
 have HB3 := Lib.hid (HB2.out.trans (b3.mono HB2.out.size))
 have HA3 := Lib.hid (HA2.out.later b3)
 have HC3 := Lib.hid (HC2.out.later b3)
 have HS3 : Hid (ResT w3) := HR2.out.below b3 HR2.out.lt
 clear r3 b3 HA2 HC2 HR2 HB2 hc
 obtain ⟨e0, g0⟩ := HC3.out.all1
 by_cases h0 : (tokS l).2.1 = 0
 ·have HE0 := Lib.hid h0
  have HEF : Hid (errF (tokS l).2.1 (tokS l).2.2 = .nilIface) := by show _ = _; unfold errF; rw [if_pos h0]
  rw [HEF.out]
  have HOK : Hid (OkTs (tokS l).1) := tokF_ok _ _ _ (Nat.lt_succ_self _) h0
  have hb4 : Below w.heap.size w3 (w3.setCell ⟨w.heap.size + 1, 0, none⟩ .nilIface) := (Below.refl _ _).setCell (p := ⟨w.heap.size + 1, 0, none⟩) (Nat.le_succ _) _
  obtain ⟨tb, rfl, hpp⟩ := pp_new HOK.out (Nat.le_trans (tokS_len l) (by have := HLS.out; omega)) (HR3.out.box (g := w.heap.size + 1) (by omega) 0 .nilIface) (HS3.out.below hb4 HGR.out)
  rw [show (w3.setCell ⟨w.heap.size + 1, 0, none⟩ .nilIface).heap.size = w3.heap.size from by simp [World.setCell]] at hpp
  have HP5 := Lib.hid hpp
  have hb5 : Below (w3.setCell ⟨w.heap.size + 1, 0, none⟩ .nilIface).heap.size (w3.setCell ⟨w.heap.size + 1, 0, none⟩ .nilIface) ((w3.setCell ⟨w.heap.size + 1, 0, none⟩ .nilIface).alloc (.cells #[.slice (some ⟨tb, 0, none⟩) (tokS l).1.length c, .int .i64 0, .int .i64 0, .int .i64 0] 84)) := (Below.refl _ _).alloc (Nat.le_refl _) _
  have HB5 : Hid (Below w.heap.size w ((w3.setCell ⟨w.heap.size + 1, 0, none⟩ .nilIface).alloc (.cells #[.slice (some ⟨tb, 0, none⟩) (tokS l).1.length c, .int .i64 0, .int .i64 0, .int .i64 0] 84))) := (below_box HB3.out (Nat.le_succ _) 0 .nilIface).alloc (by simpa [World.setCell] using HB3.out.size) _
  have HA5 := Lib.hid ((HA3.out.setCell (a := ⟨w.heap.size + 1, 0, none⟩) (by simp) .nilIface).later hb5)
  have HC5 : Hid (Arr ((w3.setCell ⟨w.heap.size + 1, 0, none⟩ .nilIface).alloc (.cells #[.slice (some ⟨tb, 0, none⟩) (tokS l).1.length c, .int .i64 0, .int .i64 0, .int .i64 0] 84)) 27 (w.heap.size + 1) [.nilIface]) := (HC3.out.set 0 .nilIface).later hb5
  have HLP : Hid (w.heap.size + 2 ≤ w3.heap.size) := HC3.out.lt
  have HRU := Lib.hid (expr_any HOK.out HP5.out (okTs_pos HOK.out))
  clear h0 hb4 hb5 hpp HA3 HC3 HS3 HR3 HB3
  go_wp2_with fail
  clear e0 g0
  generalize ((w3.setCell ⟨w.heap.size + 1, 0, none⟩ .nilIface).alloc (.cells #[.slice (some ⟨tb, 0, none⟩) (tokS l).1.length c, .int .i64 0, .int .i64 0, .int .i64 0] 84)) = w5 at HP5 HB5 HA5 HC5 HRU ⊢
  have HL5 : Hid (w3.heap.size < w5.heap.size) := HP5.out.1.lt
  refine HRU.out.mono ?_
  rintro r w6 (⟨x, s6, v, e6, rfl, r6, p6, k6⟩ | ⟨k, i, e6, rfl, k6⟩)
  ·have HE6 := Lib.hid e6
   have LE56 : Hid (w5.heap.size ≤ w6.heap.size) := k6.2.2.2.1
   have HB6 := Lib.hid (HB5.out.trans (k6.below (B := w.heap.size) (by have := HLP.out; omega) HB5.out.size))
   have HA6 := Lib.hid (k6.arr HA5.out (by have := HLP.out; omega))
   have HC6 := Lib.hid (k6.arr HC5.out (by have := HLP.out; omega))
   have HP6 := Lib.hid p6
   have HS6 : Hid (s6.i < (tokS l).1.length) := (keeps_expr HOK.out (okTs_pos HOK.out) e6)
   obtain ⟨mk, mv, mn, ms⟩ := x
   have HV6 : Hid (VE w5.heap.size (.mk mk mv mn ms) w6 v) := r6
   have r6 : VE w5.heap.size (.mk mk mv mn ms) w6 v := r6
   obtain ⟨q4, c4, rfl⟩ := VE.form r6
   have hb7 : Below w6.heap.size w6 (w6.alloc (.cells #[.int .i64 mk, .string (bstr mv), .string (bstr mn), .slice q4 ms.length c4] 38)) := (Below.refl _ _).alloc (Nat.le_refl _) _
   have HP7 := Lib.hid (HP6.out.later hb7)
   have HA7 := Lib.hid (HA6.out.later hb7)
   have HC7 := Lib.hid (HC6.out.later hb7)
   have HB7 := Lib.hid (HB6.out.trans (hb7.mono HB6.out.size))
   have HV7 := Lib.hid (HV6.out.later hb7)
   have HX7 : Hid (Arr (w6.alloc (.cells #[.int .i64 mk, .string (bstr mv), .string (bstr mn), .slice q4 ms.length c4] 38)) 38 w6.heap.size [.int .i64 mk, .string (bstr mv), .string (bstr mn), .slice q4 ms.length c4]) := Arr.new' _ _ _ _ rfl
   have HNX := Lib.hid (next_any HP7.out HS6.out)
   have hfl := fieldT0
   obtain ⟨kd, hkd⟩ : ∃ kd, kd = ((tokS l).1.getD s6.i tok0).1 := ⟨_, rfl⟩
   rw [← hkd] at HNX
   clear e6 p6 k6 r6 hb7 HRU HP6 HA6 HC6 HB6 HV6
   go_wp2_with fail
   refine HNX.out.mono ?_
   rintro r w7 ⟨rfl, b7⟩
   have HPz := Lib.hid (HP7.out.later b7)
   have HAz := Lib.hid (HA7.out.later b7)
   have HCz := Lib.hid (HC7.out.later b7)
   have HBz := Lib.hid (HB7.out.trans (b7.mono HB7.out.size))
   have HVz := Lib.hid (HV7.out.later b7)
   have HXz := Lib.hid (HX7.out.later b7)
   have HLX : Hid (w.heap.size + 2 ≤ w6.heap.size) := by have := HC5.out.lt; have := HLP.out; have := HL5.out; show _ ≤ _; exact Nat.le_trans (by omega) LE56.out
   clear b7 HNX HP7 HA7 HC7 HB7 HV7 HX7
   by_cases h3 : kd = 3
   ·subst h3
    have HRE := Lib.hid (readF_ok HE0.out HE6.out hkd.symm)
    have HLT5 : Hid (w.heap.size < w5.heap.size) := by have := HLP.out; have := HL5.out; show _ < _; omega
    have HLT6 : Hid (w.heap.size + 1 < w5.heap.size) := by have := HLP.out; have := HL5.out; show _ < _; omega
    clear hkd
    obtain ⟨p0, z0, p1, z1, p2, z2, p3, z3⟩ := HXz.out.all4
    obtain ⟨x0, y0, x1, y1, x2, y2, x3, y3⟩ := HAz.out.all4
    obtain ⟨r0, t0⟩ := HCz.out.all1
    go_wp2_with fail
    refine (need_t 6).mono ?_
    rintro r w7 ⟨rfl, rfl⟩
    go_wp2_with fail
    clear p0 z0 p1 z1 p2 z2 p3 z3
    clear x0 y0 x1 y1 x2 y2 x3 y3
    clear r0 t0
    refine leaves_cons (f := 54) (args := #[.pointer (some ⟨w.heap.size + 1, 0, none⟩)]) (by simp) (by simp [go_sem]) ?_
    refine (idleE ⟨w.heap.size + 1, 0, none⟩ _).mono ?_
    rintro e u' w9 ⟨rfl, rfl, b9⟩
    have hA := (((((HAz.out.set 0 (.int .i64 mk)).set 1 (.string (bstr mv))).set 2 (.string (bstr mn))).set 3 (.slice q4 ms.length c4)).setCell (a := ⟨w.heap.size + 1, 0, none⟩) (by simp) .nilIface).later b9
    have hC := (((((HCz.out.setCell (a := ⟨w.heap.size, 0, none⟩) (by simp) (.int .i64 mk)).setCell (a := ⟨w.heap.size, 1, none⟩) (by simp) (.string (bstr mv))).setCell (a := ⟨w.heap.size, 2, none⟩) (by simp) (.string (bstr mn))).setCell (a := ⟨w.heap.size, 3, none⟩) (by simp) (.slice q4 ms.length c4)).set 0 .nilIface).later b9
    have hB := (below_box (below_box (below_box (below_box (below_box HBz.out (Nat.le_refl _) 0 (.int .i64 mk)) (Nat.le_refl _) 1 (.string (bstr mv))) (Nat.le_refl _) 2 (.string (bstr mn))) (Nat.le_refl _) 3 (.slice q4 ms.length c4)) (g := w.heap.size + 1) (Nat.le_succ _) 0 .nilIface)
    have hB9 := hB.trans (b9.mono hB.size)
    have hkv := (((((Kp.of (pb := w.heap.size) (Below.refl w7.heap.size w7)).set 0 (.int .i64 mk)).set 1 (.string (bstr mv))).set 2 (.string (bstr mn))).set 3 (.slice q4 ms.length c4))
    have hV := ((HVz.out.kp hkv (HLT5.out)).kp ((Kp.of (pb := w.heap.size + 1) (Below.refl _ _)).set 0 .nilIface) (HLT6.out)).later b9
    simp only [List.set_cons_zero, List.set_cons_succ] at hA
    simp only [List.set_cons_zero] at hC
    have c0 := hA.cell 0
    have c1 := hA.cell 1
    have c2 := hA.cell 2
    have c3 := hA.cell 3
    have d0 := hC.cell 0
    simp only [List.getElem?_cons_zero, List.getElem?_cons_succ] at c0 c1 c2 c3 d0
    clear hA hC hB hkv b9
    refine ⟨.tuple #[.agg #[.int .i64 mk, .string (bstr mv), .string (bstr mn), .slice q4 ms.length c4], .nilIface], ?_, hB9, .inl ⟨_, _, HRE.out, rfl, hV.low (Nat.le_trans (Nat.le_succ _) (Nat.le_of_lt HLT6.out))⟩⟩
    simp [results, Tryz.results27, go_sem, c0, c1, c2, c3, d0]
   ·have h3' : (kd == 3) = false := by simp [h3]
    have HRE := Lib.hid (readF_more HE0.out HE6.out (by rw [← hkd]; exact h3))
    clear h3 hkd
    go_wp2_with fail
    refine (need_f HPz.out HS6.out 6).mono ?_
    rintro r w8 ⟨rfl, b8⟩
    have HA8 := Lib.hid (HAz.out.later b8)
    have HC8 := Lib.hid (HCz.out.later b8)
    have HB8 := Lib.hid (HBz.out.trans (b8.mono HBz.out.size))
    clear b8 h3'
    obtain ⟨hcz, hfz⟩ := HC8.out.all1
    refine leaves_cons (f := 54) (args := #[.pointer (some ⟨w.heap.size + 1, 0, none⟩)]) (by simp) (by simp [go_sem]) ?_
    refine (catchE ⟨w.heap.size + 1, 0, none⟩ _ 6 (offs (tokS l).1 s6.i) [] w8 hcz hfz).mono ?_
    rintro e u' w'' ⟨rfl, rfl, rfl⟩
    have hb9 : Below w8.heap.size w8 (w8.alloc (.cells #[.int .i64 (6 : Nat), .int .i64 (offs (tokS l).1 s6.i)] 81)) := (Below.refl _ _).alloc (Nat.le_refl _) _
    have hA := (HA8.out.later hb9).setCell (a := ⟨w.heap.size + 1, 0, none⟩) (by simp) (flt 6 (offs (tokS l).1 s6.i))
    have hC := (HC8.out.later hb9).set 0 (flt 6 (offs (tokS l).1 s6.i))
    have hB := below_box (HB8.out.trans (hb9.mono HB8.out.size)) (g := w.heap.size + 1) (Nat.le_succ _) 0 (flt 6 (offs (tokS l).1 s6.i))
    simp only [List.set_cons_zero] at hC
    generalize (w8.alloc (.cells #[.int .i64 (6 : Nat), .int .i64 (offs (tokS l).1 s6.i)] 81)).setCell ⟨w.heap.size + 1, 0, none⟩ (flt 6 (offs (tokS l).1 s6.i)) = w9 at hA hC hB ⊢
    rw [flt_fault] at hC
    have c0 := hA.cell 0
    have c1 := hA.cell 1
    have c2 := hA.cell 2
    have c3 := hA.cell 3
    have d0 := hC.cell 0
    simp only [List.getElem?_cons_zero, List.getElem?_cons_succ] at c0 c1 c2 c3 d0
    clear hA hC hcz hfz hb9
    refine ⟨.tuple #[.agg #[.int .i64 0, .string ⟨#[]⟩, .string ⟨#[]⟩, .slice none 0 0], faultN 6 (offT (tokS l).1 s6.i)], ?_, hB, .inr ⟨6, offT (tokS l).1 s6.i, by decide, HRE.out, rfl⟩⟩
    simp [results, Tryz.results27, go_sem, c0, c1, c2, c3, d0]
  ·have HRE := Lib.hid (readF_bad HE0.out e6)
   have HKN := Lib.hid (HCD.out _ _ _ e6)
   have HB6 := Lib.hid (HB5.out.trans (k6.below (B := w.heap.size) (by have := HLP.out; omega) HB5.out.size))
   have HA6 := Lib.hid (k6.arr HA5.out (by have := HLP.out; omega))
   have HC6 := Lib.hid (k6.arr HC5.out (by have := HLP.out; omega))
   clear e6 k6 HRU
   obtain ⟨hcz, hfz⟩ := HC6.out.all1
   refine leaves_cons (f := 54) (args := #[.pointer (some ⟨w.heap.size + 1, 0, none⟩)]) (by simp) (by simp [go_sem]) ?_
   refine (catchE ⟨w.heap.size + 1, 0, none⟩ _ k (offs (tokS l).1 i) [] w6 hcz hfz).mono ?_
   rintro e u' w'' ⟨rfl, rfl, rfl⟩
   have hb9 : Below w6.heap.size w6 (w6.alloc (.cells #[.int .i64 (k : Nat), .int .i64 (offs (tokS l).1 i)] 81)) := (Below.refl _ _).alloc (Nat.le_refl _) _
   have hA := (HA6.out.later hb9).setCell (a := ⟨w.heap.size + 1, 0, none⟩) (by simp) (flt k (offs (tokS l).1 i))
   have hC := (HC6.out.later hb9).set 0 (flt k (offs (tokS l).1 i))
   have hB := below_box (HB6.out.trans (hb9.mono HB6.out.size)) (g := w.heap.size + 1) (Nat.le_succ _) 0 (flt k (offs (tokS l).1 i))
   simp only [List.set_cons_zero] at hC
   generalize (w6.alloc (.cells #[.int .i64 (k : Nat), .int .i64 (offs (tokS l).1 i)] 81)).setCell ⟨w.heap.size + 1, 0, none⟩ (flt k (offs (tokS l).1 i)) = w9 at hA hC hB ⊢
   rw [flt_fault] at hC
   have c0 := hA.cell 0
   have c1 := hA.cell 1
   have c2 := hA.cell 2
   have c3 := hA.cell 3
   have d0 := hC.cell 0
   simp only [List.getElem?_cons_zero, List.getElem?_cons_succ] at c0 c1 c2 c3 d0
   clear hA hC hcz hfz hb9
   refine ⟨.tuple #[.agg #[.int .i64 0, .string ⟨#[]⟩, .string ⟨#[]⟩, .slice none 0 0], faultN k (offT (tokS l).1 i)], ?_, hB, .inr ⟨k, offT (tokS l).1 i, HKN.out, HRE.out, rfl⟩⟩
   simp [results, Tryz.results27, go_sem, c0, c1, c2, c3, d0]
 ·have h0' := h0
  have HEF : Hid (errF (tokS l).2.1 (tokS l).2.2 = faultN (tokS l).2.1 (tokS l).2.2) := by show _ = _; unfold errF; rw [if_neg h0]
  have HRE := Lib.hid (readF_lex (rule := exprF) h0)
  rw [HEF.out]
  unfold faultN
  obtain ⟨x0, y0, x1, y1, x2, y2, x3, y3⟩ := HA3.out.all4
  go_upto_region 3 with (fail)
  clear e0 g0 x0 y0 x1 y1 x2 y2 x3 y3
  have HA4 : Hid (Arr (w3.setCell ⟨w.heap.size + 1, 0, none⟩ (.iface 81 (.agg #[.int .i64 ((tokS l).2.1 : Nat), .int .i64 ((tokS l).2.2 : Nat)]))) 38 w.heap.size [.int .i64 0, .string ⟨#[]⟩, .string ⟨#[]⟩, .slice none 0 0]) := HA3.out.setCell (a := ⟨w.heap.size + 1, 0, none⟩) (by simp) _
  have HC4 : Hid (Arr (w3.setCell ⟨w.heap.size + 1, 0, none⟩ (.iface 81 (.agg #[.int .i64 ((tokS l).2.1 : Nat), .int .i64 ((tokS l).2.2 : Nat)]))) 27 (w.heap.size + 1) [.iface 81 (.agg #[.int .i64 ((tokS l).2.1 : Nat), .int .i64 ((tokS l).2.2 : Nat)])]) := HC3.out.set 0 _
  have HB4 := Lib.hid (below_box HB3.out (g := w.heap.size + 1) (Nat.le_succ _) 0 (.iface 81 (.agg #[.int .i64 ((tokS l).2.1 : Nat), .int .i64 ((tokS l).2.2 : Nat)])))
  generalize w3.setCell ⟨w.heap.size + 1, 0, none⟩ (.iface 81 (.agg #[.int .i64 ((tokS l).2.1 : Nat), .int .i64 ((tokS l).2.2 : Nat)])) = w4 at HA4 HC4 HB4 ⊢
  clear HA3 HC3 HB3 HS3 HR3
  refine wp_region_noPanic ?_
  refine wp_region_held_drew (S := fun W' => Arr W' 38 w.heap.size [.int .i64 0, .string ⟨#[]⟩, .string ⟨#[]⟩, .slice none 0 0] ∧ Arr W' 27 (w.heap.size + 1) [.iface 81 (.agg #[.int .i64 ((tokS l).2.1 : Nat), .int .i64 ((tokS l).2.2 : Nat)])] ∧ Below w.heap.size w W') (by kernel_rfl) ⟨HA4.out.drew, HC4.out.drew, HB4.out.drew⟩ (fun hHeld => ?_)
  try simp only [Act.put]
  generalize w4.drew = w5 at hHeld ⊢
  clear HA4 HC4 HB4
  refine wpAnyH_take (i := 0) (oi := ⟨some 16, _, _, _, _, _⟩) (v := .agg #[.int .i64 0, .string ⟨#[]⟩, .string ⟨#[]⟩, .slice none 0 0]) rfl (by kernel_rfl) (by kernel_rfl) (by kernel_rfl) (fun _ _ _ h => h) (.inl ⟨by rfl, fun w' hSw => ?_⟩) hHeld ?_
  focus (have q := hSw.1; have q0 := q.cell 0; have q1 := q.cell 1; have q2 := q.cell 2; have q3 := q.cell 3; simp only [List.getElem?_cons_zero, List.getElem?_cons_succ] at q0 q1 q2 q3; clear hHeld; go_simp)
  try simp only [Act.put, List.setIfInBounds_toArray, List.set_cons_zero, List.set_cons_succ]
  refine wpAnyH_take (i := 1) (oi := ⟨some 17, _, _, _, _, _⟩) (v := .iface 81 (.agg #[.int .i64 ((tokS l).2.1 : Nat), .int .i64 ((tokS l).2.2 : Nat)])) rfl (by kernel_rfl) (by kernel_rfl) (by kernel_rfl) (fun _ _ _ h => h) (.inl ⟨by rfl, fun w' hSw => ?_⟩) hHeld ?_
  focus (have q := hSw.2.1.cell 0; simp only [List.getElem?_cons_zero] at q; clear hHeld; go_simp)
  try simp only [Act.put, List.setIfInBounds_toArray, List.set_cons_zero, List.set_cons_succ]
  refine wpAnyH_ready (rs := [2]) (by kernel_rfl) (by simp) ?_
  refine AllReadyH.cons (o := ⟨none, _, _, _, _, _⟩) rfl (fun K' hK' => ?_) AllReadyH.nil
  have hA := hHeld.1
  have x0 := hA.cell 0
  have y0 := hA.free 0
  have x1 := hA.cell 1
  have y1 := hA.free 1
  have x2 := hA.cell 2
  have y2 := hA.free 2
  have x3 := hA.cell 3
  have y3 := hA.free 3
  simp only [List.getElem?_cons_zero, List.getElem?_cons_succ] at x0 x1 x2 x3
  have hkn := And.intro ((((hHeld.1.set 0 (.int .i64 0)).set 1 (.string ⟨#[]⟩)).set 2 (.string ⟨#[]⟩)).set 3 (.slice none 0 0)) (And.intro ((((hHeld.2.1.setCell (a := ⟨w.heap.size, 0, none⟩) (by simp) (.int .i64 0)).setCell (a := ⟨w.heap.size, 1, none⟩) (by simp) (.string ⟨#[]⟩)).setCell (a := ⟨w.heap.size, 2, none⟩) (by simp) (.string ⟨#[]⟩)).setCell (a := ⟨w.heap.size, 3, none⟩) (by simp) (.slice none 0 0)) (below_box (below_box (below_box (below_box hHeld.2.2 (Nat.le_refl _) 0 (.int .i64 0)) (Nat.le_refl _) 1 (.string ⟨#[]⟩)) (Nat.le_refl _) 2 (.string ⟨#[]⟩)) (Nat.le_refl _) 3 (.slice none 0 0)))
  simp only [List.set_cons_zero, List.set_cons_succ] at hkn
  clear hHeld hA
  go_simp
  clear x0 y0 x1 y1 x2 y2 x3 y3
  refine hK'.out _ _ hkn (fun hHeld => ?_)
  clear hK' K' hkn
  try simp only [Act.put, List.setIfInBounds_toArray, List.set_cons_zero, List.set_cons_succ]
  generalize (((((w5.setCell ⟨w.heap.size, 0, none⟩ (.int .i64 0)).setCell ⟨w.heap.size, 1, none⟩ (.string ⟨#[]⟩)).setCell ⟨w.heap.size, 2, none⟩ (.string ⟨#[]⟩)).setCell ⟨w.heap.size, 3, none⟩ (.slice none 0 0))) = w6 at hHeld ⊢
  refine wpAnyH_ready (rs := [3]) (by kernel_rfl) (by simp) ?_
  refine AllReadyH.cons (o := ⟨none, _, _, _, _, _⟩) rfl (fun K' hK' => ?_) AllReadyH.nil
  have x0 := hHeld.2.1.cell 0
  have y0 := hHeld.2.1.free 0
  simp only [List.getElem?_cons_zero] at x0
  have hkn := And.intro (hHeld.1.setCell (a := ⟨w.heap.size + 1, 0, none⟩) (by simp) (.iface 81 (.agg #[.int .i64 ((tokS l).2.1 : Nat), .int .i64 ((tokS l).2.2 : Nat)]))) (And.intro (hHeld.2.1.set 0 (.iface 81 (.agg #[.int .i64 ((tokS l).2.1 : Nat), .int .i64 ((tokS l).2.2 : Nat)]))) (below_box hHeld.2.2 (g := w.heap.size + 1) (Nat.le_succ _) 0 (.iface 81 (.agg #[.int .i64 ((tokS l).2.1 : Nat), .int .i64 ((tokS l).2.2 : Nat)]))))
  simp only [List.set_cons_zero] at hkn
  clear hHeld
  go_simp
  clear x0 y0
  refine hK'.out _ _ hkn (fun hHeld => ?_)
  clear hK' K' hkn
  try simp only [Act.put, List.setIfInBounds_toArray, List.set_cons_zero, List.set_cons_succ]
  generalize w6.setCell ⟨w.heap.size + 1, 0, none⟩ (.iface 81 (.agg #[.int .i64 ((tokS l).2.1 : Nat), .int .i64 ((tokS l).2.2 : Nat)])) = w7 at hHeld ⊢
  refine wpAnyH_done (by kernel_rfl) ?_ _
  refine NoPanic.normal ?_
  obtain ⟨hA, hC, hB⟩ := hHeld
  go_wp2_with fail
  have c0 := hA.cell 0
  have c1 := hA.cell 1
  have c2 := hA.cell 2
  have c3 := hA.cell 3
  have d0 := hC.cell 0
  simp only [List.getElem?_cons_zero, List.getElem?_cons_succ] at c0 c1 c2 c3 d0
  clear hA hC
  refine ⟨.tuple #[.agg #[.int .i64 0, .string ⟨#[]⟩, .string ⟨#[]⟩, .slice none 0 0], faultN (tokS l).2.1 (tokS l).2.2], ?_, hB, .inr ⟨(tokS l).2.1, (tokS l).2.2, h0, HRE.out, rfl⟩⟩
  simp [results, Tryz.results27, go_sem, c0, c1, c2, c3, d0, faultN]
set_option maxRecDepth 100000 in
set_option maxHeartbeats 4000000 in
theorem readS_any (s : ByteArray) (hs : s.size ≤ 65536) (w : World) (hr : ResT w) (hcode : ∀ (ts : List Tok) k i, schemaR ts ps0 = .bad k i → k ≠ 0) : Calls Tryz.prog 13 #[.string s, .func (.func 14) #[] #[]] w (ReadPost VS (.agg #[.slice none 0 0]) w (readF schemaR s.data.toList)) := by
 have hmf : ∀ (fn : Fn) (first cap : Array Value) (w : World), (Instr.makeFunc fn first cap).run Tryz.prog w = .ok (.func fn first cap) w := fun _ _ _ _ => rfl
 have hB2 : Below w.heap.size w ((w.alloc (.cells #[.slice none 0 0] 25)).alloc (.cells #[.nilIface] 27)) := ((Below.refl _ _).alloc (Nat.le_refl _) _).alloc (by simp) _
 have HA2 : Hid (Arr ((w.alloc (.cells #[.slice none 0 0] 25)).alloc (.cells #[.nilIface] 27)) 25 w.heap.size [.slice none 0 0]) := (Arr.new' _ _ _ _ rfl).alloc _
 have HC2 : Hid (Arr ((w.alloc (.cells #[.slice none 0 0] 25)).alloc (.cells #[.nilIface] 27)) 27 (w.heap.size + 1) [.nilIface]) := Arr.new2 _ _ _ _ _ rfl
 have HR2 : Hid (ResT ((w.alloc (.cells #[.slice none 0 0] 25)).alloc (.cells #[.nilIface] 27))) := hr.below hB2 hr.lt
 have HGR : Hid (0 < w.heap.size) := hr.lt
 have HLX := Lib.hid (lex_any s hs _ HR2.out)
 have HB2 := Lib.hid hB2
 have HCD := Lib.hid hcode
 obtain ⟨l, hl⟩ : ∃ l, l = s.data.toList := ⟨_, rfl⟩
 have HLS : Hid (l.length ≤ 65536) := by show _ ≤ _; rw [hl, Array.length_toList]; exact hs
 rw [← hl] at HLX ⊢
 clear hr hB2 hcode hl hs
 go_enter_defers Tryz.func13, Tryz.ntmps13
 go_wp2_with fail
 refine HLX.out.mono ?_
 rintro r w3 ⟨v, rfl, r3, b3⟩
 obtain ⟨q, c, rfl, hc⟩ := r3.form
 have HR3 : Hid (TokRow (w.heap.size + 2) 87 w3 (.slice q (tokS l).1.length c) (tokS l).1) := by
  have h := r3
  rw [show ((w.alloc (.cells #[.slice none 0 0] 25)).alloc (.cells #[.nilIface] 27)).heap.size = w.heap.size + 2 from by simp] at h
  exact h
 have HB3 := Lib.hid (HB2.out.trans (b3.mono HB2.out.size))
 have HA3 := Lib.hid (HA2.out.later b3)
 have HC3 := Lib.hid (HC2.out.later b3)
 have HS3 : Hid (ResT w3) := HR2.out.below b3 HR2.out.lt
 clear r3 b3 HA2 HC2 HR2 HB2 hc
 obtain ⟨e0, g0⟩ := HC3.out.all1
 by_cases h0 : (tokS l).2.1 = 0
 ·have HE0 := Lib.hid h0
  have HEF : Hid (errF (tokS l).2.1 (tokS l).2.2 = .nilIface) := by show _ = _; unfold errF; rw [if_pos h0]
  rw [HEF.out]
  have HOK : Hid (OkTs (tokS l).1) := tokF_ok _ _ _ (Nat.lt_succ_self _) h0
  have hb4 : Below w.heap.size w3 (w3.setCell ⟨w.heap.size + 1, 0, none⟩ .nilIface) := (Below.refl _ _).setCell (p := ⟨w.heap.size + 1, 0, none⟩) (Nat.le_succ _) _
  obtain ⟨tb, rfl, hpp⟩ := pp_new HOK.out (Nat.le_trans (tokS_len l) (by have := HLS.out; omega)) (HR3.out.box (g := w.heap.size + 1) (by omega) 0 .nilIface) (HS3.out.below hb4 HGR.out)
  rw [show (w3.setCell ⟨w.heap.size + 1, 0, none⟩ .nilIface).heap.size = w3.heap.size from by simp [World.setCell]] at hpp
  have HP5 := Lib.hid hpp
  have hb5 : Below (w3.setCell ⟨w.heap.size + 1, 0, none⟩ .nilIface).heap.size (w3.setCell ⟨w.heap.size + 1, 0, none⟩ .nilIface) ((w3.setCell ⟨w.heap.size + 1, 0, none⟩ .nilIface).alloc (.cells #[.slice (some ⟨tb, 0, none⟩) (tokS l).1.length c, .int .i64 0, .int .i64 0, .int .i64 0] 84)) := (Below.refl _ _).alloc (Nat.le_refl _) _
  have HB5 : Hid (Below w.heap.size w ((w3.setCell ⟨w.heap.size + 1, 0, none⟩ .nilIface).alloc (.cells #[.slice (some ⟨tb, 0, none⟩) (tokS l).1.length c, .int .i64 0, .int .i64 0, .int .i64 0] 84))) := (below_box HB3.out (Nat.le_succ _) 0 .nilIface).alloc (by simpa [World.setCell] using HB3.out.size) _
  have HA5 := Lib.hid ((HA3.out.setCell (a := ⟨w.heap.size + 1, 0, none⟩) (by simp) .nilIface).later hb5)
  have HC5 : Hid (Arr ((w3.setCell ⟨w.heap.size + 1, 0, none⟩ .nilIface).alloc (.cells #[.slice (some ⟨tb, 0, none⟩) (tokS l).1.length c, .int .i64 0, .int .i64 0, .int .i64 0] 84)) 27 (w.heap.size + 1) [.nilIface]) := (HC3.out.set 0 .nilIface).later hb5
  have HLP : Hid (w.heap.size + 2 ≤ w3.heap.size) := HC3.out.lt
  have HRU := Lib.hid (schema_any HOK.out HP5.out (okTs_pos HOK.out))
  clear h0 hb4 hb5 hpp HA3 HC3 HS3 HR3 HB3
  go_wp2_with fail
  clear e0 g0
  generalize ((w3.setCell ⟨w.heap.size + 1, 0, none⟩ .nilIface).alloc (.cells #[.slice (some ⟨tb, 0, none⟩) (tokS l).1.length c, .int .i64 0, .int .i64 0, .int .i64 0] 84)) = w5 at HP5 HB5 HA5 HC5 HRU ⊢
  have HL5 : Hid (w3.heap.size < w5.heap.size) := HP5.out.1.lt
  refine HRU.out.mono ?_
  rintro r w6 (⟨x, s6, v, e6, rfl, r6, p6, k6⟩ | ⟨k, i, e6, rfl, k6⟩)
  ·have HE6 := Lib.hid e6
   have LE56 : Hid (w5.heap.size ≤ w6.heap.size) := k6.2.2.2.1
   have HB6 := Lib.hid (HB5.out.trans (k6.below (B := w.heap.size) (by have := HLP.out; omega) HB5.out.size))
   have HA6 := Lib.hid (k6.arr HA5.out (by have := HLP.out; omega))
   have HC6 := Lib.hid (k6.arr HC5.out (by have := HLP.out; omega))
   have HP6 := Lib.hid p6
   have HS6 : Hid (s6.i < (tokS l).1.length) := (keeps_defs HOK.out _ _ _ _ _ (okTs_pos HOK.out) e6)
   obtain ⟨q4, c4, rfl, r6b⟩ := VS.form r6
   have HV6 : Hid (VS w5.heap.size x w6 (.agg #[.slice q4 x.length c4])) := ⟨_, rfl, r6b⟩
   clear r6b
   have hb7 : Below w6.heap.size w6 (w6.alloc (.cells #[.slice q4 x.length c4] 25)) := (Below.refl _ _).alloc (Nat.le_refl _) _
   have HP7 := Lib.hid (HP6.out.later hb7)
   have HA7 := Lib.hid (HA6.out.later hb7)
   have HC7 := Lib.hid (HC6.out.later hb7)
   have HB7 := Lib.hid (HB6.out.trans (hb7.mono HB6.out.size))
   have HV7 := Lib.hid (HV6.out.later hb7)
   have HX7 : Hid (Arr (w6.alloc (.cells #[.slice q4 x.length c4] 25)) 25 w6.heap.size [.slice q4 x.length c4]) := Arr.new' _ _ _ _ rfl
   have HNX := Lib.hid (next_any HP7.out HS6.out)
   have hfl := fieldT0
   obtain ⟨kd, hkd⟩ : ∃ kd, kd = ((tokS l).1.getD s6.i tok0).1 := ⟨_, rfl⟩
   rw [← hkd] at HNX
   clear e6 p6 k6 r6 hb7 HRU HP6 HA6 HC6 HB6 HV6
   go_wp2_with fail
   refine HNX.out.mono ?_
   rintro r w7 ⟨rfl, b7⟩
   have HPz := Lib.hid (HP7.out.later b7)
   have HAz := Lib.hid (HA7.out.later b7)
   have HCz := Lib.hid (HC7.out.later b7)
   have HBz := Lib.hid (HB7.out.trans (b7.mono HB7.out.size))
   have HVz := Lib.hid (HV7.out.later b7)
   have HXz := Lib.hid (HX7.out.later b7)
   have HLX : Hid (w.heap.size + 2 ≤ w6.heap.size) := by have := HC5.out.lt; have := HLP.out; have := HL5.out; show _ ≤ _; exact Nat.le_trans (by omega) LE56.out
   clear b7 HNX HP7 HA7 HC7 HB7 HV7 HX7
   by_cases h3 : kd = 3
   ·subst h3
    have HRE := Lib.hid (readF_ok HE0.out HE6.out hkd.symm)
    have HLT5 : Hid (w.heap.size < w5.heap.size) := by have := HLP.out; have := HL5.out; show _ < _; omega
    have HLT6 : Hid (w.heap.size + 1 < w5.heap.size) := by have := HLP.out; have := HL5.out; show _ < _; omega
    clear hkd
    obtain ⟨p0, z0⟩ := HXz.out.all1
    obtain ⟨x0, y0⟩ := HAz.out.all1
    obtain ⟨r0, t0⟩ := HCz.out.all1
    go_wp2_with fail
    refine (need_t 6).mono ?_
    rintro r w7 ⟨rfl, rfl⟩
    go_wp2_with fail
    clear p0 z0
    clear x0 y0
    clear r0 t0
    refine leaves_cons (f := 31) (args := #[.pointer (some ⟨w.heap.size + 1, 0, none⟩)]) (by simp) (by simp [go_sem]) ?_
    refine (idleS ⟨w.heap.size + 1, 0, none⟩ _).mono ?_
    rintro e u' w9 ⟨rfl, rfl, b9⟩
    have hA := ((HAz.out.set 0 (.slice q4 x.length c4)).setCell (a := ⟨w.heap.size + 1, 0, none⟩) (by simp) .nilIface).later b9
    have hC := ((HCz.out.setCell (a := ⟨w.heap.size, 0, none⟩) (by simp) (.slice q4 x.length c4)).set 0 .nilIface).later b9
    have hB := (below_box (below_box HBz.out (Nat.le_refl _) 0 (.slice q4 x.length c4)) (g := w.heap.size + 1) (Nat.le_succ _) 0 .nilIface)
    have hB9 := hB.trans (b9.mono hB.size)
    have hkv := ((Kp.of (pb := w.heap.size) (Below.refl w7.heap.size w7)).set 0 (.slice q4 x.length c4))
    have hV := ((HVz.out.kp hkv (HLT5.out)).kp ((Kp.of (pb := w.heap.size + 1) (Below.refl _ _)).set 0 .nilIface) (HLT6.out)).later b9
    simp only [List.set_cons_zero] at hA
    simp only [List.set_cons_zero] at hC
    have c0 := hA.cell 0
    have d0 := hC.cell 0
    simp only [List.getElem?_cons_zero] at c0 d0
    clear hA hC hB hkv b9
    refine ⟨.tuple #[.agg #[.slice q4 x.length c4], .nilIface], ?_, hB9, .inl ⟨_, _, HRE.out, rfl, hV.low (Nat.le_trans (Nat.le_succ _) (Nat.le_of_lt HLT6.out))⟩⟩
    simp [results, Tryz.results13, go_sem, c0, d0]
   ·have h3' : (kd == 3) = false := by simp [h3]
    have HRE := Lib.hid (readF_more HE0.out HE6.out (by rw [← hkd]; exact h3))
    clear h3 hkd
    go_wp2_with fail
    refine (need_f HPz.out HS6.out 6).mono ?_
    rintro r w8 ⟨rfl, b8⟩
    have HA8 := Lib.hid (HAz.out.later b8)
    have HC8 := Lib.hid (HCz.out.later b8)
    have HB8 := Lib.hid (HBz.out.trans (b8.mono HBz.out.size))
    clear b8 h3'
    obtain ⟨hcz, hfz⟩ := HC8.out.all1
    refine leaves_cons (f := 31) (args := #[.pointer (some ⟨w.heap.size + 1, 0, none⟩)]) (by simp) (by simp [go_sem]) ?_
    refine (catchS ⟨w.heap.size + 1, 0, none⟩ _ 6 (offs (tokS l).1 s6.i) [] w8 hcz hfz).mono ?_
    rintro e u' w'' ⟨rfl, rfl, rfl⟩
    have hb9 : Below w8.heap.size w8 (w8.alloc (.cells #[.int .i64 (6 : Nat), .int .i64 (offs (tokS l).1 s6.i)] 81)) := (Below.refl _ _).alloc (Nat.le_refl _) _
    have hA := (HA8.out.later hb9).setCell (a := ⟨w.heap.size + 1, 0, none⟩) (by simp) (flt 6 (offs (tokS l).1 s6.i))
    have hC := (HC8.out.later hb9).set 0 (flt 6 (offs (tokS l).1 s6.i))
    have hB := below_box (HB8.out.trans (hb9.mono HB8.out.size)) (g := w.heap.size + 1) (Nat.le_succ _) 0 (flt 6 (offs (tokS l).1 s6.i))
    simp only [List.set_cons_zero] at hC
    generalize (w8.alloc (.cells #[.int .i64 (6 : Nat), .int .i64 (offs (tokS l).1 s6.i)] 81)).setCell ⟨w.heap.size + 1, 0, none⟩ (flt 6 (offs (tokS l).1 s6.i)) = w9 at hA hC hB ⊢
    rw [flt_fault] at hC
    have c0 := hA.cell 0
    have d0 := hC.cell 0
    simp only [List.getElem?_cons_zero] at c0 d0
    clear hA hC hcz hfz hb9
    refine ⟨.tuple #[.agg #[.slice none 0 0], faultN 6 (offT (tokS l).1 s6.i)], ?_, hB, .inr ⟨6, offT (tokS l).1 s6.i, by decide, HRE.out, rfl⟩⟩
    simp [results, Tryz.results13, go_sem, c0, d0]
  ·have HRE := Lib.hid (readF_bad HE0.out e6)
   have HKN := Lib.hid (HCD.out _ _ _ e6)
   have HB6 := Lib.hid (HB5.out.trans (k6.below (B := w.heap.size) (by have := HLP.out; omega) HB5.out.size))
   have HA6 := Lib.hid (k6.arr HA5.out (by have := HLP.out; omega))
   have HC6 := Lib.hid (k6.arr HC5.out (by have := HLP.out; omega))
   clear e6 k6 HRU
   obtain ⟨hcz, hfz⟩ := HC6.out.all1
   refine leaves_cons (f := 31) (args := #[.pointer (some ⟨w.heap.size + 1, 0, none⟩)]) (by simp) (by simp [go_sem]) ?_
   refine (catchS ⟨w.heap.size + 1, 0, none⟩ _ k (offs (tokS l).1 i) [] w6 hcz hfz).mono ?_
   rintro e u' w'' ⟨rfl, rfl, rfl⟩
   have hb9 : Below w6.heap.size w6 (w6.alloc (.cells #[.int .i64 (k : Nat), .int .i64 (offs (tokS l).1 i)] 81)) := (Below.refl _ _).alloc (Nat.le_refl _) _
   have hA := (HA6.out.later hb9).setCell (a := ⟨w.heap.size + 1, 0, none⟩) (by simp) (flt k (offs (tokS l).1 i))
   have hC := (HC6.out.later hb9).set 0 (flt k (offs (tokS l).1 i))
   have hB := below_box (HB6.out.trans (hb9.mono HB6.out.size)) (g := w.heap.size + 1) (Nat.le_succ _) 0 (flt k (offs (tokS l).1 i))
   simp only [List.set_cons_zero] at hC
   generalize (w6.alloc (.cells #[.int .i64 (k : Nat), .int .i64 (offs (tokS l).1 i)] 81)).setCell ⟨w.heap.size + 1, 0, none⟩ (flt k (offs (tokS l).1 i)) = w9 at hA hC hB ⊢
   rw [flt_fault] at hC
   have c0 := hA.cell 0
   have d0 := hC.cell 0
   simp only [List.getElem?_cons_zero] at c0 d0
   clear hA hC hcz hfz hb9
   refine ⟨.tuple #[.agg #[.slice none 0 0], faultN k (offT (tokS l).1 i)], ?_, hB, .inr ⟨k, offT (tokS l).1 i, HKN.out, HRE.out, rfl⟩⟩
   simp [results, Tryz.results13, go_sem, c0, d0]
 ·have h0' := h0
  have HEF : Hid (errF (tokS l).2.1 (tokS l).2.2 = faultN (tokS l).2.1 (tokS l).2.2) := by show _ = _; unfold errF; rw [if_neg h0]
  have HRE := Lib.hid (readF_lex (rule := schemaR) h0)
  rw [HEF.out]
  unfold faultN
  obtain ⟨x0, y0⟩ := HA3.out.all1
  go_upto_region 3 with (fail)
  clear e0 g0 x0 y0
  have HA4 : Hid (Arr (w3.setCell ⟨w.heap.size + 1, 0, none⟩ (.iface 81 (.agg #[.int .i64 ((tokS l).2.1 : Nat), .int .i64 ((tokS l).2.2 : Nat)]))) 25 w.heap.size [.slice none 0 0]) := HA3.out.setCell (a := ⟨w.heap.size + 1, 0, none⟩) (by simp) _
  have HC4 : Hid (Arr (w3.setCell ⟨w.heap.size + 1, 0, none⟩ (.iface 81 (.agg #[.int .i64 ((tokS l).2.1 : Nat), .int .i64 ((tokS l).2.2 : Nat)]))) 27 (w.heap.size + 1) [.iface 81 (.agg #[.int .i64 ((tokS l).2.1 : Nat), .int .i64 ((tokS l).2.2 : Nat)])]) := HC3.out.set 0 _
  have HB4 := Lib.hid (below_box HB3.out (g := w.heap.size + 1) (Nat.le_succ _) 0 (.iface 81 (.agg #[.int .i64 ((tokS l).2.1 : Nat), .int .i64 ((tokS l).2.2 : Nat)])))
  generalize w3.setCell ⟨w.heap.size + 1, 0, none⟩ (.iface 81 (.agg #[.int .i64 ((tokS l).2.1 : Nat), .int .i64 ((tokS l).2.2 : Nat)])) = w4 at HA4 HC4 HB4 ⊢
  clear HA3 HC3 HB3 HS3 HR3
  refine wp_region_noPanic ?_
  refine wp_region_held_drew (S := fun W' => Arr W' 25 w.heap.size [.slice none 0 0] ∧ Arr W' 27 (w.heap.size + 1) [.iface 81 (.agg #[.int .i64 ((tokS l).2.1 : Nat), .int .i64 ((tokS l).2.2 : Nat)])] ∧ Below w.heap.size w W') (by kernel_rfl) ⟨HA4.out.drew, HC4.out.drew, HB4.out.drew⟩ (fun hHeld => ?_)
  try simp only [Act.put]
  generalize w4.drew = w5 at hHeld ⊢
  clear HA4 HC4 HB4
  refine wpAnyH_take (i := 0) (oi := ⟨some 16, _, _, _, _, _⟩) (v := .agg #[.slice none 0 0]) rfl (by kernel_rfl) (by kernel_rfl) (by kernel_rfl) (fun _ _ _ h => h) (.inl ⟨by rfl, fun w' hSw => ?_⟩) hHeld ?_
  focus (have q := hSw.1; have q0 := q.cell 0; simp only [List.getElem?_cons_zero] at q0; clear hHeld; go_simp)
  try simp only [Act.put, List.setIfInBounds_toArray, List.set_cons_zero, List.set_cons_succ]
  refine wpAnyH_take (i := 1) (oi := ⟨some 17, _, _, _, _, _⟩) (v := .iface 81 (.agg #[.int .i64 ((tokS l).2.1 : Nat), .int .i64 ((tokS l).2.2 : Nat)])) rfl (by kernel_rfl) (by kernel_rfl) (by kernel_rfl) (fun _ _ _ h => h) (.inl ⟨by rfl, fun w' hSw => ?_⟩) hHeld ?_
  focus (have q := hSw.2.1.cell 0; simp only [List.getElem?_cons_zero] at q; clear hHeld; go_simp)
  try simp only [Act.put, List.setIfInBounds_toArray, List.set_cons_zero, List.set_cons_succ]
  refine wpAnyH_ready (rs := [2]) (by kernel_rfl) (by simp) ?_
  refine AllReadyH.cons (o := ⟨none, _, _, _, _, _⟩) rfl (fun K' hK' => ?_) AllReadyH.nil
  have hA := hHeld.1
  have x0 := hA.cell 0
  have y0 := hA.free 0
  simp only [List.getElem?_cons_zero] at x0
  have hkn := And.intro (hHeld.1.set 0 (.slice none 0 0)) (And.intro (hHeld.2.1.setCell (a := ⟨w.heap.size, 0, none⟩) (by simp) (.slice none 0 0)) (below_box hHeld.2.2 (Nat.le_refl _) 0 (.slice none 0 0)))
  simp only [List.set_cons_zero] at hkn
  clear hHeld hA
  go_simp
  clear x0 y0
  refine hK'.out _ _ hkn (fun hHeld => ?_)
  clear hK' K' hkn
  try simp only [Act.put, List.setIfInBounds_toArray, List.set_cons_zero, List.set_cons_succ]
  generalize ((w5.setCell ⟨w.heap.size, 0, none⟩ (.slice none 0 0))) = w6 at hHeld ⊢
  refine wpAnyH_ready (rs := [3]) (by kernel_rfl) (by simp) ?_
  refine AllReadyH.cons (o := ⟨none, _, _, _, _, _⟩) rfl (fun K' hK' => ?_) AllReadyH.nil
  have x0 := hHeld.2.1.cell 0
  have y0 := hHeld.2.1.free 0
  simp only [List.getElem?_cons_zero] at x0
  have hkn := And.intro (hHeld.1.setCell (a := ⟨w.heap.size + 1, 0, none⟩) (by simp) (.iface 81 (.agg #[.int .i64 ((tokS l).2.1 : Nat), .int .i64 ((tokS l).2.2 : Nat)]))) (And.intro (hHeld.2.1.set 0 (.iface 81 (.agg #[.int .i64 ((tokS l).2.1 : Nat), .int .i64 ((tokS l).2.2 : Nat)]))) (below_box hHeld.2.2 (g := w.heap.size + 1) (Nat.le_succ _) 0 (.iface 81 (.agg #[.int .i64 ((tokS l).2.1 : Nat), .int .i64 ((tokS l).2.2 : Nat)]))))
  simp only [List.set_cons_zero] at hkn
  clear hHeld
  go_simp
  clear x0 y0
  refine hK'.out _ _ hkn (fun hHeld => ?_)
  clear hK' K' hkn
  try simp only [Act.put, List.setIfInBounds_toArray, List.set_cons_zero, List.set_cons_succ]
  generalize w6.setCell ⟨w.heap.size + 1, 0, none⟩ (.iface 81 (.agg #[.int .i64 ((tokS l).2.1 : Nat), .int .i64 ((tokS l).2.2 : Nat)])) = w7 at hHeld ⊢
  refine wpAnyH_done (by kernel_rfl) ?_ _
  refine NoPanic.normal ?_
  obtain ⟨hA, hC, hB⟩ := hHeld
  go_wp2_with fail
  have c0 := hA.cell 0
  have d0 := hC.cell 0
  simp only [List.getElem?_cons_zero] at c0 d0
  clear hA hC
  refine ⟨.tuple #[.agg #[.slice none 0 0], faultN (tokS l).2.1 (tokS l).2.2], ?_, hB, .inr ⟨(tokS l).2.1, (tokS l).2.2, h0, HRE.out, rfl⟩⟩
  simp [results, Tryz.results13, go_sem, c0, d0, faultN]
end Go.Proofs.YteieimchleioaaaGreatDoor
/-
  parse's read of types.
-/
namespace Go.Proofs.YteieimchleioaaaGreatDoor
open Go.ChangeShapes Go.WideShapes Go.ChangeAt Go.RowKit
set_option linter.unusedVariables false

/-! ### the codes of the rules -/
theorem name_code {ts : List Tok} {s : PS} {k i : Nat} (h : nameF ts s = .bad k i) : k ≠ 0 := by
 unfold nameF at h
 split at h
 ·cases h
 ·cases h; decide
theorem want_code {ts : List Tok} {t : List UInt8} {s : PS} {k i : Nat} (h : wantF ts t s = .bad k i) : k ≠ 0 := by
 unfold wantF at h
 split at h
 ·cases h
 ·cases h; decide
theorem then_code {α β : Type} {r : PR α} {f : α → PS → PR β} {k i : Nat} (h : r.then f = .bad k i) (h1 : ∀ k i, r = .bad k i → k ≠ 0) (h2 : ∀ x s k i, r = .ok x s → f x s = .bad k i → k ≠ 0) : k ≠ 0 := by
 cases r with
 | ok x s => exact h2 x s k i rfl h
 | bad k' i' =>
  rw [PR.then_bad] at h
  cases h
  exact h1 k i rfl
theorem allowed_code {ts : List Tok} {s : PS} {k i : Nat} (h : allowedF ts s = .bad k i) : k ≠ 0 := by
 unfold allowedF at h
 refine then_code h (fun k i e => name_code e) fun x s1 k i _ h => ?_
 split at h
 ·exact then_code h (fun k i e => name_code e) fun x s2 k i _ h => by cases h
 ·cases h
theorem types_code {ts : List Tok} : ∀ (n : Nat) (acc : List AlB) (s : PS) (k i : Nat), typesF ts n acc s = .bad k i → k ≠ 0
 | 0, acc, s, k, i, h => by unfold typesF at h; cases h
 | n + 1, acc, s, k, i, h => by
  unfold typesF at h
  split at h
  ·cases h; decide
  ·cases he : allowedF ts s with
   | ok x s1 =>
    rw [he, PR.then_ok] at h
    split at h
    ·exact types_code n _ _ k i h
    ·cases h
   | bad k1 i1 =>
    rw [he, PR.then_bad] at h
    cases h
    exact allowed_code he
theorem typesR_code (ts : List Tok) (k i : Nat) (h : typesR ts ps0 = .bad k i) : k ≠ 0 := types_code 33 [] ps0 k i h
theorem unitW_code {ts : List Tok} {U : Option (PS → PR Ex)} (hU : ∀ u, U = some u → ∀ s k i, u s = .bad k i → k ≠ 0) (s : PS) (k i : Nat) (h : unitW ts U s = .bad k i) : k ≠ 0 := by
 unfold unitW at h
 split at h
 ·cases U with
  | none => cases h; decide
  | some u => exact then_code h (hU u rfl _) fun x s1 k i _ h => then_code h (fun k i e => want_code e) fun y s2 k i _ h => by cases h
 ·split at h
  ·split at h
   ·split at h
    ·exact then_code h (fun k i e => name_code e) fun x s1 k i _ h => by cases h
    ·cases h
   ·cases h; decide
  ·cases h; decide
theorem loopW_code {ts : List Tok} {U : PS → PR Ex} (hU : ∀ s k i, U s = .bad k i → k ≠ 0) (sg : List UInt8) : ∀ (n : Nat) (acc : List Ex) (s : PS) (k i : Nat), loopW ts U sg n acc s = .bad k i → k ≠ 0
 | 0, acc, s, k, i, h => by unfold loopW at h; cases h
 | n + 1, acc, s, k, i, h => by
  unfold loopW at h
  split at h
  ·refine then_code h (hU _) fun x s1 k i _ h => ?_
   split at h
   ·cases h
   ·exact loopW_code hU sg n _ _ k i h
  ·cases h
theorem unitsW_code {ts : List Tok} {U : PS → PR Ex} (hU : ∀ s k i, U s = .bad k i → k ≠ 0) (s : PS) (k i : Nat) (h : unitsW ts U s = .bad k i) : k ≠ 0 := by
 unfold unitsW at h
 refine then_code h (hU _) fun x s1 k i _ h => ?_
 split at h
 ·cases h
 ·exact then_code h (loopW_code hU _ _ _ _) fun x s2 k i _ h => by cases h
theorem units_code {ts : List Tok} : ∀ (d : Nat) (s : PS) (k i : Nat), unitsF ts d s = .bad k i → k ≠ 0
 | 0, s, k, i, h => unitsW_code (unitW_code fun u e => by cases e) s k i h
 | d + 1, s, k, i, h => unitsW_code (unitW_code fun u e => by cases e; exact units_code d) s k i h
theorem expr_code (ts : List Tok) (s : PS) (k i : Nat) (h : exprF ts s = .bad k i) : k ≠ 0 := units_code 14 _ k i h
theorem member_code {ts : List Tok} {s : PS} {k i : Nat} (h : memberF ts s = .bad k i) : k ≠ 0 := by
 by_cases hr : txt ts s.i = wRelB
 ·rw [memberF_rel hr] at h
  exact then_code h (fun k i e => name_code e) fun _ _ k i _ h => then_code h (fun k i e => want_code e) fun _ _ k i _ h => then_code h (fun k i e => types_code _ _ _ _ _ e) fun _ _ k i _ h => then_code h (fun k i e => want_code e) fun _ _ k i _ h => by cases h
 ·rw [memberF_perm hr] at h
  exact then_code h (fun k i e => want_code e) fun _ _ k i _ h => then_code h (fun k i e => name_code e) fun _ _ k i _ h => then_code h (fun k i e => want_code e) fun _ _ k i _ h => then_code h (fun k i e => expr_code _ _ _ _ e) fun _ _ k i _ h => then_code h (fun k i e => want_code e) fun _ _ k i _ h => by cases h
theorem members_code {ts : List Tok} : ∀ (n : Nat) (acc : List MemB) (s : PS) (k i : Nat), membersF ts n acc s = .bad k i → k ≠ 0
 | 0, acc, s, k, i, h => by rw [membersF] at h; cases h
 | n + 1, acc, s, k, i, h => by
  rw [membersF] at h
  split at h
  ·split at h
   ·exact then_code h (fun k i e => member_code e) fun _ _ k i _ h => members_code n _ _ k i h
   ·cases h; decide
  ·cases h
theorem def_code {ts : List Tok} {s : PS} {k i : Nat} (h : defF ts s = .bad k i) : k ≠ 0 := by
 unfold defF at h
 exact then_code h (fun k i e => want_code e) fun _ _ k i _ h => then_code h (fun k i e => name_code e) fun _ _ k i _ h => then_code h (fun k i e => want_code e) fun _ _ k i _ h => then_code h (fun k i e => members_code _ _ _ _ _ e) fun _ _ k i _ h => then_code h (fun k i e => want_code e) fun _ _ k i _ h => by cases h
theorem defs_code {ts : List Tok} : ∀ (n : Nat) (acc : List DefB) (s : PS) (k i : Nat), defsF ts n acc s = .bad k i → k ≠ 0
 | 0, acc, s, k, i, h => by rw [defsF] at h; cases h
 | n + 1, acc, s, k, i, h => by
  rw [defsF] at h
  split at h
  ·split at h
   ·exact then_code h (fun k i e => def_code e) fun _ _ k i _ h => defs_code n _ _ k i h
   ·cases h; decide
  ·cases h
theorem schemaR_code (ts : List Tok) (k i : Nat) (h : schemaR ts ps0 = .bad k i) : k ≠ 0 := defs_code 65 [] ps0 k i h
set_option maxRecDepth 100000 in
set_option maxHeartbeats 2000000 in
theorem parseE_any (s : ByteArray) (hs : s.size ≤ 65536) (w : World) (hr : ResT w) : Calls Tryz.prog 11 #[.string s] w (ReadPost VE (.agg #[.int .i64 0, .string ⟨#[]⟩, .string ⟨#[]⟩, .slice none 0 0]) w (readF exprF s.data.toList)) := by
 have hb1 : Below w.heap.size w (w.alloc (.cells #[.int .i64 0, .string ⟨#[]⟩, .string ⟨#[]⟩, .slice none 0 0] 38)) := (Below.refl _ _).alloc (Nat.le_refl _) _
 have HA1 : Hid (Arr (w.alloc (.cells #[.int .i64 0, .string ⟨#[]⟩, .string ⟨#[]⟩, .slice none 0 0] 38)) 38 w.heap.size [.int .i64 0, .string ⟨#[]⟩, .string ⟨#[]⟩, .slice none 0 0]) := Arr.new' _ _ _ _ rfl
 have HR := Lib.hid (readE_any s hs (w.alloc (.cells #[.int .i64 0, .string ⟨#[]⟩, .string ⟨#[]⟩, .slice none 0 0] 38)) (hr.below hb1 hr.lt) (fun ts k i h => expr_code ts ps0 k i h))
 have HB1 := Lib.hid hb1
 have HSZ : Hid ((w.alloc (.cells #[.int .i64 0, .string ⟨#[]⟩, .string ⟨#[]⟩, .slice none 0 0] 38)).heap.size = w.heap.size + 1) := by show _ = _; simp
 clear hr hb1 hs
 go_enter Tryz.func11, Tryz.ntmps11
 go_wp2_with fail
 refine HR.out.mono ?_
 rintro r w2 ⟨b2, (⟨x, v, e, rfl, hv⟩ | ⟨k, i, hk, e, rfl⟩)⟩
 ·have HE := Lib.hid e
  have HA2 := Lib.hid (HA1.out.later b2)
  have HB2 := Lib.hid (HB1.out.trans (b2.mono HB1.out.size))
  obtain ⟨mk, mv, mn, ms⟩ := x
  have HV : Hid (VE (w.heap.size + 1) (.mk mk mv mn ms) w2 v) := HSZ.out ▸ hv
  obtain ⟨q4, c4, rfl⟩ := VE.form hv
  clear hv
  clear e b2 HR
  obtain ⟨x0, y0, x1, y1, x2, y2, x3, y3⟩ := HA2.out.all4
  go_wp2_with fail
  have hA := ((((HA2.out.set 0 (.int .i64 mk)).set 1 (.string (bstr mv))).set 2 (.string (bstr mn))).set 3 (.slice q4 ms.length c4))
  simp only [List.set_cons_zero, List.set_cons_succ] at hA
  have hkp := (((((Kp.of (pb := w.heap.size) (Below.refl w2.heap.size w2)).set 0 (.int .i64 mk)).set 1 (.string (bstr mv))).set 2 (.string (bstr mn))).set 3 (.slice q4 ms.length c4))
  have hB := (below_box (below_box (below_box (below_box HB2.out (Nat.le_refl _) 0 (.int .i64 mk)) (Nat.le_refl _) 1 (.string (bstr mv))) (Nat.le_refl _) 2 (.string (bstr mn))) (Nat.le_refl _) 3 (.slice q4 ms.length c4))
  have c0 := hA.cell 0
  have c1 := hA.cell 1
  have c2 := hA.cell 2
  have c3 := hA.cell 3
  simp only [List.getElem?_cons_zero, List.getElem?_cons_succ] at c0 c1 c2 c3
  refine bodyPost_ret (v := .tuple #[.agg #[.int .i64 mk, .string (bstr mv), .string (bstr mn), .slice q4 ms.length c4], .nilIface]) ?_ rfl ⟨hB, .inl ⟨_, _, HE.out, rfl, (HV.out.kp hkp (Nat.lt_succ_self _)).low (Nat.le_succ _)⟩⟩
  simp [results, Tryz.results11, go_sem, c0, c1, c2, c3]
 ·have HE := Lib.hid e
  have HK := Lib.hid hk
  have HA2 := Lib.hid (HA1.out.later b2)
  have HB2 := Lib.hid (HB1.out.trans (b2.mono HB1.out.size))
  clear e b2 HR hk
  obtain ⟨x0, y0, x1, y1, x2, y2, x3, y3⟩ := HA2.out.all4
  go_wp2_with fail
  have hA := ((((HA2.out.set 0 (.int .i64 0)).set 1 (.string ⟨#[]⟩)).set 2 (.string ⟨#[]⟩)).set 3 (.slice none 0 0))
  simp only [List.set_cons_zero, List.set_cons_succ] at hA
  have hkp := (((((Kp.of (pb := w.heap.size) (Below.refl w2.heap.size w2)).set 0 (.int .i64 0)).set 1 (.string ⟨#[]⟩)).set 2 (.string ⟨#[]⟩)).set 3 (.slice none 0 0))
  have hB := (below_box (below_box (below_box (below_box HB2.out (Nat.le_refl _) 0 (.int .i64 0)) (Nat.le_refl _) 1 (.string ⟨#[]⟩)) (Nat.le_refl _) 2 (.string ⟨#[]⟩)) (Nat.le_refl _) 3 (.slice none 0 0))
  have c0 := hA.cell 0
  have c1 := hA.cell 1
  have c2 := hA.cell 2
  have c3 := hA.cell 3
  simp only [List.getElem?_cons_zero, List.getElem?_cons_succ] at c0 c1 c2 c3
  refine bodyPost_ret (v := .tuple #[.agg #[.int .i64 0, .string ⟨#[]⟩, .string ⟨#[]⟩, .slice none 0 0], faultN k i]) ?_ rfl ⟨hB, .inr ⟨k, i, HK.out, HE.out, rfl⟩⟩
  simp [results, Tryz.results11, go_sem, c0, c1, c2, c3]
set_option maxRecDepth 100000 in
set_option maxHeartbeats 2000000 in
theorem parseS_any (s : ByteArray) (hs : s.size ≤ 65536) (w : World) (hr : ResT w) : Calls Tryz.prog 5 #[.string s] w (ReadPost VS (.agg #[.slice none 0 0]) w (readF schemaR s.data.toList)) := by
 have hb1 : Below w.heap.size w (w.alloc (.cells #[.slice none 0 0] 25)) := (Below.refl _ _).alloc (Nat.le_refl _) _
 have HA1 : Hid (Arr (w.alloc (.cells #[.slice none 0 0] 25)) 25 w.heap.size [.slice none 0 0]) := Arr.new' _ _ _ _ rfl
 have HR := Lib.hid (readS_any s hs (w.alloc (.cells #[.slice none 0 0] 25)) (hr.below hb1 hr.lt) schemaR_code)
 have HB1 := Lib.hid hb1
 have HSZ : Hid ((w.alloc (.cells #[.slice none 0 0] 25)).heap.size = w.heap.size + 1) := by show _ = _; simp
 clear hr hb1 hs
 go_enter Tryz.func5, Tryz.ntmps5
 go_wp2_with fail
 refine HR.out.mono ?_
 rintro r w2 ⟨b2, (⟨x, v, e, rfl, hv⟩ | ⟨k, i, hk, e, rfl⟩)⟩
 ·have HE := Lib.hid e
  have HA2 := Lib.hid (HA1.out.later b2)
  have HB2 := Lib.hid (HB1.out.trans (b2.mono HB1.out.size))
  have HV : Hid (VS (w.heap.size + 1) x w2 v) := HSZ.out ▸ hv
  obtain ⟨q4, c4, rfl, _⟩ := VS.form hv
  clear hv
  clear e b2 HR
  obtain ⟨x0, y0⟩ := HA2.out.all1
  go_wp2_with fail
  have hA := (HA2.out.set 0 (.slice q4 x.length c4))
  simp only [List.set_cons_zero] at hA
  have hkp := ((Kp.of (pb := w.heap.size) (Below.refl w2.heap.size w2)).set 0 (.slice q4 x.length c4))
  have hB := (below_box HB2.out (Nat.le_refl _) 0 (.slice q4 x.length c4))
  have c0 := hA.cell 0
  simp only [List.getElem?_cons_zero] at c0
  refine bodyPost_ret (v := .tuple #[.agg #[.slice q4 x.length c4], .nilIface]) ?_ rfl ⟨hB, .inl ⟨_, _, HE.out, rfl, (HV.out.kp hkp (Nat.lt_succ_self _)).low (Nat.le_succ _)⟩⟩
  simp [results, Tryz.results5, go_sem, c0]
 ·have HE := Lib.hid e
  have HK := Lib.hid hk
  have HA2 := Lib.hid (HA1.out.later b2)
  have HB2 := Lib.hid (HB1.out.trans (b2.mono HB1.out.size))
  clear e b2 HR hk
  obtain ⟨x0, y0⟩ := HA2.out.all1
  go_wp2_with fail
  have hA := (HA2.out.set 0 (.slice none 0 0))
  simp only [List.set_cons_zero] at hA
  have hkp := ((Kp.of (pb := w.heap.size) (Below.refl w2.heap.size w2)).set 0 (.slice none 0 0))
  have hB := (below_box HB2.out (Nat.le_refl _) 0 (.slice none 0 0))
  have c0 := hA.cell 0
  simp only [List.getElem?_cons_zero] at c0
  refine bodyPost_ret (v := .tuple #[.agg #[.slice none 0 0], faultN k i]) ?_ rfl ⟨hB, .inr ⟨k, i, HK.out, HE.out, rfl⟩⟩
  simp [results, Tryz.results5, go_sem, c0]
end Go.Proofs.YteieimchleioaaaGreatDoor
/-
  expr.Compare, Same.
-/
namespace Go.Proofs.YteieimchleioaaaGreatDoor
open Go.ChangeShapes Go.WideShapes Go.ChangeAt Go.RowKit
set_option linter.unusedVariables false

theorem orL4 (a b c d : Int) : orL [a, b, c, d] = if orL [a, b, c] = 0 then d else orL [a, b, c] := by
  by_cases ha : a = 0
  · by_cases hb : b = 0
    · by_cases hc : c = 0
      · by_cases hd : d = 0 <;> simp [orL, ha, hb, hc, hd]
      · simp [orL, ha, hb, hc]
    · simp [orL, ha, hb]
  · simp [orL, ha]
set_option maxRecDepth 100000 in
set_option maxHeartbeats 4000000 in
theorem ecompare_any : ∀ (n : Nat), n ≤ 900000 → ∀ (x y : Ex) (vx vy : Value) (P Q : Nat → Prop) (w : World), sizeE x ≤ n → sizeE y ≤ 900000 → RdE P w x vx → RdE Q w y vy → (∀ b, P b → b < w.heap.size) → (∀ b, Q b → b < w.heap.size) → Calls Tryz.prog 99 #[vx, vy] w fun r w' => r = .returned (.int .i64 (cmpE x y)) ∧ Below w.heap.size w w' := by
  intro n
  induction n with
  | zero => intro _ x y vx vy P Q w h; have := sizeE_pos x; omega
  | succ n ih =>
    intro hn x y vx vy P Q w hx hy h1 h2 hP hQ
    obtain ⟨q, c, rfl, _, hk⟩ := h1.form
    obtain ⟨q2, c2, rfl, _, hl⟩ := h2.form
    obtain ⟨k, xv, xn, ks⟩ := x
    obtain ⟨k2, yv, yn, ls⟩ := y
    unfold exv
    show Calls _ _ #[.agg #[.int .i64 k, .string (bstr xv), .string (bstr xn), .slice q ks.length c], .agg #[.int .i64 k2, .string (bstr yv), .string (bstr yn), .slice q2 ls.length c2]] _ _
    have hks : sizeL ks ≤ n := by unfold sizeE at hx; omega
    have hls : sizeL ls ≤ 900000 := by unfold sizeE at hy; omega
    have hb : Below w.heap.size w ((w.alloc (.cells #[.int .i64 k, .string (bstr xv), .string (bstr xn), .slice q ks.length c] 38)).alloc (.cells #[.int .i64 k2, .string (bstr yv), .string (bstr yn), .slice q2 ls.length c2] 38)) := ((Below.refl _ _).alloc (Nat.le_refl _) _).alloc (by simp) _
    have ha1 : Arr ((w.alloc (.cells #[.int .i64 k, .string (bstr xv), .string (bstr xn), .slice q ks.length c] 38)).alloc (.cells #[.int .i64 k2, .string (bstr yv), .string (bstr yn), .slice q2 ls.length c2] 38)) 38 w.heap.size [.int .i64 k, .string (bstr xv), .string (bstr xn), .slice q ks.length c] := (Arr.new' w _ _ _ rfl).alloc _
    have ha2 : Arr ((w.alloc (.cells #[.int .i64 k, .string (bstr xv), .string (bstr xn), .slice q ks.length c] 38)).alloc (.cells #[.int .i64 k2, .string (bstr yv), .string (bstr yn), .slice q2 ls.length c2] 38)) 38 (w.heap.size + 1) [.int .i64 k2, .string (bstr yv), .string (bstr yn), .slice q2 ls.length c2] := Arr.new2 w _ _ _ _ rfl
    obtain ⟨w0, hw0⟩ : ∃ w0, w0 = ((w.alloc (.cells #[.int .i64 k, .string (bstr xv), .string (bstr xn), .slice q ks.length c] 38)).alloc (.cells #[.int .i64 k2, .string (bstr yv), .string (bstr yn), .slice q2 ls.length c2] 38)) := ⟨_, rfl⟩
    rw [← hw0] at hb ha1 ha2
    have HW := Lib.hid hw0
    have HB := Lib.hid hb
    have HA1 := Lib.hid ha1
    have HA2 := Lib.hid ha2
    have HIH : Hid (∀ (x y : Ex) (vx vy : Value) (P Q : Nat → Prop) (W : World), sizeE x ≤ n → sizeE y ≤ 900000 → RdE P W x vx → RdE Q W y vy → (∀ b, P b → b < W.heap.size) → (∀ b, Q b → b < W.heap.size) → Calls Tryz.prog 99 #[vx, vy] W fun r w' => r = .returned (.int .i64 (cmpE x y)) ∧ Below W.heap.size W w') := ih (by omega)
    have HK : Hid (0 < ks.length → ∃ b o, q = some ⟨b, o, none⟩ ∧ P b ∧ RdL P w ks b o) := hk
    have HL : Hid (0 < ls.length → ∃ b o, q2 = some ⟨b, o, none⟩ ∧ Q b ∧ RdL Q w ls b o) := hl
    have H1 := Lib.hid (Tryz.cmp_Compare_int k k2)
    have H2 := Lib.hid (Tryz.strings_Compare (bstr xv) (bstr yv))
    have H3 := Lib.hid (Tryz.strings_Compare (bstr xn) (bstr yn))
    have HN := Lib.hid hn
    clear h1 h2 hk hl hx hy hb ha1 ha2 hw0 ih hn
    go_enter Tryz.func99, Tryz.ntmps99
    go_wp2_with fail
    rw [← HW.out]
    have a0 := HA1.out.cell 0
    have a1 := HA1.out.cell 1
    have a2 := HA1.out.cell 2
    have e0 := HA2.out.cell 0
    have e1 := HA2.out.cell 1
    have e2 := HA2.out.cell 2
    simp only [List.getElem?_cons_zero, List.getElem?_cons_succ] at a0 a1 a2 e0 e1 e2
    refine wp_region_still_tail 15 (by kernel_rfl) (by kernel_rfl) ?_
    simp only [List.take_succ_cons, List.take_zero, List.drop_succ_cons, List.drop_zero]
    repeat first | still_step | still_call (H1.out _) | still_call (H2.out _) | still_call (H3.out _)
    refine wpStill_nil ?_
    change wpList _ _ _ _ _ w0.drew
    have HBd : Hid (Below w0.heap.size w0 w0.drew) := (Below.refl _ _).drew
    have HB2 := Lib.hid (HB.out.trans (HBd.out.mono HB.out.size))
    have HA12 := Lib.hid (HA1.out.later HBd.out)
    have HA22 := Lib.hid (HA2.out.later HBd.out)
    rw [bstr_data, bstr_data, bstr_data, bstr_data]
    obtain ⟨A, hA⟩ : ∃ A, A = Lib.compareInt k k2 := ⟨_, rfl⟩
    obtain ⟨B, hB⟩ : ∃ B, B = Lib.compareBytes xv yv := ⟨_, rfl⟩
    obtain ⟨C, hC⟩ : ∃ C, C = Lib.compareBytes xn yn := ⟨_, rfl⟩
    rw [← hA, ← hB, ← hC]
    have HE : Hid (cmpE (.mk k xv xn ks) (.mk k2 yv yn ls) = if orL [A, B, C] = 0 then cmpL ks ls else orL [A, B, C]) := by show _ = _; rw [← orL4, hA, hB, hC]; unfold cmpE; rfl
    clear hA hB hC a0 a1 a2 e0 e1 e2 HA1 HA2 HW H1 H2 H3
    generalize w0.drew = w2 at HB2 HA12 HA22 ⊢
    clear HBd HB
    have HOR : Hid (Calls Tryz.prog 111 #[.slice (some ⟨w2.heap.size, 0, none⟩) 3 3] (w2.alloc (.cells #[.int .i64 A, .int .i64 B, .int .i64 C] 3)) fun r w' => r = .returned (.int .i64 (orL [A, B, C])) ∧ w2.alloc (.cells #[.int .i64 A, .int .i64 B, .int .i64 C] 3) = w') := or_any [A, B, C] (by simp) w2.heap.size _ (Arr.new' _ _ _ _ rfl)
    have HB3 : Hid (Below w2.heap.size w2 (w2.alloc (.cells #[.int .i64 A, .int .i64 B, .int .i64 C] 3))) := (Below.refl _ _).alloc (Nat.le_refl _) _
    obtain ⟨O, hO⟩ : ∃ O, O = orL [A, B, C] := ⟨_, rfl⟩
    rw [← hO] at HE HOR
    clear hO
    go_wp2_with fail
    refine HOR.out.mono ?_
    rintro r w3 ⟨rfl, hw3⟩
    have HA13 := Lib.hid (HA12.out.later HB3.out)
    have HA23 := Lib.hid (HA22.out.later HB3.out)
    have HB4 := Lib.hid (HB2.out.trans (HB3.out.mono HB2.out.size))
    rw [hw3] at HA13 HA23 HB4
    clear hw3 HB3 HOR HA12 HA22 HB2
    have a3 := HA13.out.cell 3
    have e3 := HA23.out.cell 3
    simp only [List.getElem?_cons_zero, List.getElem?_cons_succ] at a3 e3
    by_cases hz : O = 0
    · have bz : (O != 0) = false := by rw [hz]; rfl
      have HE2 : Hid (cmpE (.mk k xv xn ks) (.mk k2 yv yn ls) = cmpL ks ls) := by show _ = _; rw [HE.out, if_pos hz]
      have HCF := Lib.hid (cmpf_any n HIH ks ls q q2 c c2 P Q w3 hks (by have := HN.out; omega) hls
        (fun h => by
          obtain ⟨b, o, g1, g2, g3⟩ := HK.out h
          exact ⟨b, o, g1, g2, g3.keep (cells_below HB4.out hP) g2⟩)
        (fun h => by
          obtain ⟨b, o, g1, g2, g3⟩ := HL.out h
          exact ⟨b, o, g1, g2, g3.keep (cells_below HB4.out hQ) g2⟩)
        (fun b hb => Nat.lt_of_lt_of_le (hP b hb) HB4.out.size) (fun b hb => Nat.lt_of_lt_of_le (hQ b hb) HB4.out.size))
      clear hz
      go_wp2_with fail
      refine HCF.out.mono ?_
      rintro r w5 ⟨rfl, b5⟩
      have HB5 := Lib.hid (HB4.out.trans (b5.mono HB4.out.size))
      clear b5
      go_wp2_with fail
      go_ret
      exact ⟨by rw [HE2.out]; rfl, HB5.out⟩
    · have bz : (O != 0) = true := by rw [bne_iff_ne]; exact hz
      have HE2 : Hid (cmpE (.mk k xv xn ks) (.mk k2 yv yn ls) = O) := by show _ = _; rw [HE.out, if_neg hz]
      clear hz
      go_wp2_with fail
      go_ret
      exact ⟨by rw [HE2.out]; rfl, HB4.out⟩
set_option maxRecDepth 100000 in
set_option maxHeartbeats 1000000 in
theorem esame_any (x y : Ex) (vx vy : Value) (P Q : Nat → Prop) (w : World) (hx : sizeE x ≤ 900000) (hy : sizeE y ≤ 900000) (h1 : RdE P w x vx) (h2 : RdE Q w y vy) (hP : ∀ b, P b → b < w.heap.size) (hQ : ∀ b, Q b → b < w.heap.size) :
    Calls Tryz.prog 80 #[vx, vy] w fun r w' => r = .returned (.bool (cmpE x y == 0)) ∧ Below w.heap.size w w' := by
  have G1 := Lib.hid h1
  have G2 := Lib.hid h2
  obtain ⟨q, c, rfl, _, _⟩ := h1.form
  obtain ⟨q2, c2, rfl, _, _⟩ := h2.form
  obtain ⟨k, xv, xn, ks⟩ := x
  obtain ⟨k2, yv, yn, ls⟩ := y
  unfold exv
  show Calls _ _ #[.agg #[.int .i64 k, .string (bstr xv), .string (bstr xn), .slice q ks.length c], .agg #[.int .i64 k2, .string (bstr yv), .string (bstr yn), .slice q2 ls.length c2]] _ _
  have HB : Hid (Below w.heap.size w ((w.alloc (.cells #[.int .i64 k, .string (bstr xv), .string (bstr xn), .slice q ks.length c] 38)).alloc (.cells #[.int .i64 k2, .string (bstr yv), .string (bstr yn), .slice q2 ls.length c2] 38))) := ((Below.refl _ _).alloc (Nat.le_refl _) _).alloc (by simp) _
  have HC := ecompare_any 900000 (Nat.le_refl _) (.mk k xv xn ks) (.mk k2 yv yn ls) _ _ P Q ((w.alloc (.cells #[.int .i64 k, .string (bstr xv), .string (bstr xn), .slice q ks.length c] 38)).alloc (.cells #[.int .i64 k2, .string (bstr yv), .string (bstr yn), .slice q2 ls.length c2] 38)) hx hy (G1.out.below HB.out hP) (G2.out.below HB.out hQ) (fun b hb => Nat.lt_of_lt_of_le (hP b hb) HB.out.size) (fun b hb => Nat.lt_of_lt_of_le (hQ b hb) HB.out.size)
  obtain ⟨E, hE⟩ : ∃ E, E = cmpE (.mk k xv xn ks) (.mk k2 yv yn ls) := ⟨_, rfl⟩
  rw [← hE] at HC ⊢
  have HC := Lib.hid HC
  clear h1 h2 hx hy hE G1 G2
  go_enter Tryz.func80, Tryz.ntmps80
  go_wp2_with fail
  refine HC.out.mono ?_
  rintro r w5 ⟨rfl, b5⟩
  have HB5 := Lib.hid (HB.out.trans (b5.mono HB.out.size))
  clear b5
  go_wp2_with fail
  go_ret
  exact ⟨rfl, HB5.out⟩
end Go.Proofs.YteieimchleioaaaGreatDoor
