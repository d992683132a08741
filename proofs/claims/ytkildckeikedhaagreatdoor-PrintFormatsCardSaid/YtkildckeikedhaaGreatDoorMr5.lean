/-
  parse's units, expression.
-/
import Derived.Test.YtkildckeikedhaaGreatDoorMr4
import Derived.Test.YtkildckeikedhaaGreatDoorMr2
namespace Go.Proofs.YtkildckeikedhaaGreatDoor
open Go.ChangeShapes Go.WideShapes Go.ChangeAt Go.RowKit
set_option linter.unusedVariables false

def plc (pb : Nat) (w : World) : Nat := match w.cell? ⟨pb, 1, none⟩ with
 | some (.int _ x) => x.toNat
 | _ => 0
theorem PP.plc {W : World} {pb tb c : Nat} {ts : List Tok} {s : PS} (h : PP W pb tb c ts s) : plc pb W = s.i := by
 have h1 := h.1.cell 1
 simp only [List.getElem?_cons_zero, List.getElem?_cons_succ] at h1
 unfold Proofs.YtkildckeikedhaaGreatDoor.plc
 rw [h1]
 simp
theorem unitsW_one {ts : List Tok} {U : PS → PR Ex} {s s1 : PS} {e : Ex} (h : U s = .ok e s1) (ho : opK (txt ts s1.i) = 0) : unitsW ts U s = .ok e s1 := by
 unfold unitsW
 rw [h, PR.then_ok, if_pos ho]
def finU (kk : Int) (r : PR (List Ex)) : PR Ex := r.then fun ks s2 => .ok (.mk kk [] [] ks) s2
theorem unitsW_loop {ts : List Tok} {U : PS → PR Ex} {s s1 : PS} {e : Ex} (h : U s = .ok e s1) (ho : ¬ opK (txt ts s1.i) = 0) : unitsW ts U s = finU (opK (txt ts s1.i)) (loopW ts U (txt ts s1.i) ts.length [e] s1) := by
 unfold unitsW
 rw [h, PR.then_ok, if_neg ho]
 rfl
theorem loopW_end {ts : List Tok} {U : PS → PR Ex} {sg : List UInt8} {n : Nat} {acc : List Ex} {s : PS} (h : ¬ txt ts s.i = sg) : loopW ts U sg (n + 1) acc s = .ok acc s := by rw [loopW, if_neg h]
theorem loopW_bad {ts : List Tok} {U : PS → PR Ex} {sg : List UInt8} {n : Nat} {acc : List Ex} {s : PS} {k i : Nat} (h : txt ts s.i = sg) (hu : U s.up = .bad k i) : loopW ts U sg (n + 1) acc s = .bad k i := by rw [loopW, if_pos h, hu, PR.then_bad]
theorem loopW_two {ts : List Tok} {U : PS → PR Ex} {sg : List UInt8} {n : Nat} {acc : List Ex} {s s1 : PS} {e : Ex} (h : txt ts s.i = sg) (hu : U s.up = .ok e s1) (h5 : opK sg = 5) : loopW ts U sg (n + 1) acc s = .ok (acc ++ [e]) s1 := by rw [loopW, if_pos h, hu, PR.then_ok, if_pos h5]
theorem loopW_more {ts : List Tok} {U : PS → PR Ex} {sg : List UInt8} {n : Nat} {acc : List Ex} {s s1 : PS} {e : Ex} (h : txt ts s.i = sg) (hu : U s.up = .ok e s1) (h5 : ¬ opK sg = 5) : loopW ts U sg (n + 1) acc s = loopW ts U sg n (acc ++ [e]) s1 := by rw [loopW, if_pos h, hu, PR.then_ok, if_neg h5]
def UL (W : World) (pb tb c : Nat) (ts : List Tok) (g : Nat) (kk : Int) (acc : List Ex) (s : PS) (wr : World) : Prop :=
 ∃ q cc, PRow kdEx (W.heap.size + 1) (fun b => b = g) wr (.slice q acc.length cc) acc ∧ Arr wr 46 g [.int .i64 kk, .string ⟨#[]⟩, .string ⟨#[]⟩, .slice q acc.length cc] ∧ Arr wr 46 W.heap.size [.int .i64 0, .string ⟨#[]⟩, .string ⟨#[]⟩, .slice none 0 0] ∧ PP wr pb tb c ts s ∧ Kp pb W wr
section
variable {W : World} {pb tb c : Nat} {ts : List Tok} {s : PS}
theorem UL.lt {g : Nat} {kk : Int} {acc : List Ex} {s : PS} {wr : World} (h : UL W pb tb c ts g kk acc s wr) : g < wr.heap.size := by obtain ⟨q, cc, _, h, _⟩ := h; exact h.lt
theorem UL.kp {g : Nat} {kk : Int} {acc : List Ex} {s s' : PS} {wr w' : World} (h : UL W pb tb c ts g kk acc s wr) (hk : Kp pb wr w') (hp : PP w' pb tb c ts s') (hpb : pb < W.heap.size) (hg : W.heap.size < g) : UL W pb tb c ts g kk acc s' w' := by
 obtain ⟨q, cc, h1, h2, h3, h4, h5⟩ := h
 exact ⟨q, cc, h1.turn hk.2.2.2.1 (fun b hb hl _ => hk.2.2.2.2 b hl (by omega)), hk.arr h2 (by omega), hk.arr h3 (by omega), hp, h5.trans hk⟩
theorem UL.later {g : Nat} {kk : Int} {acc : List Ex} {s : PS} {wr w' : World} (h : UL W pb tb c ts g kk acc s wr) (hb : Below wr.heap.size wr w') : UL W pb tb c ts g kk acc s w' := by
 obtain ⟨q, cc, h1, h2, h3, h4, h5⟩ := h
 exact ⟨q, cc, h1.later hb, h2.later hb, h3.later hb, h4.later hb, h5.trans (Kp.of hb)⟩
set_option maxRecDepth 100000 in
set_option maxHeartbeats 2000000 in
theorem units_any {U : PS → PR Ex} (ho : OkTs ts) (h : PP W pb tb c ts s) (hi : s.i < ts.length) (hk : Keeps ts U) (HU : ∀ W' s', PP W' pb tb c ts s' → s'.i < ts.length → s'.o = s.o → Calls Tryz.prog 129 #[.pointer (some ⟨pb, 0, none⟩)] W' (QR pb tb c ts W' (U s') (VE W'.heap.size))) : Calls Tryz.prog 117 #[.pointer (some ⟨pb, 0, none⟩)] W (QR pb tb c ts W (unitsW ts U s) (VE W.heap.size)) := by
 have hb0 : Below W.heap.size W (W.alloc (.cells #[.int .i64 0, .string ⟨#[]⟩, .string ⟨#[]⟩, .slice none 0 0] 46)) := (Below.refl _ _).alloc (Nat.le_refl _) _
 have HP0 := hiD (h.later hb0)
 have HK0 := hiD (Kp.of (pb := pb) hb0)
 have HA0 : Hid (Arr (W.alloc (.cells #[.int .i64 0, .string ⟨#[]⟩, .string ⟨#[]⟩, .slice none 0 0] 46)) 46 W.heap.size [.int .i64 0, .string ⟨#[]⟩, .string ⟨#[]⟩, .slice none 0 0]) := Arr.new' _ _ _ _ rfl
 have HLT : Hid (pb < W.heap.size) := h.1.lt
 have HH := hiD hi
 have HO := hiD ho
 have HU := hiD HU
 have HKU := hiD hk
 have HUC := hiD (HU.out _ s HP0.out hi rfl)
 clear h hi hb0 ho hk
 go_enter Tryz.func117, Tryz.ntmps117
 go_wp2_with fail
 refine HUC.out.mono ?_
 rintro r w1 (⟨e, s1, v, e1, rfl, r1, p1, k1⟩ | ⟨k, i, e1, rfl, k1⟩)
 ·have HE1 := hiD e1
  have HS1 : Hid (s1.i < ts.length ∧ s1.o = s.o) := by
   have kk := HKU.out _ _ _ HH.out e1
   exact ⟨kk.1, kk.2.1⟩
  obtain ⟨mk, mv, mn, ms⟩ := e
  have HR1 : Hid (VE (W.heap.size + 1) (.mk mk mv mn ms) w1 v) := by
   have := r1
   rw [show (W.alloc (.cells #[.int .i64 0, .string ⟨#[]⟩, .string ⟨#[]⟩, .slice none 0 0] 46)).heap.size = W.heap.size + 1 from by simp] at this
   exact this
  obtain ⟨q4, c4, rfl, _, _⟩ := RdE.form r1
  unfold exv at HR1 ⊢
  dsimp only [Ex.kind, Ex.via, Ex.nm, Ex.kids] at HR1 ⊢
  have HB2 : Hid (Below w1.heap.size w1 (w1.alloc (.cells #[.int .i64 mk, .string (bstr mv), .string (bstr mn), .slice q4 ms.length c4] 46))) := (Below.refl _ _).alloc (Nat.le_refl _) _
  have HP2 := hiD (p1.later HB2.out)
  have HK1 := hiD (HK0.out.trans k1)
  have HK2 := hiD (HK1.out.trans (Kp.of (pb := pb) HB2.out))
  have HA2 := hiD ((k1.arr HA0.out (by have := HLT.out; omega)).later HB2.out)
  have HR2 := hiD (HR1.out.later HB2.out)
  have HF2 : Hid (Arr (w1.alloc (.cells #[.int .i64 mk, .string (bstr mv), .string (bstr mn), .slice q4 ms.length c4] 46)) 46 w1.heap.size [.int .i64 mk, .string (bstr mv), .string (bstr mn), .slice q4 ms.length c4]) := Arr.new' _ _ _ _ rfl
  have HW1 : Hid (W.heap.size + 1 ≤ w1.heap.size) := by have := k1.2.2.2.1; rw [show (W.alloc (.cells #[.int .i64 0, .string ⟨#[]⟩, .string ⟨#[]⟩, .slice none 0 0] 46)).heap.size = W.heap.size + 1 from by simp] at this; exact this
  have HOP := hiD (operator_any HP2.out HS1.out.1)
  clear e1 r1 p1 k1 HUC HR1
  go_wp2_with fail
  refine HOP.out.mono ?_
  rintro r w3 ⟨rfl, b3⟩
  have HP3 := hiD (HP2.out.later b3)
  have HK3 := hiD (HK2.out.trans (Kp.of (pb := pb) b3))
  have HA3 := hiD (HA2.out.later b3)
  have HR3 := hiD (HR2.out.later b3)
  have HF3 := hiD (HF2.out.later b3)
  have HW3 : Hid (w1.heap.size + 1 ≤ w3.heap.size) := by have h := b3.size; rw [show (w1.alloc (.cells #[.int .i64 mk, .string (bstr mv), .string (bstr mn), .slice q4 ms.length c4] 46)).heap.size = w1.heap.size + 1 from by simp] at h; exact h
  obtain ⟨sg, hsg⟩ : ∃ x, x = txt ts s1.i := ⟨_, rfl⟩
  rw [← hsg]
  obtain ⟨kk, hkk⟩ : ∃ x, x = opK sg := ⟨_, rfl⟩
  rw [← hkk]
  have HKK := hiD hkk
  have HSG := hiD hsg
  clear b3 HOP HP2 HK2 HA2 HR2 HF2 HB2
  have hz0 := HF3.out.cell 0
  have hz1 := HF3.out.cell 1
  have hz2 := HF3.out.cell 2
  have hz3 := HF3.out.cell 3
  simp only [List.getElem?_cons_zero, List.getElem?_cons_succ] at hz0 hz1 hz2 hz3
  by_cases h0 : kk = 0
  ·have h0' : (kk == 0) = true := by simp [h0]
   have HE2 : Hid (unitsW ts U s = .ok (.mk mk mv mn ms) s1) := unitsW_one HE1.out (by rw [← hsg, ← hkk]; exact h0)
   clear h0 hkk hsg
   obtain ⟨p0, z0, p1, z1, p2, z2, p3, z3⟩ := HA3.out.all4
   go_wp2_with fail
   have hk := kp_set4 w3 W.heap.size (.int .i64 mk) (.string (bstr mv)) (.string (bstr mn)) (.slice q4 ms.length c4)
   have hA := HA3.out.set4 (.int .i64 mk) (.string (bstr mv)) (.string (bstr mn)) (.slice q4 ms.length c4)
   exact bodyPost_ret (resE rfl hA rfl) rfl (.inl ⟨_, _, _, HE2.out, rfl, ((VE.kp HR3.out hk (Nat.lt_succ_self _)).low (Nat.le_succ _)), HP3.out.kp hk HLT.out HK3.out.2.2.2.1, HK3.out.andThen hk (Nat.le_refl _)⟩)
  ·have h0' : (kk == 0) = false := by simp [h0]
   have HE2 : Hid (unitsW ts U s = finU kk (loopW ts U sg ts.length [Ex.mk mk mv mn ms] s1)) := by
    show _ = _
    rw [unitsW_loop HE1.out (by rw [← hsg, ← hkk]; exact h0), ← hsg, ← hkk]
   have HSN : Hid (sg ≠ []) := opK_ne (by rw [← hkk]; exact h0)
   have HOS : Hid (opS sg = sg) := by show _ = _; unfold opS; rw [← hkk, if_neg h0]
   rw [HOS.out]
   clear h0 hkk hsg
   obtain ⟨g, hg⟩ : ∃ g, g = w3.heap.size + 1 := ⟨_, rfl⟩
   have HB4 : Hid (Below w3.heap.size w3 (w3.alloc (.cells #[.int .i64 mk, .string (bstr mv), .string (bstr mn), .slice q4 ms.length c4] 46))) := (Below.refl _ _).alloc (Nat.le_refl _) _
   have HU0 : Hid (UL W pb tb c ts (w3.heap.size + 1) kk [Ex.mk mk mv mn ms] s1 ((w3.alloc (.cells #[.int .i64 mk, .string (bstr mv), .string (bstr mn), .slice q4 ms.length c4] 46)).alloc (.cells #[.int .i64 kk, .string ⟨#[]⟩, .string ⟨#[]⟩, .slice (some ⟨w3.heap.size, 0, none⟩) 1 1] 46))) := by
    refine ⟨some ⟨w3.heap.size, 0, none⟩, 1, ?_, Arr.new2 _ _ _ _ _ rfl, (HA3.out.alloc _).alloc _, ?_, ?_⟩
    ·have h1 := PRow.lit (K := kdEx) (base := W.heap.size + 1) (X := fun _ => False) (w := w3) (x := .mk mk mv mn ms) (cs := [.int .i64 mk, .string (bstr mv), .string (bstr mn), .slice q4 ms.length c4]) (by have := HW1.out; have := HW3.out; omega) (fun b h => h.elim) ⟨_, _, _, _, rfl, RdE.imp (fun b hb => ⟨hb.1, hb.2, fun h => h⟩) HR3.out⟩
     exact (h1.wk (Y := fun b => b = w3.heap.size + 1) (fun b _ hl h => by simp at hl; omega)).later ((Below.refl _ _).alloc (Nat.le_refl _) _)
    ·exact (HP3.out.later HB4.out).later ((Below.refl _ _).alloc (Nat.le_refl _) _)
    ·exact (HK3.out.trans (Kp.of (pb := pb) HB4.out)).trans (Kp.of (pb := pb) ((Below.refl _ _).alloc (Nat.le_refl _) _))
   have HGW : Hid (W.heap.size + 1 ≤ g) := by show _ ≤ g; have := HW1.out; have := HW3.out; omega
   rw [← hg] at HU0
   clear HP3 HK3 HA3 HR3 HB4
   go_upto_region 5 with (fail)
   go_wp2_with fail
   clear hz0 hz1 hz2 hz3
   rw [show (w3.heap.size + 1 : Nat) = g from hg.symm]
   clear hg
   go_loopw [23] (fun _ wr => ∃ (n : Nat) (acc : List Ex) (s2 : PS), ts.length ≤ s2.i + n ∧ acc.length ≤ s2.i + 1 ∧ Hid (UL W pb tb c ts g kk acc s2 wr) ∧ Hid (s2.i < ts.length) ∧ Hid (s2.o = s.o) ∧ Hid (unitsW ts U s = finU kk (loopW ts U sg n acc s2))) (fun _ wr => ts.length - plc pb wr)
   case atStart => exact ⟨ts.length, _, s1, by omega, by simp, HU0.out, HS1.out.1, HS1.out.2, HE2.out⟩
   case round =>
    obtain ⟨n, acc, s2, hn, hal, HUL, HS2, HO2, HE⟩ := hrel
    obtain ⟨n, rfl⟩ : ∃ m, n = m + 1 := ⟨n - 1, by have := HS2.out; omega⟩
    obtain ⟨q, cc, RW2, G2, A2, P2, K2⟩ := HUL.out
    have HPL : Hid (plc pb wr = s2.i) := P2.plc
    have HRW2 := hiD RW2
    have HG2 := hiD G2
    have HA2 := hiD A2
    have HP2 := hiD P2
    have HK2 := hiD K2
    have HAC : Hid (acc.length + 1 ≤ 200000) := by have := P2.2.2.2.1; have := HS2.out; show _ ≤ _; omega
    have HSK := hiD (skip_any P2 HS2.out (bstr sg) sg (bstr_data _))
    clear RW2 G2 A2 P2 K2 HUL
    go_wp2_with fail
    refine HSK.out.mono ?_
    rintro r w6 ⟨d, hd, rfl, p6, k6⟩
    have HRW6 := hiD (HRW2.out.turn (w' := w6) k6.2.2.2.1 (fun b hb hl _ => k6.2.2.2.2 b hl (by have := HLT.out; omega)))
    have HG6 := hiD (k6.arr HG2.out (by have := HLT.out; have := HGW.out; omega))
    have HA6 := hiD (k6.arr HA2.out (by have := HLT.out; omega))
    have HK6 := hiD (HK2.out.trans k6)
    clear HRW2 HG2 HA2 HP2 HK2
    cases d with
    | true =>
     have HT := hiD (of_decide_eq_true hd.symm)
     have HP6 : Hid (PP w6 pb tb c ts s2.up) := p6
     have HS6 : Hid (s2.up.i < ts.length) := HO.out.step (by rw [HT.out]; exact HSN.out)
     clear p6 k6 HSK hd
     go_upto_region 7 with (fail)
     refine wp_region_held_drew (S := fun _ => True) (by kernel_rfl) trivial (fun hHeld => ?_)
     try simp only [Act.put]
     have hb7 : Below w6.heap.size w6 w6.drew := (Below.refl _ _).drew
     have HP7 := hiD (HP6.out.later hb7)
     have HK7 := hiD (HK6.out.trans (Kp.of (pb := pb) hb7))
     have HA7 := hiD (HA6.out.later hb7)
     have HG7 := hiD (HG6.out.later hb7)
     have HRW7 := hiD (HRW6.out.later hb7)
     clear hb7
     generalize w6.drew = w7 at HP7 HK7 HA7 HG7 HRW7 ⊢
     have HN7 := hiD (HU.out w7 s2.up HP7.out HS6.out HO2.out)
     have HGL : Hid (g < w7.heap.size) := HG7.out.lt
     have HBL : Hid (∀ b, (Value.slice q acc.length cc).ownBlock = some b → b < w7.heap.size) := fun b hb => by obtain ⟨_, h, _⟩ := HRW7.out; exact (h.lt b hb).2
     refine wpAnyH_take (i := 0) (oi := ⟨some 24, _, _, _, _, _⟩) (v := .pointer (some ⟨g, 3, none⟩)) rfl (by kernel_rfl) (by kernel_rfl) (by kernel_rfl) (fun _ _ _ h => h) (.inl ⟨by rfl, fun w' hSw => ?_⟩) hHeld ?_
     focus (skip; clear hHeld; go_simp)
     try simp only [Act.put, pz0, pz1, pz2]
     refine wpAnyH_take (i := 2) (oi := ⟨some 26, _, _, _, _, _⟩) (v := .pointer (some ⟨pb, 0, none⟩)) rfl (by kernel_rfl) (by kernel_rfl) (by kernel_rfl) (fun _ _ _ h => h) (.inl ⟨by rfl, fun w' hSw => ?_⟩) hHeld ?_
     focus (skip; clear hHeld; go_simp)
     try simp only [Act.put, pz0, pz1, pz2]
     refine wpAnyH_ready (rs := [1, 3]) (by kernel_rfl) (by simp) ?_
     refine AllReadyH.cons (o := ⟨some 25, _, _, _, _, _⟩) rfl (fun K' hK' => ?_) (AllReadyH.cons (o := ⟨some 27, _, _, _, _, _⟩) rfl (fun K' hK' => ?_) AllReadyH.nil)
     ·have x3 := HG7.out.cell 3
      simp only [List.getElem?_cons_zero, List.getElem?_cons_succ] at x3
      go_simp
      clear x3
      refine hK'.out _ _ trivial (fun _ => ?_)
      clear hK' K'
      try simp only [Act.put, pz0, pz1, pz2]
      refine wpAnyH_ready (rs := [3]) (by kernel_rfl) (by simp) ?_
      refine AllReadyH.cons (o := ⟨some 27, _, _, _, _, _⟩) rfl (fun K' hK' => ?_) AllReadyH.nil
      refine stepw_calls (by rfl) ?_ HN7.out (fun w => QR.grown w) ?_ ?_
      focus go_simp
      ·rintro ch w8 hpan
       obtain ⟨k, i, e8, rfl, k8⟩ := hpan.pan
       have HK8 := hiD (HK7.out.trans k8)
       have HE2 : Hid (unitsW ts U s = .bad k i) := by
        show _ = _
        rw [HE.out, loopW_bad HT.out e8]; rfl
       clear e8 k8 hpan
       exact ⟨rfl, .inr ⟨k, i, HE2.out, rfl, HK8.out⟩⟩
      rintro v w8 hret
      obtain ⟨e, s8, e8, r8, p8, k8⟩ := hret.ret
      have HE8 := hiD e8
      have HS8 : Hid (s8.i < ts.length ∧ s2.i + 1 ≤ s8.i) := by
       have kk := HKU.out _ _ _ HS6.out e8
       exact ⟨kk.1, kk.2.2.1⟩
      have HO8 : Hid (s8.o = s.o) := (HKU.out _ _ _ HS6.out e8).2.1.trans HO2.out
      obtain ⟨mk, mv, mn, ms⟩ := e
      have HR8 : Hid (VE w7.heap.size (.mk mk mv mn ms) w8 v) := r8
      obtain ⟨q4, c4, rfl, _, _⟩ := RdE.form r8
      unfold exv at HR8 ⊢
      dsimp only [Ex.kind, Ex.via, Ex.nm, Ex.kids] at HR8 ⊢
      have hgs : g < w7.heap.size := HGL.out
      have HRW8 := hiD (HRW7.out.turn (w' := w8) k8.2.2.2.1 (fun b hb hl _ => k8.2.2.2.2 b hl (by have := HLT.out; omega)))
      have HG8 := hiD (k8.arr HG7.out (by have := HLT.out; have := HGW.out; omega))
      have HA8 := hiD (k8.arr HA7.out (by have := HLT.out; omega))
      have HP8 := hiD p8
      have HK8 := hiD (HK7.out.trans k8)
      have HWS : Hid (w7.heap.size ≤ w8.heap.size) := k8.2.2.2.1
      clear e8 r8 p8 k8 hret hgs
      refine hK'.out _ _ trivial (fun _ => ?_)
      clear hK' K'
      try simp only [Act.put, pz0, pz1, pz2]
      refine wpAnyH_ready (rs := [4]) (by kernel_rfl) (by simp) ?_
      refine AllReadyH.cons (o := ⟨some 28, _, _, _, _, _⟩) rfl (fun K' hK' => ?_) AllReadyH.nil
      go_simp
      refine hK'.out _ _ trivial (fun _ => ?_)
      clear hK' K'
      try simp only [Act.put, pz0, pz1, pz2]
      have HB9 : Hid (Below w8.heap.size w8 (w8.alloc (.cells #[.int .i64 mk, .string (bstr mv), .string (bstr mn), .slice q4 ms.length c4] 46))) := (Below.refl _ _).alloc (Nat.le_refl _) _
      have HRW9 := hiD (HRW8.out.later HB9.out)
      have HG9 := hiD (HG8.out.later HB9.out)
      have HA9 := hiD (HA8.out.later HB9.out)
      have HP9 := hiD (HP8.out.later HB9.out)
      have HK9 := hiD (HK8.out.trans (Kp.of HB9.out))
      have HE9 : Hid (Arr (w8.alloc (.cells #[.int .i64 mk, .string (bstr mv), .string (bstr mn), .slice q4 ms.length c4] 46)) 46 w8.heap.size [.int .i64 mk, .string (bstr mv), .string (bstr mn), .slice q4 ms.length c4]) := Arr.new' _ _ _ _ rfl
      have HR9 : Hid (rdEx (SubX (W.heap.size + 1) (fun b => b = g) (w8.alloc (.cells #[.int .i64 mk, .string (bstr mv), .string (bstr mn), .slice q4 ms.length c4] 46)) (.slice q acc.length cc)) (w8.alloc (.cells #[.int .i64 mk, .string (bstr mv), .string (bstr mn), .slice q4 ms.length c4] 46)) (.mk mk mv mn ms) [.int .i64 mk, .string (bstr mv), .string (bstr mn), .slice q4 ms.length c4]) := ⟨_, _, _, _, rfl, RdE.imp (fun b hb => ⟨by have := HGL.out; have := HGW.out; have := hb.1; omega, hb.2, fun e => by have h1 := (HBL.out b e.symm); have := hb.1; omega, by have := HGL.out; have := hb.1; omega⟩) (HR8.out.later HB9.out)⟩
      have HX9 : Hid (∀ b, b = g → b < (w8.alloc (.cells #[.int .i64 mk, .string (bstr mv), .string (bstr mn), .slice q4 ms.length c4] 46)).heap.size) := fun b hb => by have := HG9.out.lt; rw [hb]; exact this
      generalize w8.alloc (.cells #[.int .i64 mk, .string (bstr mv), .string (bstr mn), .slice q4 ms.length c4] 46) = w9 at HRW9 HG9 HA9 HP9 HK9 HE9 HR9 HX9 ⊢
      clear HB9
      refine wpAnyH_ready (rs := [5]) (by kernel_rfl) (by simp) ?_
      refine AllReadyH.cons (o := ⟨some 29, _, _, _, _, _⟩) rfl (fun K' hK' => ?_) AllReadyH.nil
      refine step_row (K := kdEx) rfl (.tmp 25) (.tmp 28) rfl rfl HRW9.out rfl HE9.out HR9.out HAC.out (Nat.le_trans (Nat.succ_le_of_lt HA9.out.lt) (Nat.le_refl _)) HX9.out ?_
      intro v10 w10 r10 g10 o10
      have HP10 := hiD (HP9.out.below (B := W.heap.size) ((Below.refl _ _).grown g10 (Nat.le_of_lt HA9.out.lt) (fun k hk => Nat.le_of_succ_le (o10 k hk).1)) HLT.out)
      have HK10 := hiD (HK9.out.grown g10 (fun k hk => Nat.le_of_succ_le (o10 k hk).1))
      have HG10 : Hid (Arr w10 46 g [.int .i64 kk, .string ⟨#[]⟩, .string ⟨#[]⟩, .slice q acc.length cc]) := (g10.block g HG9.out.lt (fun e => (o10 g e.symm).2 rfl)).trans HG9.out
      have HA10 : Hid (Arr w10 46 W.heap.size [.int .i64 0, .string ⟨#[]⟩, .string ⟨#[]⟩, .slice none 0 0]) := (g10.block _ HA9.out.lt (fun e => absurd (o10 _ e.symm).1 (by omega))).trans HA9.out
      have HRW10 := hiD r10
      obtain ⟨q10, c10, hv10⟩ := r10.form
      rw [List.length_append, List.length_singleton] at hv10
      subst hv10
      clear r10 g10 o10
      refine hK'.out _ _ trivial (fun _ => ?_)
      clear hK' K'
      try simp only [Act.put, pz0, pz1, pz2]
      refine wpAnyH_take (i := 6) (oi := ⟨some 30, _, _, _, _, _⟩) (v := .pointer (some ⟨g, 3, none⟩)) rfl (by kernel_rfl) (by kernel_rfl) (by kernel_rfl) (fun _ _ _ h => h) (.inl ⟨by rfl, fun w' hSw => ?_⟩) hHeld ?_
      focus (skip; clear hHeld; go_simp)
      try simp only [Act.put, pz0, pz1, pz2]
      refine wpAnyH_ready (rs := [7]) (by kernel_rfl) (by simp) ?_
      refine AllReadyH.cons (o := ⟨none, _, _, _, _, _⟩) rfl (fun K' hK' => ?_) AllReadyH.nil
      obtain ⟨x0, y0, x1, y1, x2, y2, x3, y3⟩ := HG10.out.all4
      go_simp
      clear x0 y0 x1 y1 x2 y2 x3 y3
      refine hK'.out _ _ trivial (fun _ => ?_)
      clear hK' K'
      try simp only [Act.put, pz0, pz1, pz2]
      have HG11 : Hid (Arr (w10.setCell ⟨g, 3, none⟩ (.slice q10 (acc.length + 1) c10)) 46 g [.int .i64 kk, .string ⟨#[]⟩, .string ⟨#[]⟩, .slice q10 (acc.length + 1) c10]) := HG10.out.set 3 _
      have HU11 : Hid (UL W pb tb c ts g kk (acc ++ [Ex.mk mk mv mn ms]) s8 (w10.setCell ⟨g, 3, none⟩ (.slice q10 (acc.length + 1) c10))) :=
       ⟨q10, c10, by rw [List.length_append, List.length_singleton]; exact HRW10.out.box (.inr rfl) 3 _, by rw [List.length_append, List.length_singleton]; exact HG11.out, HA10.out.setCell (by have := HGW.out; simp only [ne_eq]; omega) _, HP10.out.box (by have := HLT.out; have := HGW.out; omega) 3 _, HK10.out.box (by have := HGW.out; omega) 3 _⟩
      refine wpAnyH_done (by kernel_rfl) ?_ _
      clear HRW10 HG10 HA10 HP10 HK10 HG11 HRW9 HG9 HA9 HP9 HK9 HE9 HR9 HX9 HRW8 HG8 HA8 HP8 HK8 HR8
      generalize w10.setCell ⟨g, 3, none⟩ (.slice q10 (acc.length + 1) c10) = w11 at HU11 ⊢
      by_cases h5 : kk = 5
      ·have h5' : (kk == 5) = true := by simp [h5]
       have HE11 : Hid (unitsW ts U s = .ok (.mk kk [] [] (acc ++ [Ex.mk mk mv mn ms])) s8) := by
        show _ = _
        rw [HE.out, loopW_two HT.out HE8.out (HKK.out.symm.trans h5)]
        rfl
       clear HE h5
       obtain ⟨q, cc, HRW, HG, HA, HP, HK⟩ := HU11.out
       have HRW := hiD HRW
       have HG := hiD HG
       have HA := hiD HA
       have HP := hiD HP
       have HK := hiD HK
       generalize (acc ++ [Ex.mk mk mv mn ms]) = acc2 at HE11 HRW HG HU11 ⊢
       obtain ⟨x0, y0, x1, y1, x2, y2, x3, y3⟩ := HG.out.all4
       obtain ⟨p0, z0, p1, z1, p2, z2, p3, z3⟩ := HA.out.all4
       go_wp2_with fail
       have hk := kp_set4 w11 W.heap.size (.int .i64 kk) (.string ⟨#[]⟩) (.string ⟨#[]⟩) (.slice q acc2.length cc)
       have hA := HA.out.set4 (.int .i64 kk) (.string ⟨#[]⟩) (.string ⟨#[]⟩) (.slice q acc2.length cc)
       exact bodyPost_ret (resE rfl hA rfl) rfl (.inl ⟨_, _, _, HE11.out, rfl, ((VE.kp (HRW.out.rdE kk [] []) hk (Nat.lt_succ_self _)).low (Nat.le_succ _)), HP.out.kp hk HLT.out HK.out.2.2.2.1, HK.out.andThen hk (Nat.le_refl _)⟩)
      ·have h5' : (kk == 5) = false := by simp [h5]
       have HE11 : Hid (unitsW ts U s = finU kk (loopW ts U sg n (acc ++ [Ex.mk mk mv mn ms]) s8)) := by
        show _ = _
        rw [HE.out, loopW_more HT.out HE8.out (fun h => h5 (HKK.out.trans h))]
       go_wp2_with fail
       go_roundw
       case rel => exact ⟨n, acc ++ [Ex.mk mk mv mn ms], s8, by have := HS8.out; omega, by rw [List.length_append, List.length_singleton]; have := HS8.out; omega, HU11.out, HS8.out.1, HO8.out, HE11.out⟩
       case measure => rw [HPL.out, PP.plc (by obtain ⟨_, _, _, _, _, h, _⟩ := HU11.out; exact h)]; have := HS8.out; omega
     ·refine stepw_calls (by rfl) ?_ HN7.out (fun w => QR.grown w) ?_ ?_
      focus go_simp
      ·rintro ch w8 hpan
       obtain ⟨k, i, e8, rfl, k8⟩ := hpan.pan
       have HK8 := hiD (HK7.out.trans k8)
       have HE2 : Hid (unitsW ts U s = .bad k i) := by
        show _ = _
        rw [HE.out, loopW_bad HT.out e8]; rfl
       clear e8 k8 hpan
       exact ⟨rfl, .inr ⟨k, i, HE2.out, rfl, HK8.out⟩⟩
      rintro v w8 hret
      obtain ⟨e, s8, e8, r8, p8, k8⟩ := hret.ret
      have HE8 := hiD e8
      have HS8 : Hid (s8.i < ts.length ∧ s2.i + 1 ≤ s8.i) := by
       have kk := HKU.out _ _ _ HS6.out e8
       exact ⟨kk.1, kk.2.2.1⟩
      have HO8 : Hid (s8.o = s.o) := (HKU.out _ _ _ HS6.out e8).2.1.trans HO2.out
      obtain ⟨mk, mv, mn, ms⟩ := e
      have HR8 : Hid (VE w7.heap.size (.mk mk mv mn ms) w8 v) := r8
      obtain ⟨q4, c4, rfl, _, _⟩ := RdE.form r8
      unfold exv at HR8 ⊢
      dsimp only [Ex.kind, Ex.via, Ex.nm, Ex.kids] at HR8 ⊢
      have hgs : g < w7.heap.size := HGL.out
      have HRW8 := hiD (HRW7.out.turn (w' := w8) k8.2.2.2.1 (fun b hb hl _ => k8.2.2.2.2 b hl (by have := HLT.out; omega)))
      have HG8 := hiD (k8.arr HG7.out (by have := HLT.out; have := HGW.out; omega))
      have HA8 := hiD (k8.arr HA7.out (by have := HLT.out; omega))
      have HP8 := hiD p8
      have HK8 := hiD (HK7.out.trans k8)
      have HWS : Hid (w7.heap.size ≤ w8.heap.size) := k8.2.2.2.1
      clear e8 r8 p8 k8 hret hgs
      refine hK'.out _ _ trivial (fun _ => ?_)
      clear hK' K'
      try simp only [Act.put, pz0, pz1, pz2]
      refine wpAnyH_ready (rs := [1, 4]) (by kernel_rfl) (by simp) ?_
      refine AllReadyH.cons (o := ⟨some 25, _, _, _, _, _⟩) rfl (fun K' hK' => ?_) (AllReadyH.cons (o := ⟨some 28, _, _, _, _, _⟩) rfl (fun K' hK' => ?_) AllReadyH.nil)
      ·have x3 := HG8.out.cell 3
       simp only [List.getElem?_cons_zero, List.getElem?_cons_succ] at x3
       go_simp
       clear x3
       refine hK'.out _ _ trivial (fun _ => ?_)
       clear hK' K'
       try simp only [Act.put, pz0, pz1, pz2]
       refine wpAnyH_ready (rs := [4]) (by kernel_rfl) (by simp) ?_
       refine AllReadyH.cons (o := ⟨some 28, _, _, _, _, _⟩) rfl (fun K' hK' => ?_) AllReadyH.nil
       go_simp
       refine hK'.out _ _ trivial (fun _ => ?_)
       clear hK' K'
       try simp only [Act.put, pz0, pz1, pz2]
       have HB9 : Hid (Below w8.heap.size w8 (w8.alloc (.cells #[.int .i64 mk, .string (bstr mv), .string (bstr mn), .slice q4 ms.length c4] 46))) := (Below.refl _ _).alloc (Nat.le_refl _) _
       have HRW9 := hiD (HRW8.out.later HB9.out)
       have HG9 := hiD (HG8.out.later HB9.out)
       have HA9 := hiD (HA8.out.later HB9.out)
       have HP9 := hiD (HP8.out.later HB9.out)
       have HK9 := hiD (HK8.out.trans (Kp.of HB9.out))
       have HE9 : Hid (Arr (w8.alloc (.cells #[.int .i64 mk, .string (bstr mv), .string (bstr mn), .slice q4 ms.length c4] 46)) 46 w8.heap.size [.int .i64 mk, .string (bstr mv), .string (bstr mn), .slice q4 ms.length c4]) := Arr.new' _ _ _ _ rfl
       have HR9 : Hid (rdEx (SubX (W.heap.size + 1) (fun b => b = g) (w8.alloc (.cells #[.int .i64 mk, .string (bstr mv), .string (bstr mn), .slice q4 ms.length c4] 46)) (.slice q acc.length cc)) (w8.alloc (.cells #[.int .i64 mk, .string (bstr mv), .string (bstr mn), .slice q4 ms.length c4] 46)) (.mk mk mv mn ms) [.int .i64 mk, .string (bstr mv), .string (bstr mn), .slice q4 ms.length c4]) := ⟨_, _, _, _, rfl, RdE.imp (fun b hb => ⟨by have := HGL.out; have := HGW.out; have := hb.1; omega, hb.2, fun e => by have h1 := (HBL.out b e.symm); have := hb.1; omega, by have := HGL.out; have := hb.1; omega⟩) (HR8.out.later HB9.out)⟩
       have HX9 : Hid (∀ b, b = g → b < (w8.alloc (.cells #[.int .i64 mk, .string (bstr mv), .string (bstr mn), .slice q4 ms.length c4] 46)).heap.size) := fun b hb => by have := HG9.out.lt; rw [hb]; exact this
       generalize w8.alloc (.cells #[.int .i64 mk, .string (bstr mv), .string (bstr mn), .slice q4 ms.length c4] 46) = w9 at HRW9 HG9 HA9 HP9 HK9 HE9 HR9 HX9 ⊢
       clear HB9
       refine wpAnyH_ready (rs := [5]) (by kernel_rfl) (by simp) ?_
       refine AllReadyH.cons (o := ⟨some 29, _, _, _, _, _⟩) rfl (fun K' hK' => ?_) AllReadyH.nil
       refine step_row (K := kdEx) rfl (.tmp 25) (.tmp 28) rfl rfl HRW9.out rfl HE9.out HR9.out HAC.out (Nat.le_trans (Nat.succ_le_of_lt HA9.out.lt) (Nat.le_refl _)) HX9.out ?_
       intro v10 w10 r10 g10 o10
       have HP10 := hiD (HP9.out.below (B := W.heap.size) ((Below.refl _ _).grown g10 (Nat.le_of_lt HA9.out.lt) (fun k hk => Nat.le_of_succ_le (o10 k hk).1)) HLT.out)
       have HK10 := hiD (HK9.out.grown g10 (fun k hk => Nat.le_of_succ_le (o10 k hk).1))
       have HG10 : Hid (Arr w10 46 g [.int .i64 kk, .string ⟨#[]⟩, .string ⟨#[]⟩, .slice q acc.length cc]) := (g10.block g HG9.out.lt (fun e => (o10 g e.symm).2 rfl)).trans HG9.out
       have HA10 : Hid (Arr w10 46 W.heap.size [.int .i64 0, .string ⟨#[]⟩, .string ⟨#[]⟩, .slice none 0 0]) := (g10.block _ HA9.out.lt (fun e => absurd (o10 _ e.symm).1 (by omega))).trans HA9.out
       have HRW10 := hiD r10
       obtain ⟨q10, c10, hv10⟩ := r10.form
       rw [List.length_append, List.length_singleton] at hv10
       subst hv10
       clear r10 g10 o10
       refine hK'.out _ _ trivial (fun _ => ?_)
       clear hK' K'
       try simp only [Act.put, pz0, pz1, pz2]
       refine wpAnyH_take (i := 6) (oi := ⟨some 30, _, _, _, _, _⟩) (v := .pointer (some ⟨g, 3, none⟩)) rfl (by kernel_rfl) (by kernel_rfl) (by kernel_rfl) (fun _ _ _ h => h) (.inl ⟨by rfl, fun w' hSw => ?_⟩) hHeld ?_
       focus (skip; clear hHeld; go_simp)
       try simp only [Act.put, pz0, pz1, pz2]
       refine wpAnyH_ready (rs := [7]) (by kernel_rfl) (by simp) ?_
       refine AllReadyH.cons (o := ⟨none, _, _, _, _, _⟩) rfl (fun K' hK' => ?_) AllReadyH.nil
       obtain ⟨x0, y0, x1, y1, x2, y2, x3, y3⟩ := HG10.out.all4
       go_simp
       clear x0 y0 x1 y1 x2 y2 x3 y3
       refine hK'.out _ _ trivial (fun _ => ?_)
       clear hK' K'
       try simp only [Act.put, pz0, pz1, pz2]
       have HG11 : Hid (Arr (w10.setCell ⟨g, 3, none⟩ (.slice q10 (acc.length + 1) c10)) 46 g [.int .i64 kk, .string ⟨#[]⟩, .string ⟨#[]⟩, .slice q10 (acc.length + 1) c10]) := HG10.out.set 3 _
       have HU11 : Hid (UL W pb tb c ts g kk (acc ++ [Ex.mk mk mv mn ms]) s8 (w10.setCell ⟨g, 3, none⟩ (.slice q10 (acc.length + 1) c10))) :=
        ⟨q10, c10, by rw [List.length_append, List.length_singleton]; exact HRW10.out.box (.inr rfl) 3 _, by rw [List.length_append, List.length_singleton]; exact HG11.out, HA10.out.setCell (by have := HGW.out; simp only [ne_eq]; omega) _, HP10.out.box (by have := HLT.out; have := HGW.out; omega) 3 _, HK10.out.box (by have := HGW.out; omega) 3 _⟩
       refine wpAnyH_done (by kernel_rfl) ?_ _
       clear HRW10 HG10 HA10 HP10 HK10 HG11 HRW9 HG9 HA9 HP9 HK9 HE9 HR9 HX9 HRW8 HG8 HA8 HP8 HK8 HR8
       generalize w10.setCell ⟨g, 3, none⟩ (.slice q10 (acc.length + 1) c10) = w11 at HU11 ⊢
       by_cases h5 : kk = 5
       ·have h5' : (kk == 5) = true := by simp [h5]
        have HE11 : Hid (unitsW ts U s = .ok (.mk kk [] [] (acc ++ [Ex.mk mk mv mn ms])) s8) := by
         show _ = _
         rw [HE.out, loopW_two HT.out HE8.out (HKK.out.symm.trans h5)]
         rfl
        clear HE h5
        obtain ⟨q, cc, HRW, HG, HA, HP, HK⟩ := HU11.out
        have HRW := hiD HRW
        have HG := hiD HG
        have HA := hiD HA
        have HP := hiD HP
        have HK := hiD HK
        generalize (acc ++ [Ex.mk mk mv mn ms]) = acc2 at HE11 HRW HG HU11 ⊢
        obtain ⟨x0, y0, x1, y1, x2, y2, x3, y3⟩ := HG.out.all4
        obtain ⟨p0, z0, p1, z1, p2, z2, p3, z3⟩ := HA.out.all4
        go_wp2_with fail
        have hk := kp_set4 w11 W.heap.size (.int .i64 kk) (.string ⟨#[]⟩) (.string ⟨#[]⟩) (.slice q acc2.length cc)
        have hA := HA.out.set4 (.int .i64 kk) (.string ⟨#[]⟩) (.string ⟨#[]⟩) (.slice q acc2.length cc)
        exact bodyPost_ret (resE rfl hA rfl) rfl (.inl ⟨_, _, _, HE11.out, rfl, ((VE.kp (HRW.out.rdE kk [] []) hk (Nat.lt_succ_self _)).low (Nat.le_succ _)), HP.out.kp hk HLT.out HK.out.2.2.2.1, HK.out.andThen hk (Nat.le_refl _)⟩)
       ·have h5' : (kk == 5) = false := by simp [h5]
        have HE11 : Hid (unitsW ts U s = finU kk (loopW ts U sg n (acc ++ [Ex.mk mk mv mn ms]) s8)) := by
         show _ = _
         rw [HE.out, loopW_more HT.out HE8.out (fun h => h5 (HKK.out.trans h))]
        go_wp2_with fail
        go_roundw
        case rel => exact ⟨n, acc ++ [Ex.mk mk mv mn ms], s8, by have := HS8.out; omega, by rw [List.length_append, List.length_singleton]; have := HS8.out; omega, HU11.out, HS8.out.1, HO8.out, HE11.out⟩
        case measure => rw [HPL.out, PP.plc (by obtain ⟨_, _, _, _, _, h, _⟩ := HU11.out; exact h)]; have := HS8.out; omega
      ·go_simp
       refine hK'.out _ _ trivial (fun _ => ?_)
       clear hK' K'
       try simp only [Act.put, pz0, pz1, pz2]
       have HB9 : Hid (Below w8.heap.size w8 (w8.alloc (.cells #[.int .i64 mk, .string (bstr mv), .string (bstr mn), .slice q4 ms.length c4] 46))) := (Below.refl _ _).alloc (Nat.le_refl _) _
       have HRW9 := hiD (HRW8.out.later HB9.out)
       have HG9 := hiD (HG8.out.later HB9.out)
       have HA9 := hiD (HA8.out.later HB9.out)
       have HP9 := hiD (HP8.out.later HB9.out)
       have HK9 := hiD (HK8.out.trans (Kp.of HB9.out))
       have HE9 : Hid (Arr (w8.alloc (.cells #[.int .i64 mk, .string (bstr mv), .string (bstr mn), .slice q4 ms.length c4] 46)) 46 w8.heap.size [.int .i64 mk, .string (bstr mv), .string (bstr mn), .slice q4 ms.length c4]) := Arr.new' _ _ _ _ rfl
       have HR9 : Hid (rdEx (SubX (W.heap.size + 1) (fun b => b = g) (w8.alloc (.cells #[.int .i64 mk, .string (bstr mv), .string (bstr mn), .slice q4 ms.length c4] 46)) (.slice q acc.length cc)) (w8.alloc (.cells #[.int .i64 mk, .string (bstr mv), .string (bstr mn), .slice q4 ms.length c4] 46)) (.mk mk mv mn ms) [.int .i64 mk, .string (bstr mv), .string (bstr mn), .slice q4 ms.length c4]) := ⟨_, _, _, _, rfl, RdE.imp (fun b hb => ⟨by have := HGL.out; have := HGW.out; have := hb.1; omega, hb.2, fun e => by have h1 := (HBL.out b e.symm); have := hb.1; omega, by have := HGL.out; have := hb.1; omega⟩) (HR8.out.later HB9.out)⟩
       have HX9 : Hid (∀ b, b = g → b < (w8.alloc (.cells #[.int .i64 mk, .string (bstr mv), .string (bstr mn), .slice q4 ms.length c4] 46)).heap.size) := fun b hb => by have := HG9.out.lt; rw [hb]; exact this
       generalize w8.alloc (.cells #[.int .i64 mk, .string (bstr mv), .string (bstr mn), .slice q4 ms.length c4] 46) = w9 at HRW9 HG9 HA9 HP9 HK9 HE9 HR9 HX9 ⊢
       clear HB9
       refine wpAnyH_ready (rs := [1]) (by kernel_rfl) (by simp) ?_
       refine AllReadyH.cons (o := ⟨some 25, _, _, _, _, _⟩) rfl (fun K' hK' => ?_) AllReadyH.nil
       have x3 := HG9.out.cell 3
       simp only [List.getElem?_cons_zero, List.getElem?_cons_succ] at x3
       go_simp
       clear x3
       refine hK'.out _ _ trivial (fun _ => ?_)
       clear hK' K'
       try simp only [Act.put, pz0, pz1, pz2]
       refine wpAnyH_ready (rs := [5]) (by kernel_rfl) (by simp) ?_
       refine AllReadyH.cons (o := ⟨some 29, _, _, _, _, _⟩) rfl (fun K' hK' => ?_) AllReadyH.nil
       refine step_row (K := kdEx) rfl (.tmp 25) (.tmp 28) rfl rfl HRW9.out rfl HE9.out HR9.out HAC.out (Nat.le_trans (Nat.succ_le_of_lt HA9.out.lt) (Nat.le_refl _)) HX9.out ?_
       intro v10 w10 r10 g10 o10
       have HP10 := hiD (HP9.out.below (B := W.heap.size) ((Below.refl _ _).grown g10 (Nat.le_of_lt HA9.out.lt) (fun k hk => Nat.le_of_succ_le (o10 k hk).1)) HLT.out)
       have HK10 := hiD (HK9.out.grown g10 (fun k hk => Nat.le_of_succ_le (o10 k hk).1))
       have HG10 : Hid (Arr w10 46 g [.int .i64 kk, .string ⟨#[]⟩, .string ⟨#[]⟩, .slice q acc.length cc]) := (g10.block g HG9.out.lt (fun e => (o10 g e.symm).2 rfl)).trans HG9.out
       have HA10 : Hid (Arr w10 46 W.heap.size [.int .i64 0, .string ⟨#[]⟩, .string ⟨#[]⟩, .slice none 0 0]) := (g10.block _ HA9.out.lt (fun e => absurd (o10 _ e.symm).1 (by omega))).trans HA9.out
       have HRW10 := hiD r10
       obtain ⟨q10, c10, hv10⟩ := r10.form
       rw [List.length_append, List.length_singleton] at hv10
       subst hv10
       clear r10 g10 o10
       refine hK'.out _ _ trivial (fun _ => ?_)
       clear hK' K'
       try simp only [Act.put, pz0, pz1, pz2]
       refine wpAnyH_take (i := 6) (oi := ⟨some 30, _, _, _, _, _⟩) (v := .pointer (some ⟨g, 3, none⟩)) rfl (by kernel_rfl) (by kernel_rfl) (by kernel_rfl) (fun _ _ _ h => h) (.inl ⟨by rfl, fun w' hSw => ?_⟩) hHeld ?_
       focus (skip; clear hHeld; go_simp)
       try simp only [Act.put, pz0, pz1, pz2]
       refine wpAnyH_ready (rs := [7]) (by kernel_rfl) (by simp) ?_
       refine AllReadyH.cons (o := ⟨none, _, _, _, _, _⟩) rfl (fun K' hK' => ?_) AllReadyH.nil
       obtain ⟨x0, y0, x1, y1, x2, y2, x3, y3⟩ := HG10.out.all4
       go_simp
       clear x0 y0 x1 y1 x2 y2 x3 y3
       refine hK'.out _ _ trivial (fun _ => ?_)
       clear hK' K'
       try simp only [Act.put, pz0, pz1, pz2]
       have HG11 : Hid (Arr (w10.setCell ⟨g, 3, none⟩ (.slice q10 (acc.length + 1) c10)) 46 g [.int .i64 kk, .string ⟨#[]⟩, .string ⟨#[]⟩, .slice q10 (acc.length + 1) c10]) := HG10.out.set 3 _
       have HU11 : Hid (UL W pb tb c ts g kk (acc ++ [Ex.mk mk mv mn ms]) s8 (w10.setCell ⟨g, 3, none⟩ (.slice q10 (acc.length + 1) c10))) :=
        ⟨q10, c10, by rw [List.length_append, List.length_singleton]; exact HRW10.out.box (.inr rfl) 3 _, by rw [List.length_append, List.length_singleton]; exact HG11.out, HA10.out.setCell (by have := HGW.out; simp only [ne_eq]; omega) _, HP10.out.box (by have := HLT.out; have := HGW.out; omega) 3 _, HK10.out.box (by have := HGW.out; omega) 3 _⟩
       refine wpAnyH_done (by kernel_rfl) ?_ _
       clear HRW10 HG10 HA10 HP10 HK10 HG11 HRW9 HG9 HA9 HP9 HK9 HE9 HR9 HX9 HRW8 HG8 HA8 HP8 HK8 HR8
       generalize w10.setCell ⟨g, 3, none⟩ (.slice q10 (acc.length + 1) c10) = w11 at HU11 ⊢
       by_cases h5 : kk = 5
       ·have h5' : (kk == 5) = true := by simp [h5]
        have HE11 : Hid (unitsW ts U s = .ok (.mk kk [] [] (acc ++ [Ex.mk mk mv mn ms])) s8) := by
         show _ = _
         rw [HE.out, loopW_two HT.out HE8.out (HKK.out.symm.trans h5)]
         rfl
        clear HE h5
        obtain ⟨q, cc, HRW, HG, HA, HP, HK⟩ := HU11.out
        have HRW := hiD HRW
        have HG := hiD HG
        have HA := hiD HA
        have HP := hiD HP
        have HK := hiD HK
        generalize (acc ++ [Ex.mk mk mv mn ms]) = acc2 at HE11 HRW HG HU11 ⊢
        obtain ⟨x0, y0, x1, y1, x2, y2, x3, y3⟩ := HG.out.all4
        obtain ⟨p0, z0, p1, z1, p2, z2, p3, z3⟩ := HA.out.all4
        go_wp2_with fail
        have hk := kp_set4 w11 W.heap.size (.int .i64 kk) (.string ⟨#[]⟩) (.string ⟨#[]⟩) (.slice q acc2.length cc)
        have hA := HA.out.set4 (.int .i64 kk) (.string ⟨#[]⟩) (.string ⟨#[]⟩) (.slice q acc2.length cc)
        exact bodyPost_ret (resE rfl hA rfl) rfl (.inl ⟨_, _, _, HE11.out, rfl, ((VE.kp (HRW.out.rdE kk [] []) hk (Nat.lt_succ_self _)).low (Nat.le_succ _)), HP.out.kp hk HLT.out HK.out.2.2.2.1, HK.out.andThen hk (Nat.le_refl _)⟩)
       ·have h5' : (kk == 5) = false := by simp [h5]
        have HE11 : Hid (unitsW ts U s = finU kk (loopW ts U sg n (acc ++ [Ex.mk mk mv mn ms]) s8)) := by
         show _ = _
         rw [HE.out, loopW_more HT.out HE8.out (fun h => h5 (HKK.out.trans h))]
        go_wp2_with fail
        go_roundw
        case rel => exact ⟨n, acc ++ [Ex.mk mk mv mn ms], s8, by have := HS8.out; omega, by rw [List.length_append, List.length_singleton]; have := HS8.out; omega, HU11.out, HS8.out.1, HO8.out, HE11.out⟩
        case measure => rw [HPL.out, PP.plc (by obtain ⟨_, _, _, _, _, h, _⟩ := HU11.out; exact h)]; have := HS8.out; omega
    | false =>
     have HE11 : Hid (unitsW ts U s = .ok (.mk kk [] [] acc) s2) := by
      show _ = _
      rw [HE.out, loopW_end (of_decide_eq_false hd.symm)]; rfl
     have HP : Hid (PP w6 pb tb c ts s2) := p6
     have HG := hiD HG6.out
     have HA := hiD HA6.out
     have HRW := hiD HRW6.out
     have HK := hiD HK6.out
     clear p6 k6 HSK hd HG6 HA6 HRW6 HK6
     obtain ⟨x0, y0, x1, y1, x2, y2, x3, y3⟩ := HG.out.all4
     obtain ⟨p0, z0, p1, z1, p2, z2, p3, z3⟩ := HA.out.all4
     go_wp2_with fail
     have hk := kp_set4 w6 W.heap.size (.int .i64 kk) (.string ⟨#[]⟩) (.string ⟨#[]⟩) (.slice q acc.length cc)
     have hA := HA.out.set4 (.int .i64 kk) (.string ⟨#[]⟩) (.string ⟨#[]⟩) (.slice q acc.length cc)
     exact bodyPost_ret (resE rfl hA rfl) rfl (.inl ⟨_, _, _, HE11.out, rfl, ((VE.kp (HRW.out.rdE kk [] []) hk (Nat.lt_succ_self _)).low (Nat.le_succ _)), HP.out.kp hk HLT.out HK.out.2.2.2.1, HK.out.andThen hk (Nat.le_refl _)⟩)
 ·have HK1 := hiD (HK0.out.trans k1)
  have HE2 : Hid (unitsW ts U s = .bad k i) := by
   show _ = _
   unfold unitsW
   rw [e1]; rfl
  clear e1 k1 HUC
  go_wp2_with fail
  exact ⟨rfl, .inr ⟨k, i, HE2.out, rfl, HK1.out⟩⟩
end
end Go.Proofs.YtkildckeikedhaaGreatDoor
namespace Go.Proofs.YtkildckeikedhaaGreatDoor
set_option linter.unusedVariables false

def AtT (ts : List Tok) (i : Nat) (ws : List (List UInt8)) : Prop := ∀ j t, ws[j]? = some t → txt ts (i + j) = t
theorem AtT.cons {ts : List Tok} {i : Nat} {t : List UInt8} {ws : List (List UInt8)} (h : AtT ts i (t :: ws)) : txt ts i = t ∧ AtT ts (i + 1) ws :=
  ⟨h 0 t rfl, fun j u hj => by rw [show i + 1 + j = i + (j + 1) by omega]; exact h (j + 1) u hj⟩
theorem AtT.app {ts : List Tok} {i : Nat} {a b : List (List UInt8)} (h : AtT ts i (a ++ b)) : AtT ts i a ∧ AtT ts (i + a.length) b :=
  ⟨fun j u hj => h j u (by rw [List.getElem?_append_left (List.getElem?_eq_some_iff.1 hj).1]; exact hj), fun j u hj => by
    rw [Nat.add_assoc]
    refine h (a.length + j) u ?_
    rw [List.getElem?_append_right (Nat.le_add_right _ _), Nat.add_sub_cancel_left]
    exact hj⟩
theorem name_sign {n : List UInt8} (h : isName (bstr n) = true) {c : UInt8} (hc : wdB c = false) (r : List UInt8) : n ≠ c :: r := by
  intro e
  have := (name_wd h).2.1 c (by rw [e]; exact List.mem_cons_self)
  rw [hc] at this
  cases this
theorem nameF_at {ts : List Tok} {i o l : Nat} {n : List UInt8} (h : txt ts i = n) (hn : isName (bstr n) = true) : nameF ts ⟨i, o, l⟩ = .ok n ⟨i + 1, o, l⟩ := by
  unfold nameF
  show (if isName (bstr (txt ts i)) = true then _ else _) = _
  rw [h, if_pos hn]
  rfl
theorem wantF_at {ts : List Tok} {i o l : Nat} {t : List UInt8} (h : txt ts i = t) : wantF ts t ⟨i, o, l⟩ = .ok () ⟨i + 1, o, l⟩ := if_pos h
theorem opK_opS1 {k : Int} (h : k = 3 ∨ k = 4 ∨ k = 5) : opK (opS1 k) = k ∧ opS1 k ≠ [45, 62] := by
  rcases h with rfl | rfl | rfl <;> exact ⟨by decide, by decide⟩
theorem leaf_of {k : Int} (h : k = 1 ∨ k = 2) : leafK k = true := by rcases h with rfl | rfl <;> rfl
theorem leaf_not {k : Int} (h : k = 3 ∨ k = 4 ∨ k = 5) : leafK k = false := by rcases h with rfl | rfl | rfl <;> rfl
def NoA (ts : List Tok) (i : Nat) : Prop := txt ts i ≠ [45, 62]
def RdU (ts : List Tok) (e : Ex) : Prop := ∀ (d : Nat) (i o l : Nat), formE e = true → depthE e ≤ d + 1 → l + (leavesE e).length ≤ 32 → AtT ts i (wrapK e.kind (toksE e)) → i + (wrapK e.kind (toksE e)).length ≤ ts.length → NoA ts (i + (wrapK e.kind (toksE e)).length) →
  unitF ts d ⟨i, o, l⟩ = .ok e ⟨i + (wrapK e.kind (toksE e)).length, o, l + (leavesE e).length⟩
def RdN (ts : List Tok) (e : Ex) : Prop := ∀ (d : Nat) (i o l : Nat), formE e = true → depthE e ≤ d + 2 → l + (leavesE e).length ≤ 32 → AtT ts i (toksE e) → i + (toksE e).length ≤ ts.length → NoA ts (i + (toksE e).length) → opK (txt ts (i + (toksE e).length)) = 0 →
  unitsF ts d ⟨i, o, l⟩ = .ok e ⟨i + (toksE e).length, o, l + (leavesE e).length⟩
theorem unitF_W (ts : List Tok) (d : Nat) : ∃ U, unitF ts d = unitW ts U ∧ (∀ u, U = some u → ∃ d', d = d' + 1 ∧ u = unitsF ts d') ∧ (U = none → d = 0) := by
  cases d with
  | zero => exact ⟨none, rfl, (fun u h => by cases h), fun _ => rfl⟩
  | succ d => exact ⟨some (unitsF ts d), rfl, (fun u h => by cases h; exact ⟨d, rfl, rfl⟩), (fun h => by cases h)⟩
theorem leaf_toks {e : Ex} (hf : formE e = true) (hk : e.kind = 1 ∨ e.kind = 2) {ts : List Tok} {d i o l : Nat} (hl : l + 1 ≤ 32) (ha : AtT ts i (toksE e)) (hna : NoA ts (i + (toksE e).length)) : unitF ts d ⟨i, o, l⟩ = .ok e ⟨i + (toksE e).length, o, l + 1⟩ := by
  obtain ⟨U, hU, _⟩ := unitF_W ts d
  rw [hU]
  obtain ⟨k, v, n, ks⟩ := e
  have hk : k = 1 ∨ k = 2 := hk
  rcases form_two hf with ⟨h1, rfl, rfl, hn⟩ | ⟨h1, rfl, hv, hn⟩ | ⟨h1, _⟩
  · subst h1
    have e1 : toksE (.mk 1 [] n []) = [n] := by unfold toksE; rw [if_pos rfl]
    rw [e1] at ha hna ⊢
    have hx := ha.cons.1
    have h40 : ¬ txt ts i = [40] := by rw [hx]; exact name_sign hn (by decide) []
    rw [unitW_leaf (s := ⟨i, o, l⟩) h40 (by show isName (bstr (txt ts i)) = true; rw [hx]; exact hn) (by show l < 32; omega), if_neg (show ¬ txt ts ((⟨i, o, l⟩ : PS).i + 1) = [45, 62] from hna)]
    show PR.ok (Ex.mk 1 [] (txt ts i) []) _ = _
    rw [hx]
    rfl
  · subst h1
    have e1 : toksE (.mk 2 v n []) = [v, [45, 62], n] := by unfold toksE; rw [if_neg (by decide), if_pos rfl]
    rw [e1] at ha hna ⊢
    obtain ⟨hx, ha⟩ := ha.cons
    obtain ⟨hy, ha⟩ := ha.cons
    have hz := ha.cons.1
    have h40 : ¬ txt ts i = [40] := by rw [hx]; exact name_sign hv (by decide) []
    rw [unitW_leaf (s := ⟨i, o, l⟩) h40 (by show isName (bstr (txt ts i)) = true; rw [hx]; exact hv) (by show l < 32; omega), if_pos (show txt ts ((⟨i, o, l⟩ : PS).i + 1) = [45, 62] from hy)]
    show (nameF ts ⟨i + 2, o, l + 1⟩).then _ = _
    rw [nameF_at hz hn, PR.then_ok]
    show PR.ok (Ex.mk 2 (txt ts i) n []) _ = _
    rw [hx]
    rfl
  · omega
theorem leaf_count {e : Ex} (hf : formE e = true) (hk : e.kind = 1 ∨ e.kind = 2) : (leavesE e).length = 1 := by
  obtain ⟨k, v, n, ks⟩ := e
  have hk : k = 1 ∨ k = 2 := hk
  unfold leavesE
  rw [if_pos (leaf_of hk)]
  rfl
theorem rdU_of {ts : List Tok} {e : Ex} (h : RdN ts e) : RdU ts e := by
  intro d i o l hf hd hl ha hlen hna
  by_cases hk : e.kind = 1 ∨ e.kind = 2
  · have e1 : wrapK e.kind (toksE e) = toksE e := by unfold wrapK; rw [if_pos (leaf_of hk)]
    rw [e1] at ha hna hlen ⊢
    rw [leaf_count hf hk] at hl ⊢
    exact leaf_toks hf hk hl ha hna
  · have hk3 : e.kind = 3 ∨ e.kind = 4 ∨ e.kind = 5 := by
      obtain ⟨k, v, n, ks⟩ := e
      rcases form_two hf with ⟨h1, _⟩ | ⟨h1, _⟩ | ⟨h1, _⟩
      · exact absurd (.inl h1) hk
      · exact absurd (.inr h1) hk
      · exact h1
    have e1 : wrapK e.kind (toksE e) = [40] :: (toksE e ++ [[41]]) := by unfold wrapK; rw [if_neg (by rw [leaf_not hk3]; decide)]
    rw [e1] at ha hna hlen ⊢
    simp only [List.length_cons, List.length_append, List.length_nil] at hna hlen ⊢
    obtain ⟨hp, ha⟩ := ha.cons
    obtain ⟨ha, hq⟩ := ha.app
    have hq := hq.cons.1
    obtain ⟨U, hU, hs, hn⟩ := unitF_W ts d
    cases U with
    | none =>
      exfalso
      have hd0 := hn rfl
      have : 2 ≤ depthE e := by
        obtain ⟨k, v, n, ks⟩ := e
        rcases form_two hf with ⟨h1, _⟩ | ⟨h1, _⟩ | ⟨h1, _, _, h2, _⟩
        · exact absurd (.inl h1) hk
        · exact absurd (.inr h1) hk
        · cases ks with
          | nil => simp at h2
          | cons a r =>
            have := depthE_pos a
            simp only [depthE, depthL]
            omega
      omega
    | some u =>
      obtain ⟨d', rfl, rfl⟩ := hs u rfl
      rw [hU]
      show (if txt ts i = [40] then _ else _) = _
      rw [if_pos hp]
      show (unitsF ts d' ⟨i + 1, o + 1, l⟩).then _ = _
      rw [h d' (i + 1) (o + 1) l hf hd hl ha (by omega) (by show txt ts _ ≠ _; rw [hq]; decide) (by rw [hq]; decide), PR.then_ok, wantF_at hq, PR.then_ok]
      show PR.ok e (⟨i + 1 + (toksE e).length + 1, o + 1 - 1, l + (leavesE e).length⟩ : PS) = _
      rw [Nat.add_sub_cancel, show i + 1 + (toksE e).length + 1 = i + ((toksE e).length + (0 + 1) + 1) by omega]
theorem toksT_len (sg : List UInt8) : ∀ r : List Ex, r.length ≤ (toksT sg r).length
  | [] => Nat.le_refl _
  | e :: r => by have := toksT_len sg r; unfold toksT; simp only [List.length_cons, List.length_append]; omega
theorem loopW_zero {ts : List Tok} {U : PS → PR Ex} {sg : List UInt8} {n : Nat} {acc : List Ex} {s : PS} (h : ¬ txt ts s.i = sg) : loopW ts U sg n acc s = .ok acc s := by
  cases n with
  | zero => rfl
  | succ n => rw [loopW, if_neg h]
theorem rdT {ts : List Tok} {k : Int} (hk : k = 3 ∨ k = 4 ∨ k = 5) (d : Nat) : ∀ (r : List Ex), (∀ e ∈ r, RdU ts e) → ∀ (n : Nat) (acc : List Ex) (i o l : Nat), formL r = true → depthL r ≤ d + 1 → l + (leavesL r).length ≤ 32 → AtT ts i (toksT (opS1 k) r) → i + (toksT (opS1 k) r).length ≤ ts.length → NoA ts (i + (toksT (opS1 k) r).length) → opK (txt ts (i + (toksT (opS1 k) r).length)) = 0 → r.length ≤ n → (k = 5 → r.length ≤ 1) →
    loopW ts (unitF ts d) (opS1 k) n acc ⟨i, o, l⟩ = .ok (acc ++ r) ⟨i + (toksT (opS1 k) r).length, o, l + (leavesL r).length⟩
  | [], _, n, acc, i, o, l, _, _, _, _, _, _, h0, _, _ => by
    rw [loopW_zero (s := ⟨i, o, l⟩) (fun e => by
      have h0 : opK (txt ts i) = 0 := h0
      rw [e, (opK_opS1 hk).1] at h0
      omega), List.append_nil]
    rfl
  | e :: r, hU, n, acc, i, o, l, hf, hd, hl, ha, hlen, hna, h0, hn, h5 => by
    obtain ⟨m, rfl⟩ : ∃ m, n = m + 1 := ⟨n - 1, by simp at hn; omega⟩
    unfold toksT at ha hlen hna h0 ⊢
    simp only [List.length_cons, List.length_append] at hlen hna h0 ⊢
    obtain ⟨hs, ha⟩ := ha.cons
    obtain ⟨ha, hb⟩ := ha.app
    obtain ⟨f1, f2⟩ := formL_cons hf
    unfold leavesL at hl ⊢
    rw [List.length_append] at hl ⊢
    unfold depthL at hd
    have hna1 : NoA ts (i + 1 + (wrapK e.kind (toksE e)).length) := by
      cases r with
      | nil => unfold toksT at hna; rw [show i + 1 + (wrapK e.kind (toksE e)).length = i + ((wrapK e.kind (toksE e)).length + ([] : List (List UInt8)).length + 1) by simp; omega]; exact hna
      | cons a r' =>
        unfold toksT at hb
        show txt ts _ ≠ _
        rw [hb.cons.1]
        exact (opK_opS1 hk).2
    have h1 := hU e List.mem_cons_self d (i + 1) o l f1 (by omega) (by omega) ha (by omega) hna1
    rw [loopW, if_pos hs]
    show (unitF ts d ⟨i + 1, o, l⟩).then _ = _
    rw [h1, PR.then_ok, (opK_opS1 hk).1]
    by_cases hk5 : k = 5
    · have hr : r = [] := List.length_eq_zero_iff.1 (by have := h5 hk5; rw [List.length_cons] at this; omega)
      subst hr
      rw [if_pos hk5]
      unfold toksT leavesL
      simp only [List.length_nil, Nat.add_zero]
      rw [show i + 1 + (wrapK e.kind (toksE e)).length = i + ((wrapK e.kind (toksE e)).length + 1) by omega]
    · rw [if_neg hk5, rdT hk d r (fun x hx => hU x (List.mem_cons_of_mem _ hx)) m _ _ o _ f2 (by omega) (by omega) hb (by omega) (by rw [show i + 1 + (wrapK e.kind (toksE e)).length + (toksT (opS1 k) r).length = i + ((wrapK e.kind (toksE e)).length + (toksT (opS1 k) r).length + 1) by omega]; exact hna) (by rw [show i + 1 + (wrapK e.kind (toksE e)).length + (toksT (opS1 k) r).length = i + ((wrapK e.kind (toksE e)).length + (toksT (opS1 k) r).length + 1) by omega]; exact h0) (by simp at hn; omega) (fun h => absurd h hk5), List.append_assoc]
      rw [show i + 1 + (wrapK e.kind (toksE e)).length + (toksT (opS1 k) r).length = i + ((wrapK e.kind (toksE e)).length + (toksT (opS1 k) r).length + 1) by omega, show l + (leavesE e).length + (leavesL r).length = l + ((leavesE e).length + (leavesL r).length) from Nat.add_assoc _ _ _]
      rfl
theorem rdN_leaf {ts : List Tok} {e : Ex} (hk : e.kind = 1 ∨ e.kind = 2) : RdN ts e := by
  intro d i o l hf hd hl ha hlen hna h0
  rw [leaf_count hf hk] at hl ⊢
  rw [unitsF_eq]
  exact unitsW_one (leaf_toks hf hk hl ha hna) h0
theorem toksE_many {k : Int} {v n : List UInt8} {a : Ex} {r : List Ex} (h1 : ¬ k = 1) (h2 : ¬ k = 2) : toksE (.mk k v n (a :: r)) = wrapK a.kind (toksE a) ++ toksT (opS1 k) r := by
  rw [toksE, if_neg h1, if_neg h2, toksT]
  rfl
theorem leaves_many {k : Int} {v n : List UInt8} {a : Ex} {r : List Ex} (h : leafK k = false) : (leavesE (.mk k v n (a :: r))).length = (leavesE a).length + (leavesL r).length := by
  rw [leavesE, if_neg (by rw [h]; decide), leavesL, List.length_append]
mutual
theorem rdN (ts : List Tok) : ∀ e : Ex, RdN ts e
  | .mk k v n [] => by
    intro d i o l hf
    rcases form_two hf with ⟨h1, _⟩ | ⟨h1, _⟩ | ⟨_, _, _, h2, _⟩
    · exact rdN_leaf (e := .mk k v n []) (.inl h1) d i o l hf
    · exact rdN_leaf (e := .mk k v n []) (.inr h1) d i o l hf
    · simp at h2
  | .mk k v n (a :: r) => by
    have hA := rdU_of (rdN ts a)
    have hR := rdL ts r
    intro d i o l hf hd hl ha hlen hna h0
    rcases form_two hf with ⟨_, _, h1, _⟩ | ⟨_, h1, _⟩ | ⟨hk, rfl, rfl, h2, h5, hfl⟩
    · cases h1
    · cases h1
    · have e1 : toksE (.mk k [] [] (a :: r)) = wrapK a.kind (toksE a) ++ toksT (opS1 k) r := toksE_many (by omega) (by omega)
      have e2 : (leavesE (.mk k [] [] (a :: r))).length = (leavesE a).length + (leavesL r).length := leaves_many (leaf_not hk)
      rw [e1] at ha hlen hna h0 ⊢
      rw [e2] at hl ⊢
      rw [List.length_append] at hlen hna h0 ⊢
      obtain ⟨f1, f2⟩ := formL_cons hfl
      have hd2 : depthE a ≤ d + 1 ∧ depthL r ≤ d + 1 := by simp only [depthE, depthL] at hd; omega
      obtain ⟨b, r', rfl⟩ : ∃ b r', r = b :: r' := by cases r with
        | nil => simp at h2
        | cons b r' => exact ⟨b, r', rfl⟩
      obtain ⟨ha1, hb⟩ := ha.app
      have hsg : txt ts (i + (wrapK a.kind (toksE a)).length) = opS1 k := by
        have hb2 := hb
        unfold toksT at hb2
        exact hb2.cons.1
      have h1 := hA d i o l f1 hd2.1 (by omega) ha1 (by omega) (by show txt ts _ ≠ _; rw [hsg]; exact (opK_opS1 hk).2)
      rw [unitsF_eq, unitsW_loop h1 (by show ¬ opK (txt ts _) = 0; rw [hsg, (opK_opS1 hk).1]; omega)]
      show finU (opK (txt ts (i + (wrapK a.kind (toksE a)).length))) (loopW ts (unitF ts d) (txt ts (i + (wrapK a.kind (toksE a)).length)) ts.length [a] ⟨_, o, _⟩) = _
      rw [hsg, (opK_opS1 hk).1, rdT hk d (b :: r') hR ts.length [a] _ o _ f2 hd2.2 (by omega) hb (by omega) (by rw [Nat.add_assoc]; exact hna) (by rw [Nat.add_assoc]; exact h0) (by have := toksT_len (opS1 k) (b :: r'); omega) (fun h => by have := h5 h; simp at this ⊢; omega)]
      unfold finU
      rw [PR.then_ok, Nat.add_assoc, Nat.add_assoc]
      rfl
theorem rdL (ts : List Tok) : ∀ r : List Ex, ∀ e ∈ r, RdU ts e
  | [], e, he => by cases he
  | a :: r, e, he => by
    have hA := rdU_of (rdN ts a)
    have hR := rdL ts r
    rcases List.mem_cons.1 he with rfl | he
    · exact hA
    · exact hR e he
end
end Go.Proofs.YtkildckeikedhaaGreatDoor
namespace Go.Proofs.YtkildckeikedhaaGreatDoor
open Go.ChangeShapes Go.WideShapes Go.ChangeAt Go.RowKit
set_option linter.unusedVariables false

theorem units_all {pb tb c : Nat} {ts : List Tok} (ho : OkTs ts) : ∀ (d : Nat) (W : World) (s : PS), PP W pb tb c ts s → s.i < ts.length → s.o + d = 14 → Calls Tryz.prog 117 #[.pointer (some ⟨pb, 0, none⟩)] W (QR pb tb c ts W (unitsF ts d s) (VE W.heap.size))
 | 0, W, s, h, hi, hd => by
  rw [unitsF_eq]
  exact units_any ho h hi (keeps_unit ho 0) fun W' s' hp hi' ho' => unit_any (U := none) ho hp hi' fun ht W2 hp2 => group_many hp2 hi' (by omega)
 | d + 1, W, s, h, hi, hd => by
  rw [unitsF_eq]
  refine units_any ho h hi (keeps_unit ho (d + 1)) fun W' s' hp hi' ho' => unit_any (U := some (unitsF ts d)) ho hp hi' fun ht W2 hp2 => ?_
  exact group_any ho hp2 hi' ht (by omega) (keeps_units ho d) fun W3 hp3 => units_all ho d W3 _ hp3 (ho.step (by rw [ht]; simp)) (by show s'.o + 1 + d = 14; omega)
section
variable {W : World} {pb tb c : Nat} {ts : List Tok} {s : PS}
set_option maxRecDepth 100000 in
set_option maxHeartbeats 2000000 in
theorem expr_any (ho : OkTs ts) (h : PP W pb tb c ts s) (hi : s.i < ts.length) : Calls Tryz.prog 103 #[.pointer (some ⟨pb, 0, none⟩)] W (QR pb tb c ts W (exprF ts s) (VE W.heap.size)) := by
 have hb0 : Below W.heap.size W (W.alloc (.cells #[.int .i64 0, .string ⟨#[]⟩, .string ⟨#[]⟩, .slice none 0 0] 46)) := (Below.refl _ _).alloc (Nat.le_refl _) _
 have hp0 := h.later hb0
 have hk0 := Kp.of (pb := pb) hb0
 have hA0 : Arr (W.alloc (.cells #[.int .i64 0, .string ⟨#[]⟩, .string ⟨#[]⟩, .slice none 0 0] 46)) 46 W.heap.size [.int .i64 0, .string ⟨#[]⟩, .string ⟨#[]⟩, .slice none 0 0] := Arr.new' _ _ _ _ rfl
 have HLT : Hid (pb < W.heap.size) := h.1.lt
 have a2 := hp0.1.cell 2
 have a3 := hp0.1.cell 3
 have f2 := hp0.1.free 2
 have f3 := hp0.1.free 3
 simp only [List.getElem?_cons_zero, List.getElem?_cons_succ] at a2 a3
 have hp1 : PP ((W.alloc (.cells #[.int .i64 0, .string ⟨#[]⟩, .string ⟨#[]⟩, .slice none 0 0] 46)).setCell ⟨pb, 2, none⟩ (.int .i64 0)) pb tb c ts ⟨s.i, 0, s.l⟩ := hp0.set (by simp)
 have HP2 : Hid (PP (((W.alloc (.cells #[.int .i64 0, .string ⟨#[]⟩, .string ⟨#[]⟩, .slice none 0 0] 46)).setCell ⟨pb, 2, none⟩ (.int .i64 0)).setCell ⟨pb, 3, none⟩ (.int .i64 0)) pb tb c ts ⟨s.i, 0, 0⟩) := hp1.set (by simp)
 have HK2 := hiD ((hk0.set 2 (.int .i64 0)).set 3 (.int .i64 0))
 have HA2 : Hid (Arr (((W.alloc (.cells #[.int .i64 0, .string ⟨#[]⟩, .string ⟨#[]⟩, .slice none 0 0] 46)).setCell ⟨pb, 2, none⟩ (.int .i64 0)).setCell ⟨pb, 3, none⟩ (.int .i64 0)) 46 W.heap.size [.int .i64 0, .string ⟨#[]⟩, .string ⟨#[]⟩, .slice none 0 0]) := (hA0.setCell (by have := HLT.out; simp only [ne_eq]; omega) _).setCell (by have := HLT.out; simp only [ne_eq]; omega) _
 have HU := hiD (units_all ho 14 _ _ HP2.out hi rfl)
 have HS2 : Hid (W.heap.size + 1 ≤ (((W.alloc (.cells #[.int .i64 0, .string ⟨#[]⟩, .string ⟨#[]⟩, .slice none 0 0] 46)).setCell ⟨pb, 2, none⟩ (.int .i64 0)).setCell ⟨pb, 3, none⟩ (.int .i64 0)).heap.size) := HA2.out.lt
 have HE : Hid (exprF ts s = unitsF ts 14 ⟨s.i, 0, 0⟩) := rfl
 clear h hi hb0 hp0 hk0 hA0 hp1 ho
 go_enter Tryz.func103, Tryz.ntmps103
 go_wp2_with fail
 refine HU.out.mono ?_
 rintro r w5 (⟨e, s5, v, e5, rfl, r5, p5, k5⟩ | ⟨k, i, e5, rfl, k5⟩)
 ·obtain ⟨mk, mv, mn, ms⟩ := e
  have HR5 : Hid (VE (W.heap.size + 1) (.mk mk mv mn ms) w5 v) := VE.low r5 HS2.out
  obtain ⟨q4, c4, rfl, _, _⟩ := RdE.form r5
  unfold exv at HR5 ⊢
  dsimp only [Ex.kind, Ex.via, Ex.nm, Ex.kids] at HR5 ⊢
  have HA5 := hiD (k5.arr HA2.out (by have := HLT.out; omega))
  have HP5 := hiD p5
  have HK5 := hiD (HK2.out.trans k5)
  have HE5 : Hid (exprF ts s = .ok (.mk mk mv mn ms) s5) := HE.out.trans e5
  clear e5 r5 p5 k5 HU a2 a3 f2 f3
  obtain ⟨x0, y0, x1, y1, x2, y2, x3, y3⟩ := HA5.out.all4
  go_wp2_with fail
  have hk := kp_set4 w5 W.heap.size (.int .i64 mk) (.string (bstr mv)) (.string (bstr mn)) (.slice q4 ms.length c4)
  have hA := HA5.out.set4 (.int .i64 mk) (.string (bstr mv)) (.string (bstr mn)) (.slice q4 ms.length c4)
  exact bodyPost_ret (resE rfl hA rfl) rfl (.inl ⟨_, _, _, HE5.out, rfl, ((VE.kp HR5.out hk (Nat.lt_succ_self _)).low (Nat.le_succ _)), HP5.out.kp hk HLT.out HK5.out.2.2.2.1, HK5.out.andThen hk (Nat.le_refl _)⟩)
 ·have HK5 := hiD (HK2.out.trans k5)
  have HE5 : Hid (exprF ts s = .bad k i) := HE.out.trans e5
  clear e5 k5 HU
  go_wp2_with fail
  exact ⟨rfl, .inr ⟨k, i, HE5.out, rfl, HK5.out⟩⟩
end
def RdA (P : Nat → Prop) (w : World) (l : List AlB) (v : Value) : Prop := ∃ q c, v = .slice q l.length c ∧ l.length ≤ c ∧ (0 < l.length → ∃ b o, q = some ⟨b, o, none⟩ ∧ P b ∧ ∀ j u, (als l)[j]? = some u → w.cell? ⟨b, o + j, none⟩ = some u)
theorem RdA.keep {P : Nat → Prop} {w w' : World} {l : List AlB} {v : Value} (hk : ∀ b, P b → ∀ n, w'.cell? ⟨b, n, none⟩ = w.cell? ⟨b, n, none⟩) (h : RdA P w l v) : RdA P w' l v := by
 obtain ⟨q, c, h1, h2, h3⟩ := h
 refine ⟨q, c, h1, h2, fun h0 => ?_⟩
 obtain ⟨b, o, h4, h5, h6⟩ := h3 h0
 exact ⟨b, o, h4, h5, fun j u hj => (hk b h5 _).trans (h6 j u hj)⟩
theorem RdA.imp {P Q : Nat → Prop} {w : World} {l : List AlB} {v : Value} (hi : ∀ b, P b → Q b) (h : RdA P w l v) : RdA Q w l v := by
 obtain ⟨q, c, h1, h2, h3⟩ := h
 refine ⟨q, c, h1, h2, fun h0 => ?_⟩
 obtain ⟨b, o, h4, h5, h6⟩ := h3 h0
 exact ⟨b, o, h4, hi b h5, h6⟩
theorem RdA.nil (P : Nat → Prop) (w : World) : RdA P w [] (.slice none 0 0) := ⟨none, 0, rfl, Nat.le_refl _, fun h => absurd h (Nat.lt_irrefl _)⟩
theorem AlRow.rd {base : Nat} {w : World} {v : Value} {l : List AlB} (h : AlRow base w v l) : RdA (Bt base w.heap.size) w l v := by
 have h1 := h.1
 rcases h.2 with ⟨hv, hn⟩ | ⟨g, cap, cur, hv, h0, hg, hcap, _, hcz, htk⟩
 ·have : l = [] := by cases l; rfl; simp at hn
  subst this
  rw [hv]
  exact RdA.nil _ _
 ·refine ⟨_, _, hv, hcap, fun _ => ⟨g, 0, rfl, ⟨h0, (Array.getElem?_eq_some_iff.1 hg).1⟩, fun j u hj => ?_⟩⟩
  rw [Nat.zero_add]
  have hjl : j < (als l).length := (List.getElem?_eq_some_iff.1 hj).1
  rw [cell_of_row w g _ cur _ (0, 0) hg, ← Array.getElem?_toList]
  rw [← htk, List.getElem?_take, if_pos (by rw [h1] at hjl; exact hjl)] at hj
  exact hj
def rdMem (P : Nat → Prop) (w : World) (m : MemB) (cs : List Value) : Prop := ∃ vt v3 v4 v5 v6, cs = [.string (bstr m.1), .int .i64 m.2.1, vt, v3, v4, v5, v6] ∧ RdA P w m.2.2.1 vt ∧ RdE P w m.2.2.2 (.agg #[v3, v4, v5, v6])
theorem rdMem.keep {P : Nat → Prop} {w w' : World} {m : MemB} {cs : List Value} (hk : ∀ b, P b → ∀ n, w'.cell? ⟨b, n, none⟩ = w.cell? ⟨b, n, none⟩) (h : rdMem P w m cs) : rdMem P w' m cs := by
 obtain ⟨vt, v3, v4, v5, v6, h1, h2, h3⟩ := h
 exact ⟨vt, v3, v4, v5, v6, h1, h2.keep hk, h3.keep hk⟩
theorem rdMem.imp {P Q : Nat → Prop} {w : World} {m : MemB} {cs : List Value} (hi : ∀ b, P b → Q b) (h : rdMem P w m cs) : rdMem Q w m cs := by
 obtain ⟨vt, v3, v4, v5, v6, h1, h2, h3⟩ := h
 exact ⟨vt, v3, v4, v5, v6, h1, h2.imp hi, h3.imp hi⟩
theorem Tryz.infoMem : (Tryz.prog.info? 48).map (fun i => (i.zero, i.size, i.bytes)) = some (some (.agg #[.string ByteArray.empty, .int .i64 0, .slice none 0 0, .int .i64 0, .string ByteArray.empty, .string ByteArray.empty, .slice none 0 0]), 7, 112) := by kernel_rfl
def kdMem : Kd MemB where
 sty := 37
 ty := 48
 z := .agg #[.string ByteArray.empty, .int .i64 0, .slice none 0 0, .int .i64 0, .string ByteArray.empty, .string ByteArray.empty, .slice none 0 0]
 size := 7
 bytes := 112
 und := Tryz.underlying37
 info := info_parts Tryz.infoMem
 zs := rfl
 pos := by decide
 small := by decide
 rd := rdMem
 len := fun ⟨_, _, _, _, _, h, _⟩ => by rw [h]; rfl
 ones := fun {P w x cs} ⟨vt, v3, v4, v5, v6, h, h1, h2⟩ u hu => by
  obtain ⟨q, c, h3, _⟩ := h2.form
  unfold exv at h3
  simp only [Value.agg.injEq, Array.mk.injEq, List.cons.injEq, and_true] at h3
  obtain ⟨rfl, rfl, rfl, rfl⟩ := h3
  obtain ⟨q2, c2, rfl, _⟩ := h1
  rw [h] at hu
  simp only [List.mem_cons, List.not_mem_nil, or_false] at hu
  rcases hu with rfl | rfl | rfl | rfl | rfl | rfl | rfl <;> rfl
 keep := fun hk h => rdMem.keep hk h
 imp := fun hi h => rdMem.imp hi h
def VM (B : Nat) (m : MemB) (w : World) (v : Value) : Prop := ∃ cs, v = .agg cs.toArray ∧ rdMem (Bt B w.heap.size) w m cs
theorem VM.kp {B g : Nat} {m : MemB} {w w' : World} {v : Value} (h : VM B m w v) (hk : Kp g w w') (hg : g < B) : VM B m w' v := by
 obtain ⟨cs, h1, h2⟩ := h
 exact ⟨cs, h1, (h2.keep fun b hb n => World.cell?_of_block (hk.2.2.2.2 b hb.2 (by have := hb.1; omega))).imp fun b hb => ⟨hb.1, Nat.lt_of_lt_of_le hb.2 hk.2.2.2.1⟩⟩
theorem VM.low {B B' : Nat} {m : MemB} {w : World} {v : Value} (h : VM B m w v) (hb : B' ≤ B) : VM B' m w v := by
 obtain ⟨cs, h1, h2⟩ := h
 exact ⟨cs, h1, h2.imp fun b hb' => ⟨Nat.le_trans hb hb'.1, hb'.2⟩⟩
theorem RdA.kp {B g : Nat} {l : List AlB} {w w' : World} {v : Value} (h : RdA (Bt B w.heap.size) w l v) (hk : Kp g w w') (hg : g < B) : RdA (Bt B w'.heap.size) w' l v :=
 (h.keep fun b hb n => World.cell?_of_block (hk.2.2.2.2 b hb.2 (by have := hb.1; omega))).imp fun b hb => ⟨hb.1, Nat.lt_of_lt_of_le hb.2 hk.2.2.2.1⟩
theorem RdA.low {B B' N : Nat} {l : List AlB} {w : World} {v : Value} (h : RdA (Bt B N) w l v) (hb : B' ≤ B) : RdA (Bt B' N) w l v := h.imp fun b hb' => ⟨Nat.le_trans hb hb'.1, hb'.2⟩
theorem Arr.setM {w : World} {t : TypeId} {g : Nat} {y0 y1 y2 y3 y4 y5 y6 : Value} (h : Arr w t g [y0, y1, y2, y3, y4, y5, y6]) (x0 x1 x2 x3 x4 x5 x6 : Value) : Arr (((((((w.setCell ⟨g, 0, none⟩ x0).setCell ⟨g, 1, none⟩ x1).setCell ⟨g, 2, none⟩ x2).setCell ⟨g, 3, none⟩ x3).setCell ⟨g, 4, none⟩ x4).setCell ⟨g, 5, none⟩ x5).setCell ⟨g, 6, none⟩ x6) t g [x0, x1, x2, x3, x4, x5, x6] := (((((((h.set 0 x0).set 1 x1).set 2 x2).set 3 x3).set 4 x4).set 5 x5).set 6 x6)
theorem kp_setM (w : World) (g : Nat) (x0 x1 x2 x3 x4 x5 x6 : Value) : Kp g w (((((((w.setCell ⟨g, 0, none⟩ x0).setCell ⟨g, 1, none⟩ x1).setCell ⟨g, 2, none⟩ x2).setCell ⟨g, 3, none⟩ x3).setCell ⟨g, 4, none⟩ x4).setCell ⟨g, 5, none⟩ x5).setCell ⟨g, 6, none⟩ x6) := ((((((((Kp.of (pb := g) (Below.refl _ _)).set 0 x0).set 1 x1).set 2 x2).set 3 x3).set 4 x4).set 5 x5).set 6 x6)
theorem resM {fn : Func} {p : Tmp} (h : fn.results = #[.cell p 48]) {tmps : Array Value} {w : World} {g : Nat} {x0 x1 x2 x3 x4 x5 x6 : Value} (hA : Arr w 48 g [x0, x1, x2, x3, x4, x5, x6]) (hp : tmps.getD p undef = .pointer (some ⟨g, 0, none⟩)) :
  (results fn tmps).run Tryz.prog w = .ok (.agg #[x0, x1, x2, x3, x4, x5, x6]) w :=
 results_cell_row h tmps w g 48 #[x0, x1, x2, x3, x4, x5, x6] (0, 0) _ hp hA Tryz.underlying48 rfl (by kernel_rfl)
theorem memberF_rel {ts : List Tok} {s : PS} (h : txt ts s.i = wRelB) : memberF ts s = (nameF ts s.up).then fun n s1 => (wantF ts [58] s1).then fun _ s2 => (typesR ts s2).then fun l s3 => (wantF ts [59] s3).then fun _ s4 => .ok (n, 1, l, ex0) s4 := if_pos h
theorem memberF_perm {ts : List Tok} {s : PS} (h : ¬ txt ts s.i = wRelB) : memberF ts s = (wantF ts wPermB s).then fun _ s0 => (nameF ts s0).then fun n s1 => (wantF ts [61] s1).then fun _ s2 => (exprF ts s2).then fun e s3 => (wantF ts [59] s3).then fun _ s4 => .ok (n, 2, [], e) s4 := if_neg h
theorem kp_set43 (w : World) (g : Nat) (x0 x1 x2 x3 : Value) : Kp g w ((((w.setCell ⟨g, 3, none⟩ x0).setCell ⟨g, 4, none⟩ x1).setCell ⟨g, 5, none⟩ x2).setCell ⟨g, 6, none⟩ x3) := ((((Kp.of (pb := g) (Below.refl _ _)).set 3 x0).set 4 x1).set 5 x2).set 6 x3
theorem keeps_expr {ts : List Tok} (h : OkTs ts) {s : PS} {e : Ex} {s' : PS} (hi : s.i < ts.length) (he : exprF ts s = .ok e s') : s'.i < ts.length := (keeps_units h 14 { s with o := 0, l := 0 } e s' hi he).1
section
variable {W : World} {pb tb c : Nat} {ts : List Tok} {s : PS}
set_option maxRecDepth 100000 in
set_option maxHeartbeats 2000000 in
theorem member_any (ho : OkTs ts) (h : PP W pb tb c ts s) (hi : s.i < ts.length) : Calls Tryz.prog 78 #[.pointer (some ⟨pb, 0, none⟩)] W (QR pb tb c ts W (memberF ts s) (VM W.heap.size)) := by
 have hb0 : Below W.heap.size W (W.alloc (.cells #[.string ⟨#[]⟩, .int .i64 0, .slice none 0 0, .int .i64 0, .string ⟨#[]⟩, .string ⟨#[]⟩, .slice none 0 0] 48)) := (Below.refl _ _).alloc (Nat.le_refl _) _
 have HP0 := hiD (h.later hb0)
 have HK0 := hiD (Kp.of (pb := pb) hb0)
 have HA0 : Hid (Arr (W.alloc (.cells #[.string ⟨#[]⟩, .int .i64 0, .slice none 0 0, .int .i64 0, .string ⟨#[]⟩, .string ⟨#[]⟩, .slice none 0 0] 48)) 48 W.heap.size [.string ⟨#[]⟩, .int .i64 0, .slice none 0 0, .int .i64 0, .string ⟨#[]⟩, .string ⟨#[]⟩, .slice none 0 0]) := Arr.new' _ _ _ _ rfl
 have HLT : Hid (pb < W.heap.size) := h.1.lt
 have HH := hiD hi
 have HO := hiD ho
 have HSK := hiD (skip_any HP0.out hi ⟨#[114, 101, 108, 97, 116, 105, 111, 110]⟩ wRelB rfl)
 clear h hi hb0 ho
 go_enter Tryz.func78, Tryz.ntmps78
 go_wp2_with fail
 refine HSK.out.mono ?_
 rintro r w1 ⟨d, hd, rfl, p1, k1⟩
 have HD := hiD hd
 have HK1 := hiD (HK0.out.trans k1)
 have HA1 := hiD (k1.arr HA0.out (by have := HLT.out; omega))
 clear HK0 HA0 HP0
 cases d with
 | true =>
  have HP1 : Hid (PP w1 pb tb c ts s.up) := p1
  clear p1 k1 HSK hd
  have HT := hiD (of_decide_eq_true HD.out.symm)
  have HMF := hiD (memberF_rel HT.out)
  have HS1 : Hid (s.up.i < ts.length) := HO.out.step (by rw [HT.out]; decide)
  have HN1 := hiD (name_any HP1.out HS1.out)
  obtain ⟨x0, y0, x1, y1, x2, y2, x3, y3, x4, y4, x5, y5, x6, y6⟩ := HA1.out.all7
  go_wp2_with fail
  refine HN1.out.mono ?_
  rintro r w2 (⟨n, s2, v, e2, rfl, rfl, p2, k2⟩ | ⟨k, i, ez, rfl, kz⟩)
  ·have HE2 := hiD e2
   have HS2 : Hid (s2.i < ts.length) := (keeps_name HO.out _ _ _ HS1.out e2).1
   have HA2 := hiD (k2.arr HA1.out (by have := HLT.out; omega))
   have HP3 : Hid (PP ((w2.setCell ⟨W.heap.size, 1, none⟩ (.int .i64 1)).setCell ⟨W.heap.size, 0, none⟩ (.string (bstr n))) pb tb c ts s2) := (p2.box HLT.out _ _).box HLT.out _ _
   have HK3 := hiD (((HK1.out.trans k2).box (Nat.le_refl _) 1 (.int .i64 1)).box (Nat.le_refl _) 0 (.string (bstr n)))
   have HA3 : Hid (Arr ((w2.setCell ⟨W.heap.size, 1, none⟩ (.int .i64 1)).setCell ⟨W.heap.size, 0, none⟩ (.string (bstr n))) 48 W.heap.size [.string (bstr n), .int .i64 1, .slice none 0 0, .int .i64 0, .string ⟨#[]⟩, .string ⟨#[]⟩, .slice none 0 0]) := (HA2.out.set 1 (.int .i64 1)).set 0 (.string (bstr n))
   have HW4 := hiD (want_any HP3.out HS2.out ⟨#[58]⟩ [58] rfl)
   clear e2 p2 k2 HN1
   clear x0 y0 x1 y1 x2 y2 x3 y3 x4 y4 x5 y5 x6 y6
   obtain ⟨x0, y0, x1, y1, x2, y2, x3, y3, x4, y4, x5, y5, x6, y6⟩ := HA2.out.all7
   go_wp2_with fail
   clear x0 y0 x1 y1 x2 y2 x3 y3 x4 y4 x5 y5 x6 y6
   refine HW4.out.mono ?_
   rintro r w4 (⟨x, s4, v, e4, rfl, _, p4, k4⟩ | ⟨k, i, ez, rfl, kz⟩)
   ·have HE4 := hiD e4
    have HS4 : Hid (s4.i < ts.length) := (keeps_want HO.out (by decide) _ _ _ HS2.out e4).1
    have HP4 := hiD p4
    have HA4 := hiD (k4.arr HA3.out (by have := HLT.out; omega))
    have HK4 := hiD (HK3.out.trans k4)
    have HT4 := hiD (types_any HO.out HP4.out HS4.out)
    have HLE : Hid (W.heap.size + 1 ≤ w4.heap.size) := HA4.out.lt
    clear e4 p4 k4 HW4
    go_wp2_with fail
    refine HT4.out.mono ?_
    rintro r w5 (⟨l, s5, v, e5, rfl, r5, p5, k5⟩ | ⟨k, i, ez, rfl, kz⟩)
    ·have HE5 := hiD e5
     have HS8 : Hid (s5.i < ts.length) := (keeps_types HO.out _ _ _ _ _ HS4.out e5).1
     have HR5 := hiD (AlRow.rd r5)
     obtain ⟨q5, c5, rfl⟩ := r5.form
     have HA5 := hiD (k5.arr HA4.out (by have := HLT.out; omega))
     have HP8 : Hid (PP (w5.setCell ⟨W.heap.size, 2, none⟩ (.slice q5 l.length c5)) pb tb c ts s5) := p5.box HLT.out _ _
     have HK8 := hiD ((HK4.out.trans k5).box (Nat.le_refl _) 2 (.slice q5 l.length c5))
     have HA8 : Hid (Arr (w5.setCell ⟨W.heap.size, 2, none⟩ (.slice q5 l.length c5)) 48 W.heap.size [.string (bstr n), .int .i64 1, .slice q5 l.length c5, .int .i64 0, .string ⟨#[]⟩, .string ⟨#[]⟩, .slice none 0 0]) := HA5.out.set 2 (.slice q5 l.length c5)
     have HR8 := hiD ((RdA.low HR5.out HLE.out).kp ((Kp.of (pb := W.heap.size) (Below.refl w5.heap.size w5)).set 2 (.slice q5 l.length c5)) (Nat.lt_succ_self _))
     clear e5 r5 p5 k5 HT4
     obtain ⟨x0, y0, x1, y1, x2, y2, x3, y3, x4, y4, x5, y5, x6, y6⟩ := HA5.out.all7
     go_upto_region 9 with (fail)
     clear x0 y0 x1 y1 x2 y2 x3 y3 x4 y4 x5 y5 x6 y6
     generalize w5.setCell ⟨W.heap.size, 2, none⟩ (.slice q5 l.length c5) = w8 at HP8 HK8 HA8 HR8 ⊢
     have HWC := hiD (want_any HP8.out HS8.out ⟨#[59]⟩ [59] rfl)
     go_wp2_with fail
     refine HWC.out.mono ?_
     rintro r w9 (⟨x, s9, v, ez, rfl, _, p9, k9⟩ | ⟨k, i, ez, rfl, kz⟩)
     ·have HP9 := hiD p9
      have HK9 := hiD (HK8.out.trans k9)
      have HA9 := hiD (k9.arr HA8.out (by have := HLT.out; omega))
      have HEb : Hid (memberF ts s = .ok (n, 1, l, ex0) s9) := by
       show _ = _
       rw [HMF.out, HE2.out, PR.then_ok, HE4.out, PR.then_ok, HE5.out, PR.then_ok, ez]; rfl
      have HV9 : Hid (VM (W.heap.size + 1) (n, 1, l, ex0) w9 (.agg #[.string (bstr n), .int .i64 1, .slice q5 l.length c5, .int .i64 0, .string ⟨#[]⟩, .string ⟨#[]⟩, .slice none 0 0])) := ⟨_, rfl, _, _, _, _, _, rfl, HR8.out.kp k9 (by have := HLT.out; omega), VE.leaf (W.heap.size + 1) w9 0 [] []⟩
      clear ez p9 k9 HWC
      obtain ⟨x0, y0, x1, y1, x2, y2, x3, y3, x4, y4, x5, y5, x6, y6⟩ := HA9.out.all7
      go_wp2_with fail
      have hk := kp_setM w9 W.heap.size (.string (bstr n)) (.int .i64 1) (.slice q5 l.length c5) (.int .i64 0) (.string ⟨#[]⟩) (.string ⟨#[]⟩) (.slice none 0 0)
      have hA := HA9.out.setM (.string (bstr n)) (.int .i64 1) (.slice q5 l.length c5) (.int .i64 0) (.string ⟨#[]⟩) (.string ⟨#[]⟩) (.slice none 0 0)
      exact bodyPost_ret (resM rfl hA rfl) rfl (.inl ⟨_, _, _, HEb.out, rfl, ((VM.kp HV9.out hk (Nat.lt_succ_self _)).low (Nat.le_succ _)), HP9.out.kp hk HLT.out HK9.out.2.2.2.1, HK9.out.andThen hk (Nat.le_refl _)⟩)
     ·have HKb := hiD (HK8.out.trans kz)
      have HEb : Hid (memberF ts s = .bad k i) := by
       show _ = _
       rw [HMF.out, HE2.out, PR.then_ok, HE4.out, PR.then_ok, HE5.out, PR.then_ok, ez]; rfl
      clear ez kz
      go_wp2_with fail
      exact ⟨rfl, .inr ⟨k, i, HEb.out, rfl, HKb.out⟩⟩
    ·have HKb := hiD (HK4.out.trans kz)
     have HEb : Hid (memberF ts s = .bad k i) := by
      show _ = _
      rw [HMF.out, HE2.out, PR.then_ok, HE4.out, PR.then_ok, ez]; rfl
     clear ez kz
     go_wp2_with fail
     exact ⟨rfl, .inr ⟨k, i, HEb.out, rfl, HKb.out⟩⟩
   ·have HKb := hiD (HK3.out.trans kz)
    have HEb : Hid (memberF ts s = .bad k i) := by
     show _ = _
     rw [HMF.out, HE2.out, PR.then_ok, ez]; rfl
    clear ez kz
    go_wp2_with fail
    exact ⟨rfl, .inr ⟨k, i, HEb.out, rfl, HKb.out⟩⟩
  ·have HKb := hiD (HK1.out.trans kz)
   have HEb : Hid (memberF ts s = .bad k i) := by
    show _ = _
    rw [HMF.out, ez]; rfl
   clear ez kz
   go_wp2_with fail
   exact ⟨rfl, .inr ⟨k, i, HEb.out, rfl, HKb.out⟩⟩
 | false =>
  have HP1 : Hid (PP w1 pb tb c ts s) := p1
  clear p1 k1 HSK hd
  have HT := hiD (of_decide_eq_false HD.out.symm)
  have HMF := hiD (memberF_perm HT.out)
  have HW0 := hiD (want_any HP1.out HH.out ⟨#[112, 101, 114, 109, 105, 115, 115, 105, 111, 110]⟩ wPermB rfl)
  go_wp2_with fail
  refine HW0.out.mono ?_
  rintro r w0 (⟨x, s0, v, e0, rfl, _, p0, k0⟩ | ⟨k, i, ez, rfl, kz⟩)
  ·have HE0 := hiD e0
   have HS0 : Hid (s0.i < ts.length) := (keeps_want HO.out (by decide) _ _ _ HH.out e0).1
   have HP0 := hiD p0
   have HK0 := hiD (HK1.out.trans k0)
   have HA0 := hiD (k0.arr HA1.out (by have := HLT.out; omega))
   have HN1 := hiD (name_any HP0.out HS0.out)
   clear e0 p0 k0 HW0 HP1 HK1 HA1
   go_wp2_with fail
   refine HN1.out.mono ?_
   rintro r w2 (⟨n, s2, v, e2, rfl, rfl, p2, k2⟩ | ⟨k, i, ez, rfl, kz⟩)
   ·have HE2 := hiD e2
    have HS2 : Hid (s2.i < ts.length) := (keeps_name HO.out _ _ _ HS0.out e2).1
    have HA2 := hiD (k2.arr HA0.out (by have := HLT.out; omega))
    have HP3 : Hid (PP ((w2.setCell ⟨W.heap.size, 1, none⟩ (.int .i64 2)).setCell ⟨W.heap.size, 0, none⟩ (.string (bstr n))) pb tb c ts s2) := (p2.box HLT.out _ _).box HLT.out _ _
    have HK3 := hiD (((HK0.out.trans k2).box (Nat.le_refl _) 1 (.int .i64 2)).box (Nat.le_refl _) 0 (.string (bstr n)))
    have HA3 : Hid (Arr ((w2.setCell ⟨W.heap.size, 1, none⟩ (.int .i64 2)).setCell ⟨W.heap.size, 0, none⟩ (.string (bstr n))) 48 W.heap.size [.string (bstr n), .int .i64 2, .slice none 0 0, .int .i64 0, .string ⟨#[]⟩, .string ⟨#[]⟩, .slice none 0 0]) := (HA2.out.set 1 (.int .i64 2)).set 0 (.string (bstr n))
    have HW4 := hiD (want_any HP3.out HS2.out ⟨#[61]⟩ [61] rfl)
    clear e2 p2 k2 HN1
    obtain ⟨x0, y0, x1, y1, x2, y2, x3, y3, x4, y4, x5, y5, x6, y6⟩ := HA2.out.all7
    go_wp2_with fail
    clear x0 y0 x1 y1 x2 y2 x3 y3 x4 y4 x5 y5 x6 y6
    refine HW4.out.mono ?_
    rintro r w4 (⟨x, s4, v, e4, rfl, _, p4, k4⟩ | ⟨k, i, ez, rfl, kz⟩)
    ·have HE4 := hiD e4
     have HS4 : Hid (s4.i < ts.length) := (keeps_want HO.out (by decide) _ _ _ HS2.out e4).1
     have HP4 := hiD p4
     have HA4 := hiD (k4.arr HA3.out (by have := HLT.out; omega))
     have HK4 := hiD (HK3.out.trans k4)
     have HT4 := hiD (expr_any HO.out HP4.out HS4.out)
     have HLE : Hid (W.heap.size + 1 ≤ w4.heap.size) := HA4.out.lt
     clear e4 p4 k4 HW4
     go_wp2_with fail
     refine HT4.out.mono ?_
     rintro r w5 (⟨e, s5, v, e5, rfl, r5, p5, k5⟩ | ⟨k, i, ez, rfl, kz⟩)
     ·obtain ⟨mk, mv, mn, ms⟩ := e
      have HE5 := hiD e5
      have HS8 : Hid (s5.i < ts.length) := keeps_expr HO.out HS4.out e5
      have HR5 : Hid (VE w4.heap.size (.mk mk mv mn ms) w5 v) := r5
      obtain ⟨q4, c4, rfl, _, _⟩ := RdE.form r5
      unfold exv at HR5 ⊢
      dsimp only [Ex.kind, Ex.via, Ex.nm, Ex.kids] at HR5 ⊢
      have HA5 := hiD (k5.arr HA4.out (by have := HLT.out; omega))
      have hk4 : Kp W.heap.size w5 ((((w5.setCell ⟨W.heap.size, 3, none⟩ (.int .i64 mk)).setCell ⟨W.heap.size, 4, none⟩ (.string (bstr mv))).setCell ⟨W.heap.size, 5, none⟩ (.string (bstr mn))).setCell ⟨W.heap.size, 6, none⟩ (.slice q4 ms.length c4)) := kp_set43 w5 W.heap.size (.int .i64 mk) (.string (bstr mv)) (.string (bstr mn)) (.slice q4 ms.length c4)
      have HP8 : Hid (PP ((((w5.setCell ⟨W.heap.size, 3, none⟩ (.int .i64 mk)).setCell ⟨W.heap.size, 4, none⟩ (.string (bstr mv))).setCell ⟨W.heap.size, 5, none⟩ (.string (bstr mn))).setCell ⟨W.heap.size, 6, none⟩ (.slice q4 ms.length c4)) pb tb c ts s5) := p5.kp hk4 HLT.out (Nat.le_trans HK4.out.2.2.2.1 k5.2.2.2.1)
      have HK8 := hiD ((HK4.out.trans k5).andThen hk4 (Nat.le_refl _))
      have HA8 : Hid (Arr ((((w5.setCell ⟨W.heap.size, 3, none⟩ (.int .i64 mk)).setCell ⟨W.heap.size, 4, none⟩ (.string (bstr mv))).setCell ⟨W.heap.size, 5, none⟩ (.string (bstr mn))).setCell ⟨W.heap.size, 6, none⟩ (.slice q4 ms.length c4)) 48 W.heap.size [.string (bstr n), .int .i64 2, .slice none 0 0, .int .i64 mk, .string (bstr mv), .string (bstr mn), .slice q4 ms.length c4]) := (((HA5.out.set 3 (.int .i64 mk)).set 4 (.string (bstr mv))).set 5 (.string (bstr mn))).set 6 (.slice q4 ms.length c4)
      have HR8 : Hid (VE (W.heap.size + 1) (.mk mk mv mn ms) ((((w5.setCell ⟨W.heap.size, 3, none⟩ (.int .i64 mk)).setCell ⟨W.heap.size, 4, none⟩ (.string (bstr mv))).setCell ⟨W.heap.size, 5, none⟩ (.string (bstr mn))).setCell ⟨W.heap.size, 6, none⟩ (.slice q4 ms.length c4)) (.agg #[.int .i64 mk, .string (bstr mv), .string (bstr mn), .slice q4 ms.length c4])) := (VE.low HR5.out HLE.out).kp hk4 (Nat.lt_succ_self _)
      clear e5 r5 p5 k5 HT4 hk4 HR5
      obtain ⟨x0, y0, x1, y1, x2, y2, x3, y3, x4, y4, x5, y5, x6, y6⟩ := HA5.out.all7
      go_upto_region 9 with (fail)
      clear x0 y0 x1 y1 x2 y2 x3 y3 x4 y4 x5 y5 x6 y6
      generalize ((((w5.setCell ⟨W.heap.size, 3, none⟩ (.int .i64 mk)).setCell ⟨W.heap.size, 4, none⟩ (.string (bstr mv))).setCell ⟨W.heap.size, 5, none⟩ (.string (bstr mn))).setCell ⟨W.heap.size, 6, none⟩ (.slice q4 ms.length c4)) = w8 at HP8 HK8 HA8 HR8 ⊢
      have HWC := hiD (want_any HP8.out HS8.out ⟨#[59]⟩ [59] rfl)
      go_wp2_with fail
      refine HWC.out.mono ?_
      rintro r w9 (⟨x, s9, v, ez, rfl, _, p9, k9⟩ | ⟨k, i, ez, rfl, kz⟩)
      ·have HP9 := hiD p9
       have HK9 := hiD (HK8.out.trans k9)
       have HA9 := hiD (k9.arr HA8.out (by have := HLT.out; omega))
       have HEb : Hid (memberF ts s = .ok (n, 2, [], .mk mk mv mn ms) s9) := by
        show _ = _
        rw [HMF.out, HE0.out, PR.then_ok, HE2.out, PR.then_ok, HE4.out, PR.then_ok, HE5.out, PR.then_ok, ez]; rfl
       have HV9 : Hid (VM (W.heap.size + 1) (n, 2, [], .mk mk mv mn ms) w9 (.agg #[.string (bstr n), .int .i64 2, .slice none 0 0, .int .i64 mk, .string (bstr mv), .string (bstr mn), .slice q4 ms.length c4])) := ⟨_, rfl, _, _, _, _, _, rfl, RdA.nil _ _, HR8.out.kp k9 (by have := HLT.out; omega)⟩
       clear ez p9 k9 HWC
       obtain ⟨x0, y0, x1, y1, x2, y2, x3, y3, x4, y4, x5, y5, x6, y6⟩ := HA9.out.all7
       go_wp2_with fail
       have hk := kp_setM w9 W.heap.size (.string (bstr n)) (.int .i64 2) (.slice none 0 0) (.int .i64 mk) (.string (bstr mv)) (.string (bstr mn)) (.slice q4 ms.length c4)
       have hA := HA9.out.setM (.string (bstr n)) (.int .i64 2) (.slice none 0 0) (.int .i64 mk) (.string (bstr mv)) (.string (bstr mn)) (.slice q4 ms.length c4)
       exact bodyPost_ret (resM rfl hA rfl) rfl (.inl ⟨_, _, _, HEb.out, rfl, ((VM.kp HV9.out hk (Nat.lt_succ_self _)).low (Nat.le_succ _)), HP9.out.kp hk HLT.out HK9.out.2.2.2.1, HK9.out.andThen hk (Nat.le_refl _)⟩)
      ·have HKb := hiD (HK8.out.trans kz)
       have HEb : Hid (memberF ts s = .bad k i) := by
        show _ = _
        rw [HMF.out, HE0.out, PR.then_ok, HE2.out, PR.then_ok, HE4.out, PR.then_ok, HE5.out, PR.then_ok, ez]; rfl
       clear ez kz
       go_wp2_with fail
       exact ⟨rfl, .inr ⟨k, i, HEb.out, rfl, HKb.out⟩⟩
     ·have HKb := hiD (HK4.out.trans kz)
      have HEb : Hid (memberF ts s = .bad k i) := by
       show _ = _
       rw [HMF.out, HE0.out, PR.then_ok, HE2.out, PR.then_ok, HE4.out, PR.then_ok, ez]; rfl
      clear ez kz
      go_wp2_with fail
      exact ⟨rfl, .inr ⟨k, i, HEb.out, rfl, HKb.out⟩⟩
    ·have HKb := hiD (HK3.out.trans kz)
     have HEb : Hid (memberF ts s = .bad k i) := by
      show _ = _
      rw [HMF.out, HE0.out, PR.then_ok, HE2.out, PR.then_ok, ez]; rfl
     clear ez kz
     go_wp2_with fail
     exact ⟨rfl, .inr ⟨k, i, HEb.out, rfl, HKb.out⟩⟩
   ·have HKb := hiD (HK0.out.trans kz)
    have HEb : Hid (memberF ts s = .bad k i) := by
     show _ = _
     rw [HMF.out, HE0.out, PR.then_ok, ez]; rfl
    clear ez kz
    go_wp2_with fail
    exact ⟨rfl, .inr ⟨k, i, HEb.out, rfl, HKb.out⟩⟩
  ·have HKb := hiD (HK1.out.trans kz)
   have HEb : Hid (memberF ts s = .bad k i) := by
    show _ = _
    rw [HMF.out, ez]; rfl
   clear ez kz
   go_wp2_with fail
   exact ⟨rfl, .inr ⟨k, i, HEb.out, rfl, HKb.out⟩⟩
end
end Go.Proofs.YtkildckeikedhaaGreatDoor
