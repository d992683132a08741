/-
  parse's member; types and members in memory.
-/
import Derived.Test.YteieimchleioaaaGreatDoorMp4
namespace Go.Proofs.YteieimchleioaaaGreatDoor
open Go.ChangeShapes Go.WideShapes Go.ChangeAt Go.RowKit
set_option linter.unusedVariables false

/-- v is a slice that reads as the types. -/
def RdA (P : Nat → Prop) (w : World) (l : List AlB) (v : Value) : Prop := ∃ q c, v = .slice q l.length c ∧ l.length ≤ c ∧ (0 < l.length → ∃ b o, q = some ⟨b, o, none⟩ ∧ P b ∧ ∀ j u, (als l)[j]? = some u → w.cell? ⟨b, o + j, none⟩ = some u)
theorem RdA.keep {P : Nat → Prop} {w w' : World} {l : List AlB} {v : Value} (hk : ∀ b, P b → ∀ n, w'.cell? ⟨b, n, none⟩ = w.cell? ⟨b, n, none⟩) (h : RdA P w l v) : RdA P w' l v := by
 obtain ⟨q, c, h1, h2, h3⟩ := h
 refine ⟨q, c, h1, h2, fun h0 => ?_⟩
 obtain ⟨b, o, h4, h5, h6⟩ := h3 h0
 exact ⟨b, o, h4, h5, fun j u hj => (hk b h5 _).trans (h6 j u hj)⟩
theorem RdA.imp {P Q : Nat → Prop} {w : World} {l : List AlB} {v : Value} (hi : ∀ b, P b → Q b) (h : RdA P w l v) : RdA Q w l v := by
 obtain ⟨q, c, h1, h2, h3⟩ := h
 refine ⟨q, c, h1, h2, fun h0 => ?_⟩
 obtain ⟨b, o, h4, h5, h6⟩ := h3 h0
 exact ⟨b, o, h4, hi b h5, h6⟩
theorem RdA.nil (P : Nat → Prop) (w : World) : RdA P w [] (.slice none 0 0) := ⟨none, 0, rfl, Nat.le_refl _, fun h => absurd h (Nat.lt_irrefl _)⟩
theorem AlRow.rd {base : Nat} {w : World} {v : Value} {l : List AlB} (h : AlRow base w v l) : RdA (Bt base w.heap.size) w l v := by
 have h1 := h.1
 rcases h.2 with ⟨hv, hn⟩ | ⟨g, cap, cur, hv, h0, hg, hcap, _, hcz, htk⟩
 ·have : l = [] := by cases l; rfl; simp at hn
  subst this
  rw [hv]
  exact RdA.nil _ _
 ·refine ⟨_, _, hv, hcap, fun _ => ⟨g, 0, rfl, ⟨h0, (Array.getElem?_eq_some_iff.1 hg).1⟩, fun j u hj => ?_⟩⟩
  rw [Nat.zero_add]
  have hjl : j < (als l).length := (List.getElem?_eq_some_iff.1 hj).1
  rw [cell_of_row w g _ cur _ (0, 0) hg, ← Array.getElem?_toList]
  rw [← htk, List.getElem?_take, if_pos (by rw [h1] at hjl; exact hjl)] at hj
  exact hj
def rdMem (P : Nat → Prop) (w : World) (m : MemB) (cs : List Value) : Prop := ∃ vt v3 v4 v5 v6, cs = [.string (bstr m.1), .int .i64 m.2.1, vt, v3, v4, v5, v6] ∧ RdA P w m.2.2.1 vt ∧ RdE P w m.2.2.2 (.agg #[v3, v4, v5, v6])
theorem rdMem.keep {P : Nat → Prop} {w w' : World} {m : MemB} {cs : List Value} (hk : ∀ b, P b → ∀ n, w'.cell? ⟨b, n, none⟩ = w.cell? ⟨b, n, none⟩) (h : rdMem P w m cs) : rdMem P w' m cs := by
 obtain ⟨vt, v3, v4, v5, v6, h1, h2, h3⟩ := h
 exact ⟨vt, v3, v4, v5, v6, h1, h2.keep hk, h3.keep hk⟩
theorem rdMem.imp {P Q : Nat → Prop} {w : World} {m : MemB} {cs : List Value} (hi : ∀ b, P b → Q b) (h : rdMem P w m cs) : rdMem Q w m cs := by
 obtain ⟨vt, v3, v4, v5, v6, h1, h2, h3⟩ := h
 exact ⟨vt, v3, v4, v5, v6, h1, h2.imp hi, h3.imp hi⟩
theorem Tryz.infoMem : (Tryz.prog.info? 72).map (fun i => (i.zero, i.size, i.bytes)) = some (some (.agg #[.string ByteArray.empty, .int .i64 0, .slice none 0 0, .int .i64 0, .string ByteArray.empty, .string ByteArray.empty, .slice none 0 0]), 7, 112) := by kernel_rfl
def kdMem : Kd MemB where
 sty := 42
 ty := 72
 z := .agg #[.string ByteArray.empty, .int .i64 0, .slice none 0 0, .int .i64 0, .string ByteArray.empty, .string ByteArray.empty, .slice none 0 0]
 size := 7
 bytes := 112
 und := Tryz.underlying42
 info := info_parts Tryz.infoMem
 zs := rfl
 pos := by decide
 small := by decide
 rd := rdMem
 len := fun ⟨_, _, _, _, _, h, _⟩ => by rw [h]; rfl
 ones := fun {P w x cs} ⟨vt, v3, v4, v5, v6, h, h1, h2⟩ u hu => by
  obtain ⟨q, c, h3, _⟩ := h2.form
  unfold exv at h3
  simp only [Value.agg.injEq, Array.mk.injEq, List.cons.injEq, and_true] at h3
  obtain ⟨rfl, rfl, rfl, rfl⟩ := h3
  obtain ⟨q2, c2, rfl, _⟩ := h1
  rw [h] at hu
  simp only [List.mem_cons, List.not_mem_nil, or_false] at hu
  rcases hu with rfl | rfl | rfl | rfl | rfl | rfl | rfl <;> rfl
 keep := fun hk h => rdMem.keep hk h
 imp := fun hi h => rdMem.imp hi h
def VM (B : Nat) (m : MemB) (w : World) (v : Value) : Prop := ∃ cs, v = .agg cs.toArray ∧ rdMem (Bt B w.heap.size) w m cs
theorem VM.kp {B g : Nat} {m : MemB} {w w' : World} {v : Value} (h : VM B m w v) (hk : Kp g w w') (hg : g < B) : VM B m w' v := by
 obtain ⟨cs, h1, h2⟩ := h
 exact ⟨cs, h1, (h2.keep fun b hb n => World.cell?_of_block (hk.2.2.2.2 b hb.2 (by have := hb.1; omega))).imp fun b hb => ⟨hb.1, Nat.lt_of_lt_of_le hb.2 hk.2.2.2.1⟩⟩
theorem VM.low {B B' : Nat} {m : MemB} {w : World} {v : Value} (h : VM B m w v) (hb : B' ≤ B) : VM B' m w v := by
 obtain ⟨cs, h1, h2⟩ := h
 exact ⟨cs, h1, h2.imp fun b hb' => ⟨Nat.le_trans hb hb'.1, hb'.2⟩⟩
theorem RdA.kp {B g : Nat} {l : List AlB} {w w' : World} {v : Value} (h : RdA (Bt B w.heap.size) w l v) (hk : Kp g w w') (hg : g < B) : RdA (Bt B w'.heap.size) w' l v :=
 (h.keep fun b hb n => World.cell?_of_block (hk.2.2.2.2 b hb.2 (by have := hb.1; omega))).imp fun b hb => ⟨hb.1, Nat.lt_of_lt_of_le hb.2 hk.2.2.2.1⟩
theorem RdA.low {B B' N : Nat} {l : List AlB} {w : World} {v : Value} (h : RdA (Bt B N) w l v) (hb : B' ≤ B) : RdA (Bt B' N) w l v := h.imp fun b hb' => ⟨Nat.le_trans hb hb'.1, hb'.2⟩
theorem Arr.setM {w : World} {t : TypeId} {g : Nat} {y0 y1 y2 y3 y4 y5 y6 : Value} (h : Arr w t g [y0, y1, y2, y3, y4, y5, y6]) (x0 x1 x2 x3 x4 x5 x6 : Value) : Arr (((((((w.setCell ⟨g, 0, none⟩ x0).setCell ⟨g, 1, none⟩ x1).setCell ⟨g, 2, none⟩ x2).setCell ⟨g, 3, none⟩ x3).setCell ⟨g, 4, none⟩ x4).setCell ⟨g, 5, none⟩ x5).setCell ⟨g, 6, none⟩ x6) t g [x0, x1, x2, x3, x4, x5, x6] := (((((((h.set 0 x0).set 1 x1).set 2 x2).set 3 x3).set 4 x4).set 5 x5).set 6 x6)
theorem kp_setM (w : World) (g : Nat) (x0 x1 x2 x3 x4 x5 x6 : Value) : Kp g w (((((((w.setCell ⟨g, 0, none⟩ x0).setCell ⟨g, 1, none⟩ x1).setCell ⟨g, 2, none⟩ x2).setCell ⟨g, 3, none⟩ x3).setCell ⟨g, 4, none⟩ x4).setCell ⟨g, 5, none⟩ x5).setCell ⟨g, 6, none⟩ x6) := ((((((((Kp.of (pb := g) (Below.refl _ _)).set 0 x0).set 1 x1).set 2 x2).set 3 x3).set 4 x4).set 5 x5).set 6 x6)
theorem resM {fn : Func} {p : Tmp} (h : fn.results = #[.cell p 72]) {tmps : Array Value} {w : World} {g : Nat} {x0 x1 x2 x3 x4 x5 x6 : Value} (hA : Arr w 72 g [x0, x1, x2, x3, x4, x5, x6]) (hp : tmps.getD p undef = .pointer (some ⟨g, 0, none⟩)) :
  (results fn tmps).run Tryz.prog w = .ok (.agg #[x0, x1, x2, x3, x4, x5, x6]) w :=
 results_cell_row h tmps w g 72 #[x0, x1, x2, x3, x4, x5, x6] (0, 0) _ hp hA Tryz.underlying72 rfl (by kernel_rfl)
theorem memberF_rel {ts : List Tok} {s : PS} (h : txt ts s.i = wRelB) : memberF ts s = (nameF ts s.up).then fun n s1 => (wantF ts [58] s1).then fun _ s2 => (typesR ts s2).then fun l s3 => (wantF ts [59] s3).then fun _ s4 => .ok (n, 1, l, ex0) s4 := if_pos h
theorem memberF_perm {ts : List Tok} {s : PS} (h : ¬ txt ts s.i = wRelB) : memberF ts s = (wantF ts wPermB s).then fun _ s0 => (nameF ts s0).then fun n s1 => (wantF ts [61] s1).then fun _ s2 => (exprF ts s2).then fun e s3 => (wantF ts [59] s3).then fun _ s4 => .ok (n, 2, [], e) s4 := if_neg h
theorem kp_set43 (w : World) (g : Nat) (x0 x1 x2 x3 : Value) : Kp g w ((((w.setCell ⟨g, 3, none⟩ x0).setCell ⟨g, 4, none⟩ x1).setCell ⟨g, 5, none⟩ x2).setCell ⟨g, 6, none⟩ x3) := ((((Kp.of (pb := g) (Below.refl _ _)).set 3 x0).set 4 x1).set 5 x2).set 6 x3
theorem keeps_expr {ts : List Tok} (h : OkTs ts) {s : PS} {e : Ex} {s' : PS} (hi : s.i < ts.length) (he : exprF ts s = .ok e s') : s'.i < ts.length := (keeps_units h 14 { s with o := 0, l := 0 } e s' hi he).1
section
variable {W : World} {pb tb c : Nat} {ts : List Tok} {s : PS}
set_option maxRecDepth 100000 in
set_option maxHeartbeats 2000000 in
theorem member_any (ho : OkTs ts) (h : PP W pb tb c ts s) (hi : s.i < ts.length) : Calls Tryz.prog 66 #[.pointer (some ⟨pb, 0, none⟩)] W (QR pb tb c ts W (memberF ts s) (VM W.heap.size)) := by
 have hb0 : Below W.heap.size W (W.alloc (.cells #[.string ⟨#[]⟩, .int .i64 0, .slice none 0 0, .int .i64 0, .string ⟨#[]⟩, .string ⟨#[]⟩, .slice none 0 0] 72)) := (Below.refl _ _).alloc (Nat.le_refl _) _
 have HP0 := Lib.hid (h.later hb0)
 have HK0 := Lib.hid (Kp.of (pb := pb) hb0)
 have HA0 : Hid (Arr (W.alloc (.cells #[.string ⟨#[]⟩, .int .i64 0, .slice none 0 0, .int .i64 0, .string ⟨#[]⟩, .string ⟨#[]⟩, .slice none 0 0] 72)) 72 W.heap.size [.string ⟨#[]⟩, .int .i64 0, .slice none 0 0, .int .i64 0, .string ⟨#[]⟩, .string ⟨#[]⟩, .slice none 0 0]) := Arr.new' _ _ _ _ rfl
 have HLT : Hid (pb < W.heap.size) := h.1.lt
 have HH := Lib.hid hi
 have HO := Lib.hid ho
 have HSK := Lib.hid (skip_any HP0.out hi ⟨#[114, 101, 108, 97, 116, 105, 111, 110]⟩ wRelB rfl)
 clear h hi hb0 ho
 go_enter Tryz.func66, Tryz.ntmps66
 go_wp2_with fail
 refine HSK.out.mono ?_
 rintro r w1 ⟨d, hd, rfl, p1, k1⟩
 have HD := Lib.hid hd
 have HK1 := Lib.hid (HK0.out.trans k1)
 have HA1 := Lib.hid (k1.arr HA0.out (by have := HLT.out; omega))
 clear HK0 HA0 HP0
 cases d with
 | true =>
  have HP1 : Hid (PP w1 pb tb c ts s.up) := p1
  clear p1 k1 HSK hd
  have HT := Lib.hid (of_decide_eq_true HD.out.symm)
  have HMF := Lib.hid (memberF_rel HT.out)
  have HS1 : Hid (s.up.i < ts.length) := HO.out.step (by rw [HT.out]; decide)
  have HN1 := Lib.hid (name_any HP1.out HS1.out)
  obtain ⟨x0, y0, x1, y1, x2, y2, x3, y3, x4, y4, x5, y5, x6, y6⟩ := HA1.out.all7
  go_wp2_with fail
  refine HN1.out.mono ?_
  rintro r w2 (⟨n, s2, v, e2, rfl, rfl, p2, k2⟩ | ⟨k, i, ez, rfl, kz⟩)
  ·have HE2 := Lib.hid e2
   have HS2 : Hid (s2.i < ts.length) := (keeps_name HO.out _ _ _ HS1.out e2).1
   have HA2 := Lib.hid (k2.arr HA1.out (by have := HLT.out; omega))
   have HP3 : Hid (PP ((w2.setCell ⟨W.heap.size, 1, none⟩ (.int .i64 1)).setCell ⟨W.heap.size, 0, none⟩ (.string (bstr n))) pb tb c ts s2) := (p2.box HLT.out _ _).box HLT.out _ _
   have HK3 := Lib.hid (((HK1.out.trans k2).box (Nat.le_refl _) 1 (.int .i64 1)).box (Nat.le_refl _) 0 (.string (bstr n)))
   have HA3 : Hid (Arr ((w2.setCell ⟨W.heap.size, 1, none⟩ (.int .i64 1)).setCell ⟨W.heap.size, 0, none⟩ (.string (bstr n))) 72 W.heap.size [.string (bstr n), .int .i64 1, .slice none 0 0, .int .i64 0, .string ⟨#[]⟩, .string ⟨#[]⟩, .slice none 0 0]) := (HA2.out.set 1 (.int .i64 1)).set 0 (.string (bstr n))
   have HW4 := Lib.hid (want_any HP3.out HS2.out ⟨#[58]⟩ [58] rfl)
   clear e2 p2 k2 HN1
   clear x0 y0 x1 y1 x2 y2 x3 y3 x4 y4 x5 y5 x6 y6
   obtain ⟨x0, y0, x1, y1, x2, y2, x3, y3, x4, y4, x5, y5, x6, y6⟩ := HA2.out.all7
   go_wp2_with fail
   clear x0 y0 x1 y1 x2 y2 x3 y3 x4 y4 x5 y5 x6 y6
   refine HW4.out.mono ?_
   rintro r w4 (⟨x, s4, v, e4, rfl, _, p4, k4⟩ | ⟨k, i, ez, rfl, kz⟩)
   ·have HE4 := Lib.hid e4
    have HS4 : Hid (s4.i < ts.length) := (keeps_want HO.out (by decide) _ _ _ HS2.out e4).1
    have HP4 := Lib.hid p4
    have HA4 := Lib.hid (k4.arr HA3.out (by have := HLT.out; omega))
    have HK4 := Lib.hid (HK3.out.trans k4)
    have HT4 := Lib.hid (types_any HO.out HP4.out HS4.out)
    have HLE : Hid (W.heap.size + 1 ≤ w4.heap.size) := HA4.out.lt
    clear e4 p4 k4 HW4
    go_wp2_with fail
    refine HT4.out.mono ?_
    rintro r w5 (⟨l, s5, v, e5, rfl, r5, p5, k5⟩ | ⟨k, i, ez, rfl, kz⟩)
    ·have HE5 := Lib.hid e5
     have HS8 : Hid (s5.i < ts.length) := (keeps_types HO.out _ _ _ _ _ HS4.out e5).1
     have HR5 := Lib.hid (AlRow.rd r5)
     obtain ⟨q5, c5, rfl⟩ := r5.form
     have HA5 := Lib.hid (k5.arr HA4.out (by have := HLT.out; omega))
     have HP8 : Hid (PP (w5.setCell ⟨W.heap.size, 2, none⟩ (.slice q5 l.length c5)) pb tb c ts s5) := p5.box HLT.out _ _
     have HK8 := Lib.hid ((HK4.out.trans k5).box (Nat.le_refl _) 2 (.slice q5 l.length c5))
     have HA8 : Hid (Arr (w5.setCell ⟨W.heap.size, 2, none⟩ (.slice q5 l.length c5)) 72 W.heap.size [.string (bstr n), .int .i64 1, .slice q5 l.length c5, .int .i64 0, .string ⟨#[]⟩, .string ⟨#[]⟩, .slice none 0 0]) := HA5.out.set 2 (.slice q5 l.length c5)
     have HR8 := Lib.hid ((RdA.low HR5.out HLE.out).kp ((Kp.of (pb := W.heap.size) (Below.refl w5.heap.size w5)).set 2 (.slice q5 l.length c5)) (Nat.lt_succ_self _))
     clear e5 r5 p5 k5 HT4
     obtain ⟨x0, y0, x1, y1, x2, y2, x3, y3, x4, y4, x5, y5, x6, y6⟩ := HA5.out.all7
     go_upto_region 9 with (fail)
     clear x0 y0 x1 y1 x2 y2 x3 y3 x4 y4 x5 y5 x6 y6
     generalize w5.setCell ⟨W.heap.size, 2, none⟩ (.slice q5 l.length c5) = w8 at HP8 HK8 HA8 HR8 ⊢
     have HWC := Lib.hid (want_any HP8.out HS8.out ⟨#[59]⟩ [59] rfl)
     go_wp2_with fail
     refine HWC.out.mono ?_
     rintro r w9 (⟨x, s9, v, ez, rfl, _, p9, k9⟩ | ⟨k, i, ez, rfl, kz⟩)
     ·have HP9 := Lib.hid p9
      have HK9 := Lib.hid (HK8.out.trans k9)
      have HA9 := Lib.hid (k9.arr HA8.out (by have := HLT.out; omega))
      have HEb : Hid (memberF ts s = .ok (n, 1, l, ex0) s9) := by
       show _ = _
       rw [HMF.out, HE2.out, PR.then_ok, HE4.out, PR.then_ok, HE5.out, PR.then_ok, ez]; rfl
      have HV9 : Hid (VM (W.heap.size + 1) (n, 1, l, ex0) w9 (.agg #[.string (bstr n), .int .i64 1, .slice q5 l.length c5, .int .i64 0, .string ⟨#[]⟩, .string ⟨#[]⟩, .slice none 0 0])) := ⟨_, rfl, _, _, _, _, _, rfl, HR8.out.kp k9 (by have := HLT.out; omega), VE.leaf (W.heap.size + 1) w9 0 [] []⟩
      clear ez p9 k9 HWC
      obtain ⟨x0, y0, x1, y1, x2, y2, x3, y3, x4, y4, x5, y5, x6, y6⟩ := HA9.out.all7
      go_wp2_with fail
      have hk := kp_setM w9 W.heap.size (.string (bstr n)) (.int .i64 1) (.slice q5 l.length c5) (.int .i64 0) (.string ⟨#[]⟩) (.string ⟨#[]⟩) (.slice none 0 0)
      have hA := HA9.out.setM (.string (bstr n)) (.int .i64 1) (.slice q5 l.length c5) (.int .i64 0) (.string ⟨#[]⟩) (.string ⟨#[]⟩) (.slice none 0 0)
      exact bodyPost_ret (resM rfl hA rfl) rfl (.inl ⟨_, _, _, HEb.out, rfl, ((VM.kp HV9.out hk (Nat.lt_succ_self _)).low (Nat.le_succ _)), HP9.out.kp hk HLT.out HK9.out.2.2.2.1, HK9.out.andThen hk (Nat.le_refl _)⟩)
     ·have HKb := Lib.hid (HK8.out.trans kz)
      have HEb : Hid (memberF ts s = .bad k i) := by
       show _ = _
       rw [HMF.out, HE2.out, PR.then_ok, HE4.out, PR.then_ok, HE5.out, PR.then_ok, ez]; rfl
      clear ez kz
      go_wp2_with fail
      exact ⟨rfl, .inr ⟨k, i, HEb.out, rfl, HKb.out⟩⟩
    ·have HKb := Lib.hid (HK4.out.trans kz)
     have HEb : Hid (memberF ts s = .bad k i) := by
      show _ = _
      rw [HMF.out, HE2.out, PR.then_ok, HE4.out, PR.then_ok, ez]; rfl
     clear ez kz
     go_wp2_with fail
     exact ⟨rfl, .inr ⟨k, i, HEb.out, rfl, HKb.out⟩⟩
   ·have HKb := Lib.hid (HK3.out.trans kz)
    have HEb : Hid (memberF ts s = .bad k i) := by
     show _ = _
     rw [HMF.out, HE2.out, PR.then_ok, ez]; rfl
    clear ez kz
    go_wp2_with fail
    exact ⟨rfl, .inr ⟨k, i, HEb.out, rfl, HKb.out⟩⟩
  ·have HKb := Lib.hid (HK1.out.trans kz)
   have HEb : Hid (memberF ts s = .bad k i) := by
    show _ = _
    rw [HMF.out, ez]; rfl
   clear ez kz
   go_wp2_with fail
   exact ⟨rfl, .inr ⟨k, i, HEb.out, rfl, HKb.out⟩⟩
 | false =>
  have HP1 : Hid (PP w1 pb tb c ts s) := p1
  clear p1 k1 HSK hd
  have HT := Lib.hid (of_decide_eq_false HD.out.symm)
  have HMF := Lib.hid (memberF_perm HT.out)
  have HW0 := Lib.hid (want_any HP1.out HH.out ⟨#[112, 101, 114, 109, 105, 115, 115, 105, 111, 110]⟩ wPermB rfl)
  go_wp2_with fail
  refine HW0.out.mono ?_
  rintro r w0 (⟨x, s0, v, e0, rfl, _, p0, k0⟩ | ⟨k, i, ez, rfl, kz⟩)
  ·have HE0 := Lib.hid e0
   have HS0 : Hid (s0.i < ts.length) := (keeps_want HO.out (by decide) _ _ _ HH.out e0).1
   have HP0 := Lib.hid p0
   have HK0 := Lib.hid (HK1.out.trans k0)
   have HA0 := Lib.hid (k0.arr HA1.out (by have := HLT.out; omega))
   have HN1 := Lib.hid (name_any HP0.out HS0.out)
   clear e0 p0 k0 HW0 HP1 HK1 HA1
   go_wp2_with fail
   refine HN1.out.mono ?_
   rintro r w2 (⟨n, s2, v, e2, rfl, rfl, p2, k2⟩ | ⟨k, i, ez, rfl, kz⟩)
   ·have HE2 := Lib.hid e2
    have HS2 : Hid (s2.i < ts.length) := (keeps_name HO.out _ _ _ HS0.out e2).1
    have HA2 := Lib.hid (k2.arr HA0.out (by have := HLT.out; omega))
    have HP3 : Hid (PP ((w2.setCell ⟨W.heap.size, 1, none⟩ (.int .i64 2)).setCell ⟨W.heap.size, 0, none⟩ (.string (bstr n))) pb tb c ts s2) := (p2.box HLT.out _ _).box HLT.out _ _
    have HK3 := Lib.hid (((HK0.out.trans k2).box (Nat.le_refl _) 1 (.int .i64 2)).box (Nat.le_refl _) 0 (.string (bstr n)))
    have HA3 : Hid (Arr ((w2.setCell ⟨W.heap.size, 1, none⟩ (.int .i64 2)).setCell ⟨W.heap.size, 0, none⟩ (.string (bstr n))) 72 W.heap.size [.string (bstr n), .int .i64 2, .slice none 0 0, .int .i64 0, .string ⟨#[]⟩, .string ⟨#[]⟩, .slice none 0 0]) := (HA2.out.set 1 (.int .i64 2)).set 0 (.string (bstr n))
    have HW4 := Lib.hid (want_any HP3.out HS2.out ⟨#[61]⟩ [61] rfl)
    clear e2 p2 k2 HN1
    obtain ⟨x0, y0, x1, y1, x2, y2, x3, y3, x4, y4, x5, y5, x6, y6⟩ := HA2.out.all7
    go_wp2_with fail
    clear x0 y0 x1 y1 x2 y2 x3 y3 x4 y4 x5 y5 x6 y6
    refine HW4.out.mono ?_
    rintro r w4 (⟨x, s4, v, e4, rfl, _, p4, k4⟩ | ⟨k, i, ez, rfl, kz⟩)
    ·have HE4 := Lib.hid e4
     have HS4 : Hid (s4.i < ts.length) := (keeps_want HO.out (by decide) _ _ _ HS2.out e4).1
     have HP4 := Lib.hid p4
     have HA4 := Lib.hid (k4.arr HA3.out (by have := HLT.out; omega))
     have HK4 := Lib.hid (HK3.out.trans k4)
     have HT4 := Lib.hid (expr_any HO.out HP4.out HS4.out)
     have HLE : Hid (W.heap.size + 1 ≤ w4.heap.size) := HA4.out.lt
     clear e4 p4 k4 HW4
     go_wp2_with fail
     refine HT4.out.mono ?_
     rintro r w5 (⟨e, s5, v, e5, rfl, r5, p5, k5⟩ | ⟨k, i, ez, rfl, kz⟩)
     ·obtain ⟨mk, mv, mn, ms⟩ := e
      have HE5 := Lib.hid e5
      have HS8 : Hid (s5.i < ts.length) := keeps_expr HO.out HS4.out e5
      have HR5 : Hid (VE w4.heap.size (.mk mk mv mn ms) w5 v) := r5
      obtain ⟨q4, c4, rfl, _, _⟩ := RdE.form r5
      unfold exv at HR5 ⊢
      dsimp only [Ex.kind, Ex.via, Ex.nm, Ex.kids] at HR5 ⊢
      have HA5 := Lib.hid (k5.arr HA4.out (by have := HLT.out; omega))
      have hk4 : Kp W.heap.size w5 ((((w5.setCell ⟨W.heap.size, 3, none⟩ (.int .i64 mk)).setCell ⟨W.heap.size, 4, none⟩ (.string (bstr mv))).setCell ⟨W.heap.size, 5, none⟩ (.string (bstr mn))).setCell ⟨W.heap.size, 6, none⟩ (.slice q4 ms.length c4)) := kp_set43 w5 W.heap.size (.int .i64 mk) (.string (bstr mv)) (.string (bstr mn)) (.slice q4 ms.length c4)
      have HP8 : Hid (PP ((((w5.setCell ⟨W.heap.size, 3, none⟩ (.int .i64 mk)).setCell ⟨W.heap.size, 4, none⟩ (.string (bstr mv))).setCell ⟨W.heap.size, 5, none⟩ (.string (bstr mn))).setCell ⟨W.heap.size, 6, none⟩ (.slice q4 ms.length c4)) pb tb c ts s5) := p5.kp hk4 HLT.out (Nat.le_trans HK4.out.2.2.2.1 k5.2.2.2.1)
      have HK8 := Lib.hid ((HK4.out.trans k5).andThen hk4 (Nat.le_refl _))
      have HA8 : Hid (Arr ((((w5.setCell ⟨W.heap.size, 3, none⟩ (.int .i64 mk)).setCell ⟨W.heap.size, 4, none⟩ (.string (bstr mv))).setCell ⟨W.heap.size, 5, none⟩ (.string (bstr mn))).setCell ⟨W.heap.size, 6, none⟩ (.slice q4 ms.length c4)) 72 W.heap.size [.string (bstr n), .int .i64 2, .slice none 0 0, .int .i64 mk, .string (bstr mv), .string (bstr mn), .slice q4 ms.length c4]) := (((HA5.out.set 3 (.int .i64 mk)).set 4 (.string (bstr mv))).set 5 (.string (bstr mn))).set 6 (.slice q4 ms.length c4)
      have HR8 : Hid (VE (W.heap.size + 1) (.mk mk mv mn ms) ((((w5.setCell ⟨W.heap.size, 3, none⟩ (.int .i64 mk)).setCell ⟨W.heap.size, 4, none⟩ (.string (bstr mv))).setCell ⟨W.heap.size, 5, none⟩ (.string (bstr mn))).setCell ⟨W.heap.size, 6, none⟩ (.slice q4 ms.length c4)) (.agg #[.int .i64 mk, .string (bstr mv), .string (bstr mn), .slice q4 ms.length c4])) := (VE.low HR5.out HLE.out).kp hk4 (Nat.lt_succ_self _)
      clear e5 r5 p5 k5 HT4 hk4 HR5
      obtain ⟨x0, y0, x1, y1, x2, y2, x3, y3, x4, y4, x5, y5, x6, y6⟩ := HA5.out.all7
      go_upto_region 9 with (fail)
      clear x0 y0 x1 y1 x2 y2 x3 y3 x4 y4 x5 y5 x6 y6
      generalize ((((w5.setCell ⟨W.heap.size, 3, none⟩ (.int .i64 mk)).setCell ⟨W.heap.size, 4, none⟩ (.string (bstr mv))).setCell ⟨W.heap.size, 5, none⟩ (.string (bstr mn))).setCell ⟨W.heap.size, 6, none⟩ (.slice q4 ms.length c4)) = w8 at HP8 HK8 HA8 HR8 ⊢
      have HWC := Lib.hid (want_any HP8.out HS8.out ⟨#[59]⟩ [59] rfl)
      go_wp2_with fail
      refine HWC.out.mono ?_
      rintro r w9 (⟨x, s9, v, ez, rfl, _, p9, k9⟩ | ⟨k, i, ez, rfl, kz⟩)
      ·have HP9 := Lib.hid p9
       have HK9 := Lib.hid (HK8.out.trans k9)
       have HA9 := Lib.hid (k9.arr HA8.out (by have := HLT.out; omega))
       have HEb : Hid (memberF ts s = .ok (n, 2, [], .mk mk mv mn ms) s9) := by
        show _ = _
        rw [HMF.out, HE0.out, PR.then_ok, HE2.out, PR.then_ok, HE4.out, PR.then_ok, HE5.out, PR.then_ok, ez]; rfl
       have HV9 : Hid (VM (W.heap.size + 1) (n, 2, [], .mk mk mv mn ms) w9 (.agg #[.string (bstr n), .int .i64 2, .slice none 0 0, .int .i64 mk, .string (bstr mv), .string (bstr mn), .slice q4 ms.length c4])) := ⟨_, rfl, _, _, _, _, _, rfl, RdA.nil _ _, HR8.out.kp k9 (by have := HLT.out; omega)⟩
       clear ez p9 k9 HWC
       obtain ⟨x0, y0, x1, y1, x2, y2, x3, y3, x4, y4, x5, y5, x6, y6⟩ := HA9.out.all7
       go_wp2_with fail
       have hk := kp_setM w9 W.heap.size (.string (bstr n)) (.int .i64 2) (.slice none 0 0) (.int .i64 mk) (.string (bstr mv)) (.string (bstr mn)) (.slice q4 ms.length c4)
       have hA := HA9.out.setM (.string (bstr n)) (.int .i64 2) (.slice none 0 0) (.int .i64 mk) (.string (bstr mv)) (.string (bstr mn)) (.slice q4 ms.length c4)
       exact bodyPost_ret (resM rfl hA rfl) rfl (.inl ⟨_, _, _, HEb.out, rfl, ((VM.kp HV9.out hk (Nat.lt_succ_self _)).low (Nat.le_succ _)), HP9.out.kp hk HLT.out HK9.out.2.2.2.1, HK9.out.andThen hk (Nat.le_refl _)⟩)
      ·have HKb := Lib.hid (HK8.out.trans kz)
       have HEb : Hid (memberF ts s = .bad k i) := by
        show _ = _
        rw [HMF.out, HE0.out, PR.then_ok, HE2.out, PR.then_ok, HE4.out, PR.then_ok, HE5.out, PR.then_ok, ez]; rfl
       clear ez kz
       go_wp2_with fail
       exact ⟨rfl, .inr ⟨k, i, HEb.out, rfl, HKb.out⟩⟩
     ·have HKb := Lib.hid (HK4.out.trans kz)
      have HEb : Hid (memberF ts s = .bad k i) := by
       show _ = _
       rw [HMF.out, HE0.out, PR.then_ok, HE2.out, PR.then_ok, HE4.out, PR.then_ok, ez]; rfl
      clear ez kz
      go_wp2_with fail
      exact ⟨rfl, .inr ⟨k, i, HEb.out, rfl, HKb.out⟩⟩
    ·have HKb := Lib.hid (HK3.out.trans kz)
     have HEb : Hid (memberF ts s = .bad k i) := by
      show _ = _
      rw [HMF.out, HE0.out, PR.then_ok, HE2.out, PR.then_ok, ez]; rfl
     clear ez kz
     go_wp2_with fail
     exact ⟨rfl, .inr ⟨k, i, HEb.out, rfl, HKb.out⟩⟩
   ·have HKb := Lib.hid (HK0.out.trans kz)
    have HEb : Hid (memberF ts s = .bad k i) := by
     show _ = _
     rw [HMF.out, HE0.out, PR.then_ok, ez]; rfl
    clear ez kz
    go_wp2_with fail
    exact ⟨rfl, .inr ⟨k, i, HEb.out, rfl, HKb.out⟩⟩
  ·have HKb := Lib.hid (HK1.out.trans kz)
   have HEb : Hid (memberF ts s = .bad k i) := by
    show _ = _
    rw [HMF.out, ez]; rfl
   clear ez kz
   go_wp2_with fail
   exact ⟨rfl, .inr ⟨k, i, HEb.out, rfl, HKb.out⟩⟩
end
end Go.Proofs.YteieimchleioaaaGreatDoor
/-
  parse's definition; rows of members and definitions in memory.
-/
namespace Go.Proofs.YteieimchleioaaaGreatDoor
open Go.ChangeShapes Go.WideShapes Go.ChangeAt Go.RowKit
set_option linter.unusedVariables false

/-- v is a slice that reads as the elements. -/
def RdK {α : Type} (K : Kd α) (P : Nat → Prop) (w : World) (xs : List α) (v : Value) : Prop := ∃ q c, v = .slice q xs.length c ∧ xs.length ≤ c ∧ (0 < xs.length → ∃ b o, q = some ⟨b, o, none⟩ ∧ P b ∧ ∃ cs, CellsK K P w xs cs ∧ ∀ j u, cs[j]? = some u → w.cell? ⟨b, o + j, none⟩ = some u)
section
variable {α : Type} {K : Kd α}
theorem RdK.keep {P : Nat → Prop} {w w' : World} {xs : List α} {v : Value} (hk : ∀ b, P b → ∀ n, w'.cell? ⟨b, n, none⟩ = w.cell? ⟨b, n, none⟩) (h : RdK K P w xs v) : RdK K P w' xs v := by
 obtain ⟨q, c, h1, h2, h3⟩ := h
 refine ⟨q, c, h1, h2, fun h0 => ?_⟩
 obtain ⟨b, o, h4, h5, cs, h6, h7⟩ := h3 h0
 exact ⟨b, o, h4, h5, cs, h6.keep hk, fun j u hj => (hk b h5 _).trans (h7 j u hj)⟩
theorem RdK.imp {P Q : Nat → Prop} {w : World} {xs : List α} {v : Value} (hi : ∀ b, P b → Q b) (h : RdK K P w xs v) : RdK K Q w xs v := by
 obtain ⟨q, c, h1, h2, h3⟩ := h
 refine ⟨q, c, h1, h2, fun h0 => ?_⟩
 obtain ⟨b, o, h4, h5, cs, h6, h7⟩ := h3 h0
 exact ⟨b, o, h4, hi b h5, cs, h6.imp hi, h7⟩
theorem RdK.nil (K : Kd α) (P : Nat → Prop) (w : World) : RdK K P w [] (.slice none 0 0) := ⟨none, 0, rfl, Nat.le_refl _, fun h => absurd h (Nat.lt_irrefl _)⟩
theorem PRow.rdK {base : Nat} {X : Nat → Prop} {w : World} {v : Value} {xs : List α} (h : PRow K base X w v xs) : RdK K (Bt base w.heap.size) w xs v := by
 obtain ⟨q, c, rfl⟩ := h.form
 obtain ⟨_, hc, hk⟩ := h.cells
 refine ⟨q, c, rfl, hc, fun h0 => ?_⟩
 obtain ⟨g, rfl, h1, h2, _, cs, h3, h4⟩ := hk h0
 exact ⟨g, 0, rfl, ⟨h1, h2⟩, cs, h3.imp fun b hb => ⟨hb.1, hb.2.1⟩, fun j u hj => by rw [Nat.zero_add]; exact h4 j u hj⟩
theorem RdK.kp {B g : Nat} {xs : List α} {w w' : World} {v : Value} (h : RdK K (Bt B w.heap.size) w xs v) (hk : Kp g w w') (hg : g < B) : RdK K (Bt B w'.heap.size) w' xs v :=
 (h.keep fun b hb n => World.cell?_of_block (hk.2.2.2.2 b hb.2 (by have := hb.1; omega))).imp fun b hb => ⟨hb.1, Nat.lt_of_lt_of_le hb.2 hk.2.2.2.1⟩
end
def rdDef (P : Nat → Prop) (w : World) (d : DefB) (cs : List Value) : Prop := ∃ v, cs = [.string (bstr d.1), v] ∧ RdK kdMem P w d.2 v
theorem Tryz.infoDef : (Tryz.prog.info? 44).map (fun i => (i.zero, i.size, i.bytes)) = some (some (.agg #[.string ByteArray.empty, .slice none 0 0]), 2, 40) := by kernel_rfl
def kdDef : Kd DefB where
 sty := 23
 ty := 44
 z := .agg #[.string ByteArray.empty, .slice none 0 0]
 size := 2
 bytes := 40
 und := Tryz.underlying23
 info := info_parts Tryz.infoDef
 zs := rfl
 pos := by decide
 small := by decide
 rd := rdDef
 len := fun ⟨_, h, _⟩ => by rw [h]; rfl
 ones := fun {P w x cs} ⟨v, h, h1⟩ u hu => by
  obtain ⟨q, c, rfl, _⟩ := h1
  rw [h] at hu
  simp only [List.mem_cons, List.not_mem_nil, or_false] at hu
  rcases hu with rfl | rfl <;> rfl
 keep := fun hk ⟨v, h, h1⟩ => ⟨v, h, h1.keep hk⟩
 imp := fun hi ⟨v, h, h1⟩ => ⟨v, h, h1.imp hi⟩
def VD (B : Nat) (d : DefB) (w : World) (v : Value) : Prop := ∃ u, v = .agg #[.string (bstr d.1), u] ∧ RdK kdMem (Bt B w.heap.size) w d.2 u
theorem VD.kp {B g : Nat} {d : DefB} {w w' : World} {v : Value} (h : VD B d w v) (hk : Kp g w w') (hg : g < B) : VD B d w' v := by
 obtain ⟨u, h1, h2⟩ := h
 exact ⟨u, h1, h2.kp hk hg⟩
theorem VD.low {B B' : Nat} {d : DefB} {w : World} {v : Value} (h : VD B d w v) (hb : B' ≤ B) : VD B' d w v := by
 obtain ⟨u, h1, h2⟩ := h
 exact ⟨u, h1, h2.imp fun b hb' => ⟨Nat.le_trans hb hb'.1, hb'.2⟩⟩
theorem VD.form {B : Nat} {n : List UInt8} {l : List MemB} {w : World} {v : Value} (h : VD B (n, l) w v) : ∃ q c, v = .agg #[.string (bstr n), .slice q l.length c] ∧ rdDef (Bt B w.heap.size) w (n, l) [.string (bstr n), .slice q l.length c] := by
 obtain ⟨u, rfl, h2⟩ := h
 obtain ⟨q, c, rfl, h3⟩ := h2
 exact ⟨q, c, rfl, _, rfl, q, c, rfl, h3⟩
theorem VM.form {B : Nat} {n : List UInt8} {k : Int} {l : List AlB} {mk : Int} {mv mn : List UInt8} {ms : List Ex} {w : World} {v : Value} (h : VM B (n, k, l, .mk mk mv mn ms) w v) :
  ∃ q5 c5 q4 c4, v = .agg #[.string (bstr n), .int .i64 k, .slice q5 l.length c5, .int .i64 mk, .string (bstr mv), .string (bstr mn), .slice q4 ms.length c4] ∧ rdMem (Bt B w.heap.size) w (n, k, l, .mk mk mv mn ms) [.string (bstr n), .int .i64 k, .slice q5 l.length c5, .int .i64 mk, .string (bstr mv), .string (bstr mn), .slice q4 ms.length c4] := by
 obtain ⟨cs, rfl, vt, v3, v4, v5, v6, rfl, ra, re⟩ := h
 obtain ⟨q4, c4, h3, _, _⟩ := re.form
 unfold exv at h3
 dsimp only [Ex.kind, Ex.via, Ex.nm, Ex.kids] at h3
 simp only [Value.agg.injEq, Array.mk.injEq, List.cons.injEq, and_true] at h3
 obtain ⟨rfl, rfl, rfl, rfl⟩ := h3
 have ra2 := ra
 obtain ⟨q5, c5, rfl, _⟩ := ra
 exact ⟨q5, c5, q4, c4, rfl, _, _, _, _, _, rfl, ra2, re⟩
theorem Arr.setD {w : World} {t : TypeId} {g : Nat} {y0 y1 : Value} (h : Arr w t g [y0, y1]) (x0 x1 : Value) : Arr ((w.setCell ⟨g, 0, none⟩ x0).setCell ⟨g, 1, none⟩ x1) t g [x0, x1] := ((h.set 0 x0).set 1 x1)
theorem kp_setD (w : World) (g : Nat) (x0 x1 : Value) : Kp g w ((w.setCell ⟨g, 0, none⟩ x0).setCell ⟨g, 1, none⟩ x1) := (((Kp.of (pb := g) (Below.refl _ _)).set 0 x0).set 1 x1)
theorem resD {fn : Func} {p : Tmp} (h : fn.results = #[.cell p 44]) {tmps : Array Value} {w : World} {g : Nat} {x0 x1 : Value} (hA : Arr w 44 g [x0, x1]) (hp : tmps.getD p undef = .pointer (some ⟨g, 0, none⟩)) :
  (results fn tmps).run Tryz.prog w = .ok (.agg #[x0, x1]) w :=
 results_cell_row h tmps w g 44 #[x0, x1] (0, 0) _ hp hA Tryz.underlying44 rfl (by kernel_rfl)
theorem membersF_end {ts : List Tok} {n : Nat} {acc : List MemB} {s : PS} (h1 : ¬ txt ts s.i = wRelB) (h2 : ¬ txt ts s.i = wPermB) : membersF ts (n + 1) acc s = .ok acc s := by rw [membersF, if_neg (fun h => h.elim h1 h2)]
theorem membersF_many {ts : List Tok} {n : Nat} {acc : List MemB} {s : PS} (h : txt ts s.i = wRelB ∨ txt ts s.i = wPermB) (hl : ¬ acc.length < 64) : membersF ts (n + 1) acc s = .bad 15 s.i := by rw [membersF, if_pos h, if_neg hl]
theorem membersF_bad {ts : List Tok} {n : Nat} {acc : List MemB} {s : PS} {k i : Nat} (h : txt ts s.i = wRelB ∨ txt ts s.i = wPermB) (hl : acc.length < 64) (he : memberF ts s = .bad k i) : membersF ts (n + 1) acc s = .bad k i := by rw [membersF, if_pos h, if_pos hl, he]; rfl
theorem membersF_ok {ts : List Tok} {n : Nat} {acc : List MemB} {s s1 : PS} {m : MemB} (h : txt ts s.i = wRelB ∨ txt ts s.i = wPermB) (hl : acc.length < 64) (he : memberF ts s = .ok m s1) : membersF ts (n + 1) acc s = membersF ts n (acc ++ [m]) s1 := by rw [membersF, if_pos h, if_pos hl, he]; rfl
def finD (ts : List Tok) (n : List UInt8) (r : PR (List MemB)) : PR DefB := r.then fun l s3 => (wantF ts [125] s3).then fun _ s4 => .ok (n, l) s4
theorem defF_eq {ts : List Tok} {s s0 s1 s2 : PS} {n : List UInt8} (h0 : wantF ts wDefB s = .ok () s0) (h1 : nameF ts s0 = .ok n s1) (h2 : wantF ts [123] s1 = .ok () s2) : defF ts s = finD ts n (membersF ts 65 [] s2) := by
 unfold defF
 rw [h0, PR.then_ok, h1, PR.then_ok, h2, PR.then_ok]; rfl
theorem keeps_member {ts : List Tok} (h : OkTs ts) : ∀ s m s', s.i < ts.length → memberF ts s = .ok m s' → s'.i < ts.length := by
 intro s m s' hi e
 by_cases hr : txt ts s.i = wRelB
 ·rw [memberF_rel hr] at e
  obtain ⟨n, s1, e1, e⟩ := then_some e
  obtain ⟨_, s2, e2, e⟩ := then_some e
  obtain ⟨l, s3, e3, e⟩ := then_some e
  obtain ⟨_, s4, e4, e⟩ := then_some e
  cases e
  have k1 := (keeps_name h _ _ _ (h.step (by rw [hr]; decide)) e1).1
  have k2 := (keeps_want h (by decide) _ _ _ k1 e2).1
  have k3 := (keeps_types h _ _ _ _ _ k2 e3).1
  exact (keeps_want h (by decide) _ _ _ k3 e4).1
 ·rw [memberF_perm hr] at e
  obtain ⟨_, s0, e0, e⟩ := then_some e
  obtain ⟨n, s1, e1, e⟩ := then_some e
  obtain ⟨_, s2, e2, e⟩ := then_some e
  obtain ⟨x, s3, e3, e⟩ := then_some e
  obtain ⟨_, s4, e4, e⟩ := then_some e
  cases e
  have k0 := (keeps_want h (by decide) _ _ _ hi e0).1
  have k1 := (keeps_name h _ _ _ k0 e1).1
  have k2 := (keeps_want h (by decide) _ _ _ k1 e2).1
  have k3 := keeps_expr h k2 e3
  exact (keeps_want h (by decide) _ _ _ k3 e4).1
/-- How long the slice in a cell is: for a loop's measure. -/
def mlen (g off : Nat) (w : World) : Nat := match w.cell? ⟨g, off, none⟩ with
 | some (.slice _ n _) => n
 | _ => 0
theorem mlen_arr {w : World} {t : TypeId} {g : Nat} {cs : List Value} {q : Option Addr} {n c : Nat} (h : Arr w t g cs) (off : Nat) (hc : cs[off]? = some (.slice q n c)) : mlen g off w = n := by
 unfold mlen
 rw [h.cell off, hc]
section
variable {W : World} {pb tb c : Nat} {ts : List Tok} {s : PS}
set_option maxRecDepth 100000 in
set_option maxHeartbeats 2000000 in
theorem def_any (ho : OkTs ts) (h : PP W pb tb c ts s) (hi : s.i < ts.length) : Calls Tryz.prog 35 #[.pointer (some ⟨pb, 0, none⟩)] W (QR pb tb c ts W (defF ts s) (VD W.heap.size)) := by
 have hb0 : Below W.heap.size W (W.alloc (.cells #[.string ⟨#[]⟩, .slice none 0 0] 44)) := (Below.refl _ _).alloc (Nat.le_refl _) _
 have HP0 := Lib.hid (h.later hb0)
 have HK0 := Lib.hid (Kp.of (pb := pb) hb0)
 have HA0 : Hid (Arr (W.alloc (.cells #[.string ⟨#[]⟩, .slice none 0 0] 44)) 44 W.heap.size [.string ⟨#[]⟩, .slice none 0 0]) := Arr.new' _ _ _ _ rfl
 have HLT : Hid (pb < W.heap.size) := h.1.lt
 have HH := Lib.hid hi
 have HO := Lib.hid ho
 have HW0 := Lib.hid (want_any HP0.out hi ⟨#[100, 101, 102, 105, 110, 105, 116, 105, 111, 110]⟩ wDefB rfl)
 clear h hi hb0 ho
 go_enter Tryz.func35, Tryz.ntmps35
 go_wp2_with fail
 refine HW0.out.mono ?_
 rintro r w1 (⟨x, s0, v, e0, rfl, _, p0, k0⟩ | ⟨k, i, ez, rfl, kz⟩)
 ·have HE0 := Lib.hid e0
  have HS0 : Hid (s0.i < ts.length) := (keeps_want HO.out (by decide) _ _ _ HH.out e0).1
  have HP1 := Lib.hid p0
  have HK1 := Lib.hid (HK0.out.trans k0)
  have HA1 := Lib.hid (k0.arr HA0.out (by have := HLT.out; omega))
  have HN1 := Lib.hid (name_any HP1.out HS0.out)
  clear e0 p0 k0 HW0 HP0 HK0 HA0
  go_wp2_with fail
  refine HN1.out.mono ?_
  rintro r w2 (⟨n, s2, v, e2, rfl, rfl, p2, k2⟩ | ⟨k, i, ez, rfl, kz⟩)
  ·have HE2 := Lib.hid e2
   have HS2 : Hid (s2.i < ts.length) := (keeps_name HO.out _ _ _ HS0.out e2).1
   have HA2 := Lib.hid (k2.arr HA1.out (by have := HLT.out; omega))
   have HP2 : Hid (PP (w2.setCell ⟨W.heap.size, 0, none⟩ (.string (bstr n))) pb tb c ts s2) := p2.box HLT.out _ _
   have HK2 := Lib.hid ((HK1.out.trans k2).box (Nat.le_refl _) 0 (.string (bstr n)))
   have HA2' : Hid (Arr (w2.setCell ⟨W.heap.size, 0, none⟩ (.string (bstr n))) 44 W.heap.size [.string (bstr n), .slice none 0 0]) := HA2.out.set 0 (.string (bstr n))
   have HW4 := Lib.hid (want_any HP2.out HS2.out ⟨#[123]⟩ [123] rfl)
   clear e2 p2 k2 HN1
   obtain ⟨x0, y0, x1, y1⟩ := HA2.out.all2
   go_wp2_with fail
   clear x0 y0 x1 y1
   refine HW4.out.mono ?_
   rintro r w3 (⟨x, s3, v, e3, rfl, _, p3, k3⟩ | ⟨k, i, ez, rfl, kz⟩)
   ·have HS3 : Hid (s3.i < ts.length) := (keeps_want HO.out (by decide) _ _ _ HS2.out e3).1
    have HP3 := Lib.hid p3
    have HA3 := Lib.hid (k3.arr HA2'.out (by have := HLT.out; omega))
    have HK3 := Lib.hid (HK2.out.trans k3)
    have HE3 := Lib.hid (defF_eq HE0.out HE2.out e3)
    clear e3 p3 k3 HW4 HE0 HE2 HA2 HA2' HP2 HK2 HA1 HP1 HK1
    go_wp2_with fail
    go_loopw [15] (fun _ wr => ∃ (m : Nat) (acc : List MemB) (s4 : PS) (q : Option Addr) (cc : Nat), acc.length + m = 65 ∧ acc.length ≤ 64 ∧ Hid (PRow kdMem (W.heap.size + 1) (fun _ => False) wr (.slice q acc.length cc) acc) ∧ Hid (Arr wr 44 W.heap.size [.string (bstr n), .slice q acc.length cc]) ∧ Hid (PP wr pb tb c ts s4) ∧ Hid (s4.i < ts.length) ∧ Hid (Kp pb W wr) ∧ Hid (defF ts s = finD ts n (membersF ts m acc s4))) (fun _ wr => 65 - mlen W.heap.size 1 wr)
    case atStart => exact ⟨65, [], s3, none, 0, rfl, by simp, PRow.nil _ _ _ _, HA3.out, HP3.out, HS3.out, HK3.out, HE3.out⟩
    case round =>
     obtain ⟨m, acc, s4, q, cc, hm, h64, HRW, HA, HP, HS4, HK, HE⟩ := hrel
     obtain ⟨m, rfl⟩ : ∃ j, m = j + 1 := ⟨m - 1, by omega⟩
     have HM := Lib.hid hm
     have HI1 := Lib.hid (is_any HP.out HS4.out ⟨#[114, 101, 108, 97, 116, 105, 111, 110]⟩ wRelB rfl)
     obtain ⟨d1, hd1⟩ : ∃ d, d = decide (txt ts s4.i = wRelB) := ⟨_, rfl⟩
     have HD1 := Lib.hid hd1
     rw [← hd1] at HI1
     clear hd1
     go_wp2_with fail
     refine HI1.out.mono ?_
     rintro r w5 ⟨rfl, b5⟩
     have HRW5 := Lib.hid (HRW.out.later b5)
     have HA5 := Lib.hid (HA.out.later b5)
     have HP5 := Lib.hid (HP.out.later b5)
     have HK5 := Lib.hid (HK.out.trans (Kp.of (pb := pb) b5))
     clear b5 HI1
     cases d1 with
     | true =>
      have HT : Hid (txt ts s4.i = wRelB ∨ txt ts s4.i = wPermB) := .inl (of_decide_eq_true HD1.out.symm)
      have HRW6 := Lib.hid HRW5.out
      have HA6 := Lib.hid HA5.out
      have HP6 := Lib.hid HP5.out
      have HK6 := Lib.hid HK5.out
      clear HRW5 HA5 HP5 HK5
      generalize w5 = w6 at HRW6 HA6 HP6 HK6 ⊢
      obtain ⟨x0, y0, x1, y1⟩ := HA6.out.all2
      by_cases h6 : acc.length < 64
      ·have hl1 : (acc.length : Int) < 64 := by omega
       have HA64 := Lib.hid h6
       have HAC : Hid (acc.length + 1 ≤ 200000) := by show _ ≤ _; omega
       clear h6
       go_wp2_with fail
       refine (need_t 15).mono ?_
       rintro r w6 ⟨rfl, rfl⟩
       go_upto_region 6 with (fail)
       clear x0 y0 x1 y1
       refine wp_region_held_drew (S := fun _ => True) (by kernel_rfl) trivial (fun hHeld => ?_)
       try simp only [Act.put]
       have hb7 : Below w6.heap.size w6 w6.drew := (Below.refl _ _).drew
       have HP7 := Lib.hid (HP6.out.later hb7)
       have HK7 := Lib.hid (HK6.out.trans (Kp.of (pb := pb) hb7))
       have HA7 := Lib.hid (HA6.out.later hb7)
       have HRW7 := Lib.hid (HRW6.out.later hb7)
       clear hb7
       generalize w6.drew = w7 at HP7 HK7 HA7 HRW7 ⊢
       have HN7 := Lib.hid (member_any HO.out HP7.out HS4.out)
       have HGL : Hid (W.heap.size < w7.heap.size) := HA7.out.lt
       have HBL : Hid (∀ b, (Value.slice q acc.length cc).ownBlock = some b → b < w7.heap.size) := fun b hb => by obtain ⟨_, h, _⟩ := HRW7.out; exact (h.lt b hb).2
       refine wpAnyH_take (i := 0) (oi := ⟨some 22, _, _, _, _, _⟩) (v := .pointer (some ⟨W.heap.size, 1, none⟩)) rfl (by kernel_rfl) (by kernel_rfl) (by kernel_rfl) (fun _ _ _ h => h) (.inl ⟨by rfl, fun w' hSw => ?_⟩) hHeld ?_
       focus (skip; clear hHeld; go_simp)
       try simp only [Act.put, List.setIfInBounds_toArray, List.set_cons_zero, List.set_cons_succ]
       refine wpAnyH_take (i := 2) (oi := ⟨some 24, _, _, _, _, _⟩) (v := .pointer (some ⟨pb, 0, none⟩)) rfl (by kernel_rfl) (by kernel_rfl) (by kernel_rfl) (fun _ _ _ h => h) (.inl ⟨by rfl, fun w' hSw => ?_⟩) hHeld ?_
       focus (skip; clear hHeld; go_simp)
       try simp only [Act.put, List.setIfInBounds_toArray, List.set_cons_zero, List.set_cons_succ]
       refine wpAnyH_ready (rs := [1, 3]) (by kernel_rfl) (by simp) ?_
       refine AllReadyH.cons (o := ⟨some 23, _, _, _, _, _⟩) rfl (fun K' hK' => ?_) (AllReadyH.cons (o := ⟨some 25, _, _, _, _, _⟩) rfl (fun K' hK' => ?_) AllReadyH.nil)
       ·have x0 := HA7.out.cell 0
        have y0 := HA7.out.free 0
        have x1 := HA7.out.cell 1
        have y1 := HA7.out.free 1
        simp only [List.getElem?_cons_zero, List.getElem?_cons_succ] at x0 x1
        go_simp
        clear x0 y0 x1 y1
        refine hK'.out _ _ trivial (fun _ => ?_)
        clear hK' K'
        try simp only [Act.put, List.setIfInBounds_toArray, List.set_cons_zero, List.set_cons_succ]
        refine wpAnyH_ready (rs := [3]) (by kernel_rfl) (by simp) ?_
        refine AllReadyH.cons (o := ⟨some 25, _, _, _, _, _⟩) rfl (fun K' hK' => ?_) AllReadyH.nil
        refine stepw_calls (by rfl) ?_ HN7.out (fun w => QR.grown w) ?_ ?_
        focus go_simp
        ·rintro ch w8 hpan
         obtain ⟨k, i, e8, rfl, k8⟩ := hpan.pan
         have HK8 := Lib.hid (HK7.out.trans k8)
         have HE2 : Hid (defF ts s = .bad k i) := by
          show _ = _
          rw [HE.out, membersF_bad HT.out HA64.out e8]; rfl
         clear e8 k8 hpan
         exact ⟨rfl, .inr ⟨k, i, HE2.out, rfl, HK8.out⟩⟩
        rintro v w8 hret
        obtain ⟨e, s8, e8, r8, p8, k8⟩ := hret.ret
        have HE8 := Lib.hid e8
        have HS8 : Hid (s8.i < ts.length) := keeps_member HO.out _ _ _ HS4.out e8
        obtain ⟨n1, n2, n3, mk, mv, mn, ms⟩ := e
        obtain ⟨q5, c5, q4, c4, rfl, r8b⟩ := VM.form r8
        have HR8 := Lib.hid r8b
        clear r8 r8b
        have HRW8 := Lib.hid (HRW7.out.turn (w' := w8) k8.2.2.2.1 (fun b hb hl _ => k8.2.2.2.2 b hl (by have := HLT.out; omega)))
        have HA8 := Lib.hid (k8.arr HA7.out (by have := HLT.out; omega))
        have HP8 := Lib.hid p8
        have HK8 := Lib.hid (HK7.out.trans k8)
        clear e8 p8 k8 hret
        refine hK'.out _ _ trivial (fun _ => ?_)
        clear hK' K'
        try simp only [Act.put, List.setIfInBounds_toArray, List.set_cons_zero, List.set_cons_succ]
        refine wpAnyH_ready (rs := [4]) (by kernel_rfl) (by simp) ?_
        refine AllReadyH.cons (o := ⟨some 26, _, _, _, _, _⟩) rfl (fun K' hK' => ?_) AllReadyH.nil
        go_simp
        refine hK'.out _ _ trivial (fun _ => ?_)
        clear hK' K'
        try simp only [Act.put, List.setIfInBounds_toArray, List.set_cons_zero, List.set_cons_succ]
        have HB9 : Hid (Below w8.heap.size w8 (w8.alloc (.cells #[.string (bstr n1), .int .i64 n2, .slice q5 n3.length c5, .int .i64 mk, .string (bstr mv), .string (bstr mn), .slice q4 ms.length c4] 72))) := (Below.refl _ _).alloc (Nat.le_refl _) _
        have HRW9 := Lib.hid (HRW8.out.later HB9.out)
        have HA9 := Lib.hid (HA8.out.later HB9.out)
        have HP9 := Lib.hid (HP8.out.later HB9.out)
        have HK9 := Lib.hid (HK8.out.trans (Kp.of HB9.out))
        have HE9 : Hid (Arr (w8.alloc (.cells #[.string (bstr n1), .int .i64 n2, .slice q5 n3.length c5, .int .i64 mk, .string (bstr mv), .string (bstr mn), .slice q4 ms.length c4] 72)) 72 w8.heap.size [.string (bstr n1), .int .i64 n2, .slice q5 n3.length c5, .int .i64 mk, .string (bstr mv), .string (bstr mn), .slice q4 ms.length c4]) := Arr.new' _ _ _ _ rfl
        have HR9 : Hid (kdMem.rd (SubX (W.heap.size + 1) (fun _ => False) (w8.alloc (.cells #[.string (bstr n1), .int .i64 n2, .slice q5 n3.length c5, .int .i64 mk, .string (bstr mv), .string (bstr mn), .slice q4 ms.length c4] 72)) (.slice q acc.length cc)) (w8.alloc (.cells #[.string (bstr n1), .int .i64 n2, .slice q5 n3.length c5, .int .i64 mk, .string (bstr mv), .string (bstr mn), .slice q4 ms.length c4] 72)) (n1, n2, n3, .mk mk mv mn ms) [.string (bstr n1), .int .i64 n2, .slice q5 n3.length c5, .int .i64 mk, .string (bstr mv), .string (bstr mn), .slice q4 ms.length c4]) := kdMem.imp (fun b hb => ⟨by have := HGL.out; have := hb.1; omega, Nat.lt_of_lt_of_le hb.2 HB9.out.size, fun e => by have h1 := (HBL.out b e.symm); have := hb.1; omega, fun h => h⟩) (kdMem.keep (fun b hb n => HB9.out.cell (p := ⟨b, n, none⟩) hb.2) HR8.out)
        generalize w8.alloc (.cells #[.string (bstr n1), .int .i64 n2, .slice q5 n3.length c5, .int .i64 mk, .string (bstr mv), .string (bstr mn), .slice q4 ms.length c4] 72) = w9 at HRW9 HA9 HP9 HK9 HE9 HR9 ⊢
        clear HB9
        refine wpAnyH_ready (rs := [5]) (by kernel_rfl) (by simp) ?_
        refine AllReadyH.cons (o := ⟨some 27, _, _, _, _, _⟩) rfl (fun K' hK' => ?_) AllReadyH.nil
        refine step_row (K := kdMem) rfl (.tmp 23) (.tmp 26) rfl rfl HRW9.out rfl HE9.out HR9.out HAC.out HA9.out.lt (fun b h => h.elim) ?_
        intro v10 w10 r10 g10 o10
        have HP10 := Lib.hid (HP9.out.below (B := W.heap.size) ((Below.refl _ _).grown g10 (Nat.le_of_lt HA9.out.lt) (fun k hk => Nat.le_of_succ_le (o10 k hk).1)) HLT.out)
        have HK10 := Lib.hid (HK9.out.grown g10 (fun k hk => Nat.le_of_succ_le (o10 k hk).1))
        have HA10 : Hid (Arr w10 44 W.heap.size [.string (bstr n), .slice q acc.length cc]) := (g10.block _ HA9.out.lt (fun e => absurd (o10 _ e.symm).1 (by omega))).trans HA9.out
        have HRW10 := Lib.hid r10
        obtain ⟨q10, c10, hv10⟩ := r10.form
        rw [List.length_append, List.length_singleton] at hv10
        subst hv10
        clear r10 g10 o10
        refine hK'.out _ _ trivial (fun _ => ?_)
        clear hK' K'
        try simp only [Act.put, List.setIfInBounds_toArray, List.set_cons_zero, List.set_cons_succ]
        refine wpAnyH_take (i := 6) (oi := ⟨some 28, _, _, _, _, _⟩) (v := .pointer (some ⟨W.heap.size, 1, none⟩)) rfl (by kernel_rfl) (by kernel_rfl) (by kernel_rfl) (fun _ _ _ h => h) (.inl ⟨by rfl, fun w' hSw => ?_⟩) hHeld ?_
        focus (skip; clear hHeld; go_simp)
        try simp only [Act.put, List.setIfInBounds_toArray, List.set_cons_zero, List.set_cons_succ]
        refine wpAnyH_ready (rs := [7]) (by kernel_rfl) (by simp) ?_
        refine AllReadyH.cons (o := ⟨none, _, _, _, _, _⟩) rfl (fun K' hK' => ?_) AllReadyH.nil
        obtain ⟨x0, y0, x1, y1⟩ := HA10.out.all2
        go_simp
        clear x0 y0 x1 y1
        refine hK'.out _ _ trivial (fun _ => ?_)
        clear hK' K'
        try simp only [Act.put, List.setIfInBounds_toArray, List.set_cons_zero, List.set_cons_succ]
        have HA11 : Hid (Arr (w10.setCell ⟨W.heap.size, 1, none⟩ (.slice q10 (acc.length + 1) c10)) 44 W.heap.size [.string (bstr n), .slice q10 (acc.length + 1) c10]) := HA10.out.set 1 _
        have HRW11 := Lib.hid (HRW10.out.box (.inl (Nat.lt_succ_self _)) 1 (.slice q10 (acc.length + 1) c10))
        have HP11 := Lib.hid (HP10.out.box HLT.out 1 (.slice q10 (acc.length + 1) c10))
        have HK11 := Lib.hid (HK10.out.box (Nat.le_refl _) 1 (.slice q10 (acc.length + 1) c10))
        refine wpAnyH_done (by kernel_rfl) ?_ _
        clear HRW10 HA10 HP10 HK10 HRW9 HA9 HP9 HK9 HE9 HR9 HRW8 HA8 HP8 HK8 HR8
        generalize (w10.setCell ⟨W.heap.size, 1, none⟩ (.slice q10 (acc.length + 1) c10)) = w11 at HA11 HRW11 HP11 HK11 ⊢
        have HE11 : Hid (defF ts s = finD ts n (membersF ts m (acc ++ [(n1, n2, n3, Ex.mk mk mv mn ms)]) s8)) := by
         show _ = _
         rw [HE.out, membersF_ok HT.out HA64.out HE8.out]
        go_wp2_with fail
        go_roundw
        case rel => exact ⟨m, acc ++ [(n1, n2, n3, Ex.mk mk mv mn ms)], s8, q10, c10, by rw [List.length_append, List.length_singleton]; omega, by rw [List.length_append, List.length_singleton]; have := HA64.out; omega, by rw [List.length_append, List.length_singleton]; exact HRW11.out, by rw [List.length_append, List.length_singleton]; exact HA11.out, HP11.out, HS8.out, HK11.out, HE11.out⟩
        case measure => rw [mlen_arr HA11.out 1 rfl, mlen_arr HA.out 1 rfl]; have := HA64.out; omega
       ·refine stepw_calls (by rfl) ?_ HN7.out (fun w => QR.grown w) ?_ ?_
        focus go_simp
        ·rintro ch w8 hpan
         obtain ⟨k, i, e8, rfl, k8⟩ := hpan.pan
         have HK8 := Lib.hid (HK7.out.trans k8)
         have HE2 : Hid (defF ts s = .bad k i) := by
          show _ = _
          rw [HE.out, membersF_bad HT.out HA64.out e8]; rfl
         clear e8 k8 hpan
         exact ⟨rfl, .inr ⟨k, i, HE2.out, rfl, HK8.out⟩⟩
        rintro v w8 hret
        obtain ⟨e, s8, e8, r8, p8, k8⟩ := hret.ret
        have HE8 := Lib.hid e8
        have HS8 : Hid (s8.i < ts.length) := keeps_member HO.out _ _ _ HS4.out e8
        obtain ⟨n1, n2, n3, mk, mv, mn, ms⟩ := e
        obtain ⟨q5, c5, q4, c4, rfl, r8b⟩ := VM.form r8
        have HR8 := Lib.hid r8b
        clear r8 r8b
        have HRW8 := Lib.hid (HRW7.out.turn (w' := w8) k8.2.2.2.1 (fun b hb hl _ => k8.2.2.2.2 b hl (by have := HLT.out; omega)))
        have HA8 := Lib.hid (k8.arr HA7.out (by have := HLT.out; omega))
        have HP8 := Lib.hid p8
        have HK8 := Lib.hid (HK7.out.trans k8)
        clear e8 p8 k8 hret
        refine hK'.out _ _ trivial (fun _ => ?_)
        clear hK' K'
        try simp only [Act.put, List.setIfInBounds_toArray, List.set_cons_zero, List.set_cons_succ]
        refine wpAnyH_ready (rs := [1, 4]) (by kernel_rfl) (by simp) ?_
        refine AllReadyH.cons (o := ⟨some 23, _, _, _, _, _⟩) rfl (fun K' hK' => ?_) (AllReadyH.cons (o := ⟨some 26, _, _, _, _, _⟩) rfl (fun K' hK' => ?_) AllReadyH.nil)
        ·have x0 := HA8.out.cell 0
         have y0 := HA8.out.free 0
         have x1 := HA8.out.cell 1
         have y1 := HA8.out.free 1
         simp only [List.getElem?_cons_zero, List.getElem?_cons_succ] at x0 x1
         go_simp
         clear x0 y0 x1 y1
         refine hK'.out _ _ trivial (fun _ => ?_)
         clear hK' K'
         try simp only [Act.put, List.setIfInBounds_toArray, List.set_cons_zero, List.set_cons_succ]
         refine wpAnyH_ready (rs := [4]) (by kernel_rfl) (by simp) ?_
         refine AllReadyH.cons (o := ⟨some 26, _, _, _, _, _⟩) rfl (fun K' hK' => ?_) AllReadyH.nil
         go_simp
         refine hK'.out _ _ trivial (fun _ => ?_)
         clear hK' K'
         try simp only [Act.put, List.setIfInBounds_toArray, List.set_cons_zero, List.set_cons_succ]
         have HB9 : Hid (Below w8.heap.size w8 (w8.alloc (.cells #[.string (bstr n1), .int .i64 n2, .slice q5 n3.length c5, .int .i64 mk, .string (bstr mv), .string (bstr mn), .slice q4 ms.length c4] 72))) := (Below.refl _ _).alloc (Nat.le_refl _) _
         have HRW9 := Lib.hid (HRW8.out.later HB9.out)
         have HA9 := Lib.hid (HA8.out.later HB9.out)
         have HP9 := Lib.hid (HP8.out.later HB9.out)
         have HK9 := Lib.hid (HK8.out.trans (Kp.of HB9.out))
         have HE9 : Hid (Arr (w8.alloc (.cells #[.string (bstr n1), .int .i64 n2, .slice q5 n3.length c5, .int .i64 mk, .string (bstr mv), .string (bstr mn), .slice q4 ms.length c4] 72)) 72 w8.heap.size [.string (bstr n1), .int .i64 n2, .slice q5 n3.length c5, .int .i64 mk, .string (bstr mv), .string (bstr mn), .slice q4 ms.length c4]) := Arr.new' _ _ _ _ rfl
         have HR9 : Hid (kdMem.rd (SubX (W.heap.size + 1) (fun _ => False) (w8.alloc (.cells #[.string (bstr n1), .int .i64 n2, .slice q5 n3.length c5, .int .i64 mk, .string (bstr mv), .string (bstr mn), .slice q4 ms.length c4] 72)) (.slice q acc.length cc)) (w8.alloc (.cells #[.string (bstr n1), .int .i64 n2, .slice q5 n3.length c5, .int .i64 mk, .string (bstr mv), .string (bstr mn), .slice q4 ms.length c4] 72)) (n1, n2, n3, .mk mk mv mn ms) [.string (bstr n1), .int .i64 n2, .slice q5 n3.length c5, .int .i64 mk, .string (bstr mv), .string (bstr mn), .slice q4 ms.length c4]) := kdMem.imp (fun b hb => ⟨by have := HGL.out; have := hb.1; omega, Nat.lt_of_lt_of_le hb.2 HB9.out.size, fun e => by have h1 := (HBL.out b e.symm); have := hb.1; omega, fun h => h⟩) (kdMem.keep (fun b hb n => HB9.out.cell (p := ⟨b, n, none⟩) hb.2) HR8.out)
         generalize w8.alloc (.cells #[.string (bstr n1), .int .i64 n2, .slice q5 n3.length c5, .int .i64 mk, .string (bstr mv), .string (bstr mn), .slice q4 ms.length c4] 72) = w9 at HRW9 HA9 HP9 HK9 HE9 HR9 ⊢
         clear HB9
         refine wpAnyH_ready (rs := [5]) (by kernel_rfl) (by simp) ?_
         refine AllReadyH.cons (o := ⟨some 27, _, _, _, _, _⟩) rfl (fun K' hK' => ?_) AllReadyH.nil
         refine step_row (K := kdMem) rfl (.tmp 23) (.tmp 26) rfl rfl HRW9.out rfl HE9.out HR9.out HAC.out HA9.out.lt (fun b h => h.elim) ?_
         intro v10 w10 r10 g10 o10
         have HP10 := Lib.hid (HP9.out.below (B := W.heap.size) ((Below.refl _ _).grown g10 (Nat.le_of_lt HA9.out.lt) (fun k hk => Nat.le_of_succ_le (o10 k hk).1)) HLT.out)
         have HK10 := Lib.hid (HK9.out.grown g10 (fun k hk => Nat.le_of_succ_le (o10 k hk).1))
         have HA10 : Hid (Arr w10 44 W.heap.size [.string (bstr n), .slice q acc.length cc]) := (g10.block _ HA9.out.lt (fun e => absurd (o10 _ e.symm).1 (by omega))).trans HA9.out
         have HRW10 := Lib.hid r10
         obtain ⟨q10, c10, hv10⟩ := r10.form
         rw [List.length_append, List.length_singleton] at hv10
         subst hv10
         clear r10 g10 o10
         refine hK'.out _ _ trivial (fun _ => ?_)
         clear hK' K'
         try simp only [Act.put, List.setIfInBounds_toArray, List.set_cons_zero, List.set_cons_succ]
         refine wpAnyH_take (i := 6) (oi := ⟨some 28, _, _, _, _, _⟩) (v := .pointer (some ⟨W.heap.size, 1, none⟩)) rfl (by kernel_rfl) (by kernel_rfl) (by kernel_rfl) (fun _ _ _ h => h) (.inl ⟨by rfl, fun w' hSw => ?_⟩) hHeld ?_
         focus (skip; clear hHeld; go_simp)
         try simp only [Act.put, List.setIfInBounds_toArray, List.set_cons_zero, List.set_cons_succ]
         refine wpAnyH_ready (rs := [7]) (by kernel_rfl) (by simp) ?_
         refine AllReadyH.cons (o := ⟨none, _, _, _, _, _⟩) rfl (fun K' hK' => ?_) AllReadyH.nil
         obtain ⟨x0, y0, x1, y1⟩ := HA10.out.all2
         go_simp
         clear x0 y0 x1 y1
         refine hK'.out _ _ trivial (fun _ => ?_)
         clear hK' K'
         try simp only [Act.put, List.setIfInBounds_toArray, List.set_cons_zero, List.set_cons_succ]
         have HA11 : Hid (Arr (w10.setCell ⟨W.heap.size, 1, none⟩ (.slice q10 (acc.length + 1) c10)) 44 W.heap.size [.string (bstr n), .slice q10 (acc.length + 1) c10]) := HA10.out.set 1 _
         have HRW11 := Lib.hid (HRW10.out.box (.inl (Nat.lt_succ_self _)) 1 (.slice q10 (acc.length + 1) c10))
         have HP11 := Lib.hid (HP10.out.box HLT.out 1 (.slice q10 (acc.length + 1) c10))
         have HK11 := Lib.hid (HK10.out.box (Nat.le_refl _) 1 (.slice q10 (acc.length + 1) c10))
         refine wpAnyH_done (by kernel_rfl) ?_ _
         clear HRW10 HA10 HP10 HK10 HRW9 HA9 HP9 HK9 HE9 HR9 HRW8 HA8 HP8 HK8 HR8
         generalize (w10.setCell ⟨W.heap.size, 1, none⟩ (.slice q10 (acc.length + 1) c10)) = w11 at HA11 HRW11 HP11 HK11 ⊢
         have HE11 : Hid (defF ts s = finD ts n (membersF ts m (acc ++ [(n1, n2, n3, Ex.mk mk mv mn ms)]) s8)) := by
          show _ = _
          rw [HE.out, membersF_ok HT.out HA64.out HE8.out]
         go_wp2_with fail
         go_roundw
         case rel => exact ⟨m, acc ++ [(n1, n2, n3, Ex.mk mk mv mn ms)], s8, q10, c10, by rw [List.length_append, List.length_singleton]; omega, by rw [List.length_append, List.length_singleton]; have := HA64.out; omega, by rw [List.length_append, List.length_singleton]; exact HRW11.out, by rw [List.length_append, List.length_singleton]; exact HA11.out, HP11.out, HS8.out, HK11.out, HE11.out⟩
         case measure => rw [mlen_arr HA11.out 1 rfl, mlen_arr HA.out 1 rfl]; have := HA64.out; omega
        ·go_simp
         refine hK'.out _ _ trivial (fun _ => ?_)
         clear hK' K'
         try simp only [Act.put, List.setIfInBounds_toArray, List.set_cons_zero, List.set_cons_succ]
         have HB9 : Hid (Below w8.heap.size w8 (w8.alloc (.cells #[.string (bstr n1), .int .i64 n2, .slice q5 n3.length c5, .int .i64 mk, .string (bstr mv), .string (bstr mn), .slice q4 ms.length c4] 72))) := (Below.refl _ _).alloc (Nat.le_refl _) _
         have HRW9 := Lib.hid (HRW8.out.later HB9.out)
         have HA9 := Lib.hid (HA8.out.later HB9.out)
         have HP9 := Lib.hid (HP8.out.later HB9.out)
         have HK9 := Lib.hid (HK8.out.trans (Kp.of HB9.out))
         have HE9 : Hid (Arr (w8.alloc (.cells #[.string (bstr n1), .int .i64 n2, .slice q5 n3.length c5, .int .i64 mk, .string (bstr mv), .string (bstr mn), .slice q4 ms.length c4] 72)) 72 w8.heap.size [.string (bstr n1), .int .i64 n2, .slice q5 n3.length c5, .int .i64 mk, .string (bstr mv), .string (bstr mn), .slice q4 ms.length c4]) := Arr.new' _ _ _ _ rfl
         have HR9 : Hid (kdMem.rd (SubX (W.heap.size + 1) (fun _ => False) (w8.alloc (.cells #[.string (bstr n1), .int .i64 n2, .slice q5 n3.length c5, .int .i64 mk, .string (bstr mv), .string (bstr mn), .slice q4 ms.length c4] 72)) (.slice q acc.length cc)) (w8.alloc (.cells #[.string (bstr n1), .int .i64 n2, .slice q5 n3.length c5, .int .i64 mk, .string (bstr mv), .string (bstr mn), .slice q4 ms.length c4] 72)) (n1, n2, n3, .mk mk mv mn ms) [.string (bstr n1), .int .i64 n2, .slice q5 n3.length c5, .int .i64 mk, .string (bstr mv), .string (bstr mn), .slice q4 ms.length c4]) := kdMem.imp (fun b hb => ⟨by have := HGL.out; have := hb.1; omega, Nat.lt_of_lt_of_le hb.2 HB9.out.size, fun e => by have h1 := (HBL.out b e.symm); have := hb.1; omega, fun h => h⟩) (kdMem.keep (fun b hb n => HB9.out.cell (p := ⟨b, n, none⟩) hb.2) HR8.out)
         generalize w8.alloc (.cells #[.string (bstr n1), .int .i64 n2, .slice q5 n3.length c5, .int .i64 mk, .string (bstr mv), .string (bstr mn), .slice q4 ms.length c4] 72) = w9 at HRW9 HA9 HP9 HK9 HE9 HR9 ⊢
         clear HB9
         refine wpAnyH_ready (rs := [1]) (by kernel_rfl) (by simp) ?_
         refine AllReadyH.cons (o := ⟨some 23, _, _, _, _, _⟩) rfl (fun K' hK' => ?_) AllReadyH.nil
         obtain ⟨x0, y0, x1, y1⟩ := HA9.out.all2
         go_simp
         clear x0 y0 x1 y1
         refine hK'.out _ _ trivial (fun _ => ?_)
         clear hK' K'
         try simp only [Act.put, List.setIfInBounds_toArray, List.set_cons_zero, List.set_cons_succ]
         refine wpAnyH_ready (rs := [5]) (by kernel_rfl) (by simp) ?_
         refine AllReadyH.cons (o := ⟨some 27, _, _, _, _, _⟩) rfl (fun K' hK' => ?_) AllReadyH.nil
         refine step_row (K := kdMem) rfl (.tmp 23) (.tmp 26) rfl rfl HRW9.out rfl HE9.out HR9.out HAC.out HA9.out.lt (fun b h => h.elim) ?_
         intro v10 w10 r10 g10 o10
         have HP10 := Lib.hid (HP9.out.below (B := W.heap.size) ((Below.refl _ _).grown g10 (Nat.le_of_lt HA9.out.lt) (fun k hk => Nat.le_of_succ_le (o10 k hk).1)) HLT.out)
         have HK10 := Lib.hid (HK9.out.grown g10 (fun k hk => Nat.le_of_succ_le (o10 k hk).1))
         have HA10 : Hid (Arr w10 44 W.heap.size [.string (bstr n), .slice q acc.length cc]) := (g10.block _ HA9.out.lt (fun e => absurd (o10 _ e.symm).1 (by omega))).trans HA9.out
         have HRW10 := Lib.hid r10
         obtain ⟨q10, c10, hv10⟩ := r10.form
         rw [List.length_append, List.length_singleton] at hv10
         subst hv10
         clear r10 g10 o10
         refine hK'.out _ _ trivial (fun _ => ?_)
         clear hK' K'
         try simp only [Act.put, List.setIfInBounds_toArray, List.set_cons_zero, List.set_cons_succ]
         refine wpAnyH_take (i := 6) (oi := ⟨some 28, _, _, _, _, _⟩) (v := .pointer (some ⟨W.heap.size, 1, none⟩)) rfl (by kernel_rfl) (by kernel_rfl) (by kernel_rfl) (fun _ _ _ h => h) (.inl ⟨by rfl, fun w' hSw => ?_⟩) hHeld ?_
         focus (skip; clear hHeld; go_simp)
         try simp only [Act.put, List.setIfInBounds_toArray, List.set_cons_zero, List.set_cons_succ]
         refine wpAnyH_ready (rs := [7]) (by kernel_rfl) (by simp) ?_
         refine AllReadyH.cons (o := ⟨none, _, _, _, _, _⟩) rfl (fun K' hK' => ?_) AllReadyH.nil
         obtain ⟨x0, y0, x1, y1⟩ := HA10.out.all2
         go_simp
         clear x0 y0 x1 y1
         refine hK'.out _ _ trivial (fun _ => ?_)
         clear hK' K'
         try simp only [Act.put, List.setIfInBounds_toArray, List.set_cons_zero, List.set_cons_succ]
         have HA11 : Hid (Arr (w10.setCell ⟨W.heap.size, 1, none⟩ (.slice q10 (acc.length + 1) c10)) 44 W.heap.size [.string (bstr n), .slice q10 (acc.length + 1) c10]) := HA10.out.set 1 _
         have HRW11 := Lib.hid (HRW10.out.box (.inl (Nat.lt_succ_self _)) 1 (.slice q10 (acc.length + 1) c10))
         have HP11 := Lib.hid (HP10.out.box HLT.out 1 (.slice q10 (acc.length + 1) c10))
         have HK11 := Lib.hid (HK10.out.box (Nat.le_refl _) 1 (.slice q10 (acc.length + 1) c10))
         refine wpAnyH_done (by kernel_rfl) ?_ _
         clear HRW10 HA10 HP10 HK10 HRW9 HA9 HP9 HK9 HE9 HR9 HRW8 HA8 HP8 HK8 HR8
         generalize (w10.setCell ⟨W.heap.size, 1, none⟩ (.slice q10 (acc.length + 1) c10)) = w11 at HA11 HRW11 HP11 HK11 ⊢
         have HE11 : Hid (defF ts s = finD ts n (membersF ts m (acc ++ [(n1, n2, n3, Ex.mk mk mv mn ms)]) s8)) := by
          show _ = _
          rw [HE.out, membersF_ok HT.out HA64.out HE8.out]
         go_wp2_with fail
         go_roundw
         case rel => exact ⟨m, acc ++ [(n1, n2, n3, Ex.mk mk mv mn ms)], s8, q10, c10, by rw [List.length_append, List.length_singleton]; omega, by rw [List.length_append, List.length_singleton]; have := HA64.out; omega, by rw [List.length_append, List.length_singleton]; exact HRW11.out, by rw [List.length_append, List.length_singleton]; exact HA11.out, HP11.out, HS8.out, HK11.out, HE11.out⟩
         case measure => rw [mlen_arr HA11.out 1 rfl, mlen_arr HA.out 1 rfl]; have := HA64.out; omega
      ·have hl1 : ¬ (acc.length : Int) < 64 := by omega
       have HEb : Hid (defF ts s = .bad 15 s4.i) := by
        show _ = _
        rw [HE.out, membersF_many HT.out h6]; rfl
       clear h6
       go_wp2_with fail
       rw [show decide ((acc.length : Int) < 64) = false from decide_eq_false (by omega)]
       refine (need_f HP6.out HS4.out 15).mono ?_
       rintro r w7 ⟨rfl, b7⟩
       have HK7 := Lib.hid (HK6.out.trans (Kp.of (pb := pb) b7))
       clear b7
       go_wp2_with fail
       exact ⟨rfl, .inr ⟨15, s4.i, HEb.out, rfl, HK7.out⟩⟩
     | false =>
      have HI2 := Lib.hid (is_any HP5.out HS4.out ⟨#[112, 101, 114, 109, 105, 115, 115, 105, 111, 110]⟩ wPermB rfl)
      obtain ⟨d2, hd2⟩ : ∃ d, d = decide (txt ts s4.i = wPermB) := ⟨_, rfl⟩
      have HD2 := Lib.hid hd2
      rw [← hd2] at HI2
      clear hd2
      go_wp2_with fail
      refine HI2.out.mono ?_
      rintro r w6 ⟨rfl, b6⟩
      have HRW6 := Lib.hid (HRW5.out.later b6)
      have HA6 := Lib.hid (HA5.out.later b6)
      have HP6 := Lib.hid (HP5.out.later b6)
      have HK6 := Lib.hid (HK5.out.trans (Kp.of (pb := pb) b6))
      clear b6 HI2 HRW5 HA5 HP5 HK5
      cases d2 with
      | true =>
       have HT : Hid (txt ts s4.i = wRelB ∨ txt ts s4.i = wPermB) := .inr (of_decide_eq_true HD2.out.symm)
       obtain ⟨x0, y0, x1, y1⟩ := HA6.out.all2
       by_cases h6 : acc.length < 64
       ·have hl1 : (acc.length : Int) < 64 := by omega
        have HA64 := Lib.hid h6
        have HAC : Hid (acc.length + 1 ≤ 200000) := by show _ ≤ _; omega
        clear h6
        go_wp2_with fail
        refine (need_t 15).mono ?_
        rintro r w6 ⟨rfl, rfl⟩
        go_upto_region 6 with (fail)
        clear x0 y0 x1 y1
        refine wp_region_held_drew (S := fun _ => True) (by kernel_rfl) trivial (fun hHeld => ?_)
        try simp only [Act.put]
        have hb7 : Below w6.heap.size w6 w6.drew := (Below.refl _ _).drew
        have HP7 := Lib.hid (HP6.out.later hb7)
        have HK7 := Lib.hid (HK6.out.trans (Kp.of (pb := pb) hb7))
        have HA7 := Lib.hid (HA6.out.later hb7)
        have HRW7 := Lib.hid (HRW6.out.later hb7)
        clear hb7
        generalize w6.drew = w7 at HP7 HK7 HA7 HRW7 ⊢
        have HN7 := Lib.hid (member_any HO.out HP7.out HS4.out)
        have HGL : Hid (W.heap.size < w7.heap.size) := HA7.out.lt
        have HBL : Hid (∀ b, (Value.slice q acc.length cc).ownBlock = some b → b < w7.heap.size) := fun b hb => by obtain ⟨_, h, _⟩ := HRW7.out; exact (h.lt b hb).2
        refine wpAnyH_take (i := 0) (oi := ⟨some 22, _, _, _, _, _⟩) (v := .pointer (some ⟨W.heap.size, 1, none⟩)) rfl (by kernel_rfl) (by kernel_rfl) (by kernel_rfl) (fun _ _ _ h => h) (.inl ⟨by rfl, fun w' hSw => ?_⟩) hHeld ?_
        focus (skip; clear hHeld; go_simp)
        try simp only [Act.put, List.setIfInBounds_toArray, List.set_cons_zero, List.set_cons_succ]
        refine wpAnyH_take (i := 2) (oi := ⟨some 24, _, _, _, _, _⟩) (v := .pointer (some ⟨pb, 0, none⟩)) rfl (by kernel_rfl) (by kernel_rfl) (by kernel_rfl) (fun _ _ _ h => h) (.inl ⟨by rfl, fun w' hSw => ?_⟩) hHeld ?_
        focus (skip; clear hHeld; go_simp)
        try simp only [Act.put, List.setIfInBounds_toArray, List.set_cons_zero, List.set_cons_succ]
        refine wpAnyH_ready (rs := [1, 3]) (by kernel_rfl) (by simp) ?_
        refine AllReadyH.cons (o := ⟨some 23, _, _, _, _, _⟩) rfl (fun K' hK' => ?_) (AllReadyH.cons (o := ⟨some 25, _, _, _, _, _⟩) rfl (fun K' hK' => ?_) AllReadyH.nil)
        ·have x0 := HA7.out.cell 0
         have y0 := HA7.out.free 0
         have x1 := HA7.out.cell 1
         have y1 := HA7.out.free 1
         simp only [List.getElem?_cons_zero, List.getElem?_cons_succ] at x0 x1
         go_simp
         clear x0 y0 x1 y1
         refine hK'.out _ _ trivial (fun _ => ?_)
         clear hK' K'
         try simp only [Act.put, List.setIfInBounds_toArray, List.set_cons_zero, List.set_cons_succ]
         refine wpAnyH_ready (rs := [3]) (by kernel_rfl) (by simp) ?_
         refine AllReadyH.cons (o := ⟨some 25, _, _, _, _, _⟩) rfl (fun K' hK' => ?_) AllReadyH.nil
         refine stepw_calls (by rfl) ?_ HN7.out (fun w => QR.grown w) ?_ ?_
         focus go_simp
         ·rintro ch w8 hpan
          obtain ⟨k, i, e8, rfl, k8⟩ := hpan.pan
          have HK8 := Lib.hid (HK7.out.trans k8)
          have HE2 : Hid (defF ts s = .bad k i) := by
           show _ = _
           rw [HE.out, membersF_bad HT.out HA64.out e8]; rfl
          clear e8 k8 hpan
          exact ⟨rfl, .inr ⟨k, i, HE2.out, rfl, HK8.out⟩⟩
         rintro v w8 hret
         obtain ⟨e, s8, e8, r8, p8, k8⟩ := hret.ret
         have HE8 := Lib.hid e8
         have HS8 : Hid (s8.i < ts.length) := keeps_member HO.out _ _ _ HS4.out e8
         obtain ⟨n1, n2, n3, mk, mv, mn, ms⟩ := e
         obtain ⟨q5, c5, q4, c4, rfl, r8b⟩ := VM.form r8
         have HR8 := Lib.hid r8b
         clear r8 r8b
         have HRW8 := Lib.hid (HRW7.out.turn (w' := w8) k8.2.2.2.1 (fun b hb hl _ => k8.2.2.2.2 b hl (by have := HLT.out; omega)))
         have HA8 := Lib.hid (k8.arr HA7.out (by have := HLT.out; omega))
         have HP8 := Lib.hid p8
         have HK8 := Lib.hid (HK7.out.trans k8)
         clear e8 p8 k8 hret
         refine hK'.out _ _ trivial (fun _ => ?_)
         clear hK' K'
         try simp only [Act.put, List.setIfInBounds_toArray, List.set_cons_zero, List.set_cons_succ]
         refine wpAnyH_ready (rs := [4]) (by kernel_rfl) (by simp) ?_
         refine AllReadyH.cons (o := ⟨some 26, _, _, _, _, _⟩) rfl (fun K' hK' => ?_) AllReadyH.nil
         go_simp
         refine hK'.out _ _ trivial (fun _ => ?_)
         clear hK' K'
         try simp only [Act.put, List.setIfInBounds_toArray, List.set_cons_zero, List.set_cons_succ]
         have HB9 : Hid (Below w8.heap.size w8 (w8.alloc (.cells #[.string (bstr n1), .int .i64 n2, .slice q5 n3.length c5, .int .i64 mk, .string (bstr mv), .string (bstr mn), .slice q4 ms.length c4] 72))) := (Below.refl _ _).alloc (Nat.le_refl _) _
         have HRW9 := Lib.hid (HRW8.out.later HB9.out)
         have HA9 := Lib.hid (HA8.out.later HB9.out)
         have HP9 := Lib.hid (HP8.out.later HB9.out)
         have HK9 := Lib.hid (HK8.out.trans (Kp.of HB9.out))
         have HE9 : Hid (Arr (w8.alloc (.cells #[.string (bstr n1), .int .i64 n2, .slice q5 n3.length c5, .int .i64 mk, .string (bstr mv), .string (bstr mn), .slice q4 ms.length c4] 72)) 72 w8.heap.size [.string (bstr n1), .int .i64 n2, .slice q5 n3.length c5, .int .i64 mk, .string (bstr mv), .string (bstr mn), .slice q4 ms.length c4]) := Arr.new' _ _ _ _ rfl
         have HR9 : Hid (kdMem.rd (SubX (W.heap.size + 1) (fun _ => False) (w8.alloc (.cells #[.string (bstr n1), .int .i64 n2, .slice q5 n3.length c5, .int .i64 mk, .string (bstr mv), .string (bstr mn), .slice q4 ms.length c4] 72)) (.slice q acc.length cc)) (w8.alloc (.cells #[.string (bstr n1), .int .i64 n2, .slice q5 n3.length c5, .int .i64 mk, .string (bstr mv), .string (bstr mn), .slice q4 ms.length c4] 72)) (n1, n2, n3, .mk mk mv mn ms) [.string (bstr n1), .int .i64 n2, .slice q5 n3.length c5, .int .i64 mk, .string (bstr mv), .string (bstr mn), .slice q4 ms.length c4]) := kdMem.imp (fun b hb => ⟨by have := HGL.out; have := hb.1; omega, Nat.lt_of_lt_of_le hb.2 HB9.out.size, fun e => by have h1 := (HBL.out b e.symm); have := hb.1; omega, fun h => h⟩) (kdMem.keep (fun b hb n => HB9.out.cell (p := ⟨b, n, none⟩) hb.2) HR8.out)
         generalize w8.alloc (.cells #[.string (bstr n1), .int .i64 n2, .slice q5 n3.length c5, .int .i64 mk, .string (bstr mv), .string (bstr mn), .slice q4 ms.length c4] 72) = w9 at HRW9 HA9 HP9 HK9 HE9 HR9 ⊢
         clear HB9
         refine wpAnyH_ready (rs := [5]) (by kernel_rfl) (by simp) ?_
         refine AllReadyH.cons (o := ⟨some 27, _, _, _, _, _⟩) rfl (fun K' hK' => ?_) AllReadyH.nil
         refine step_row (K := kdMem) rfl (.tmp 23) (.tmp 26) rfl rfl HRW9.out rfl HE9.out HR9.out HAC.out HA9.out.lt (fun b h => h.elim) ?_
         intro v10 w10 r10 g10 o10
         have HP10 := Lib.hid (HP9.out.below (B := W.heap.size) ((Below.refl _ _).grown g10 (Nat.le_of_lt HA9.out.lt) (fun k hk => Nat.le_of_succ_le (o10 k hk).1)) HLT.out)
         have HK10 := Lib.hid (HK9.out.grown g10 (fun k hk => Nat.le_of_succ_le (o10 k hk).1))
         have HA10 : Hid (Arr w10 44 W.heap.size [.string (bstr n), .slice q acc.length cc]) := (g10.block _ HA9.out.lt (fun e => absurd (o10 _ e.symm).1 (by omega))).trans HA9.out
         have HRW10 := Lib.hid r10
         obtain ⟨q10, c10, hv10⟩ := r10.form
         rw [List.length_append, List.length_singleton] at hv10
         subst hv10
         clear r10 g10 o10
         refine hK'.out _ _ trivial (fun _ => ?_)
         clear hK' K'
         try simp only [Act.put, List.setIfInBounds_toArray, List.set_cons_zero, List.set_cons_succ]
         refine wpAnyH_take (i := 6) (oi := ⟨some 28, _, _, _, _, _⟩) (v := .pointer (some ⟨W.heap.size, 1, none⟩)) rfl (by kernel_rfl) (by kernel_rfl) (by kernel_rfl) (fun _ _ _ h => h) (.inl ⟨by rfl, fun w' hSw => ?_⟩) hHeld ?_
         focus (skip; clear hHeld; go_simp)
         try simp only [Act.put, List.setIfInBounds_toArray, List.set_cons_zero, List.set_cons_succ]
         refine wpAnyH_ready (rs := [7]) (by kernel_rfl) (by simp) ?_
         refine AllReadyH.cons (o := ⟨none, _, _, _, _, _⟩) rfl (fun K' hK' => ?_) AllReadyH.nil
         obtain ⟨x0, y0, x1, y1⟩ := HA10.out.all2
         go_simp
         clear x0 y0 x1 y1
         refine hK'.out _ _ trivial (fun _ => ?_)
         clear hK' K'
         try simp only [Act.put, List.setIfInBounds_toArray, List.set_cons_zero, List.set_cons_succ]
         have HA11 : Hid (Arr (w10.setCell ⟨W.heap.size, 1, none⟩ (.slice q10 (acc.length + 1) c10)) 44 W.heap.size [.string (bstr n), .slice q10 (acc.length + 1) c10]) := HA10.out.set 1 _
         have HRW11 := Lib.hid (HRW10.out.box (.inl (Nat.lt_succ_self _)) 1 (.slice q10 (acc.length + 1) c10))
         have HP11 := Lib.hid (HP10.out.box HLT.out 1 (.slice q10 (acc.length + 1) c10))
         have HK11 := Lib.hid (HK10.out.box (Nat.le_refl _) 1 (.slice q10 (acc.length + 1) c10))
         refine wpAnyH_done (by kernel_rfl) ?_ _
         clear HRW10 HA10 HP10 HK10 HRW9 HA9 HP9 HK9 HE9 HR9 HRW8 HA8 HP8 HK8 HR8
         generalize (w10.setCell ⟨W.heap.size, 1, none⟩ (.slice q10 (acc.length + 1) c10)) = w11 at HA11 HRW11 HP11 HK11 ⊢
         have HE11 : Hid (defF ts s = finD ts n (membersF ts m (acc ++ [(n1, n2, n3, Ex.mk mk mv mn ms)]) s8)) := by
          show _ = _
          rw [HE.out, membersF_ok HT.out HA64.out HE8.out]
         go_wp2_with fail
         go_roundw
         case rel => exact ⟨m, acc ++ [(n1, n2, n3, Ex.mk mk mv mn ms)], s8, q10, c10, by rw [List.length_append, List.length_singleton]; omega, by rw [List.length_append, List.length_singleton]; have := HA64.out; omega, by rw [List.length_append, List.length_singleton]; exact HRW11.out, by rw [List.length_append, List.length_singleton]; exact HA11.out, HP11.out, HS8.out, HK11.out, HE11.out⟩
         case measure => rw [mlen_arr HA11.out 1 rfl, mlen_arr HA.out 1 rfl]; have := HA64.out; omega
        ·refine stepw_calls (by rfl) ?_ HN7.out (fun w => QR.grown w) ?_ ?_
         focus go_simp
         ·rintro ch w8 hpan
          obtain ⟨k, i, e8, rfl, k8⟩ := hpan.pan
          have HK8 := Lib.hid (HK7.out.trans k8)
          have HE2 : Hid (defF ts s = .bad k i) := by
           show _ = _
           rw [HE.out, membersF_bad HT.out HA64.out e8]; rfl
          clear e8 k8 hpan
          exact ⟨rfl, .inr ⟨k, i, HE2.out, rfl, HK8.out⟩⟩
         rintro v w8 hret
         obtain ⟨e, s8, e8, r8, p8, k8⟩ := hret.ret
         have HE8 := Lib.hid e8
         have HS8 : Hid (s8.i < ts.length) := keeps_member HO.out _ _ _ HS4.out e8
         obtain ⟨n1, n2, n3, mk, mv, mn, ms⟩ := e
         obtain ⟨q5, c5, q4, c4, rfl, r8b⟩ := VM.form r8
         have HR8 := Lib.hid r8b
         clear r8 r8b
         have HRW8 := Lib.hid (HRW7.out.turn (w' := w8) k8.2.2.2.1 (fun b hb hl _ => k8.2.2.2.2 b hl (by have := HLT.out; omega)))
         have HA8 := Lib.hid (k8.arr HA7.out (by have := HLT.out; omega))
         have HP8 := Lib.hid p8
         have HK8 := Lib.hid (HK7.out.trans k8)
         clear e8 p8 k8 hret
         refine hK'.out _ _ trivial (fun _ => ?_)
         clear hK' K'
         try simp only [Act.put, List.setIfInBounds_toArray, List.set_cons_zero, List.set_cons_succ]
         refine wpAnyH_ready (rs := [1, 4]) (by kernel_rfl) (by simp) ?_
         refine AllReadyH.cons (o := ⟨some 23, _, _, _, _, _⟩) rfl (fun K' hK' => ?_) (AllReadyH.cons (o := ⟨some 26, _, _, _, _, _⟩) rfl (fun K' hK' => ?_) AllReadyH.nil)
         ·have x0 := HA8.out.cell 0
          have y0 := HA8.out.free 0
          have x1 := HA8.out.cell 1
          have y1 := HA8.out.free 1
          simp only [List.getElem?_cons_zero, List.getElem?_cons_succ] at x0 x1
          go_simp
          clear x0 y0 x1 y1
          refine hK'.out _ _ trivial (fun _ => ?_)
          clear hK' K'
          try simp only [Act.put, List.setIfInBounds_toArray, List.set_cons_zero, List.set_cons_succ]
          refine wpAnyH_ready (rs := [4]) (by kernel_rfl) (by simp) ?_
          refine AllReadyH.cons (o := ⟨some 26, _, _, _, _, _⟩) rfl (fun K' hK' => ?_) AllReadyH.nil
          go_simp
          refine hK'.out _ _ trivial (fun _ => ?_)
          clear hK' K'
          try simp only [Act.put, List.setIfInBounds_toArray, List.set_cons_zero, List.set_cons_succ]
          have HB9 : Hid (Below w8.heap.size w8 (w8.alloc (.cells #[.string (bstr n1), .int .i64 n2, .slice q5 n3.length c5, .int .i64 mk, .string (bstr mv), .string (bstr mn), .slice q4 ms.length c4] 72))) := (Below.refl _ _).alloc (Nat.le_refl _) _
          have HRW9 := Lib.hid (HRW8.out.later HB9.out)
          have HA9 := Lib.hid (HA8.out.later HB9.out)
          have HP9 := Lib.hid (HP8.out.later HB9.out)
          have HK9 := Lib.hid (HK8.out.trans (Kp.of HB9.out))
          have HE9 : Hid (Arr (w8.alloc (.cells #[.string (bstr n1), .int .i64 n2, .slice q5 n3.length c5, .int .i64 mk, .string (bstr mv), .string (bstr mn), .slice q4 ms.length c4] 72)) 72 w8.heap.size [.string (bstr n1), .int .i64 n2, .slice q5 n3.length c5, .int .i64 mk, .string (bstr mv), .string (bstr mn), .slice q4 ms.length c4]) := Arr.new' _ _ _ _ rfl
          have HR9 : Hid (kdMem.rd (SubX (W.heap.size + 1) (fun _ => False) (w8.alloc (.cells #[.string (bstr n1), .int .i64 n2, .slice q5 n3.length c5, .int .i64 mk, .string (bstr mv), .string (bstr mn), .slice q4 ms.length c4] 72)) (.slice q acc.length cc)) (w8.alloc (.cells #[.string (bstr n1), .int .i64 n2, .slice q5 n3.length c5, .int .i64 mk, .string (bstr mv), .string (bstr mn), .slice q4 ms.length c4] 72)) (n1, n2, n3, .mk mk mv mn ms) [.string (bstr n1), .int .i64 n2, .slice q5 n3.length c5, .int .i64 mk, .string (bstr mv), .string (bstr mn), .slice q4 ms.length c4]) := kdMem.imp (fun b hb => ⟨by have := HGL.out; have := hb.1; omega, Nat.lt_of_lt_of_le hb.2 HB9.out.size, fun e => by have h1 := (HBL.out b e.symm); have := hb.1; omega, fun h => h⟩) (kdMem.keep (fun b hb n => HB9.out.cell (p := ⟨b, n, none⟩) hb.2) HR8.out)
          generalize w8.alloc (.cells #[.string (bstr n1), .int .i64 n2, .slice q5 n3.length c5, .int .i64 mk, .string (bstr mv), .string (bstr mn), .slice q4 ms.length c4] 72) = w9 at HRW9 HA9 HP9 HK9 HE9 HR9 ⊢
          clear HB9
          refine wpAnyH_ready (rs := [5]) (by kernel_rfl) (by simp) ?_
          refine AllReadyH.cons (o := ⟨some 27, _, _, _, _, _⟩) rfl (fun K' hK' => ?_) AllReadyH.nil
          refine step_row (K := kdMem) rfl (.tmp 23) (.tmp 26) rfl rfl HRW9.out rfl HE9.out HR9.out HAC.out HA9.out.lt (fun b h => h.elim) ?_
          intro v10 w10 r10 g10 o10
          have HP10 := Lib.hid (HP9.out.below (B := W.heap.size) ((Below.refl _ _).grown g10 (Nat.le_of_lt HA9.out.lt) (fun k hk => Nat.le_of_succ_le (o10 k hk).1)) HLT.out)
          have HK10 := Lib.hid (HK9.out.grown g10 (fun k hk => Nat.le_of_succ_le (o10 k hk).1))
          have HA10 : Hid (Arr w10 44 W.heap.size [.string (bstr n), .slice q acc.length cc]) := (g10.block _ HA9.out.lt (fun e => absurd (o10 _ e.symm).1 (by omega))).trans HA9.out
          have HRW10 := Lib.hid r10
          obtain ⟨q10, c10, hv10⟩ := r10.form
          rw [List.length_append, List.length_singleton] at hv10
          subst hv10
          clear r10 g10 o10
          refine hK'.out _ _ trivial (fun _ => ?_)
          clear hK' K'
          try simp only [Act.put, List.setIfInBounds_toArray, List.set_cons_zero, List.set_cons_succ]
          refine wpAnyH_take (i := 6) (oi := ⟨some 28, _, _, _, _, _⟩) (v := .pointer (some ⟨W.heap.size, 1, none⟩)) rfl (by kernel_rfl) (by kernel_rfl) (by kernel_rfl) (fun _ _ _ h => h) (.inl ⟨by rfl, fun w' hSw => ?_⟩) hHeld ?_
          focus (skip; clear hHeld; go_simp)
          try simp only [Act.put, List.setIfInBounds_toArray, List.set_cons_zero, List.set_cons_succ]
          refine wpAnyH_ready (rs := [7]) (by kernel_rfl) (by simp) ?_
          refine AllReadyH.cons (o := ⟨none, _, _, _, _, _⟩) rfl (fun K' hK' => ?_) AllReadyH.nil
          obtain ⟨x0, y0, x1, y1⟩ := HA10.out.all2
          go_simp
          clear x0 y0 x1 y1
          refine hK'.out _ _ trivial (fun _ => ?_)
          clear hK' K'
          try simp only [Act.put, List.setIfInBounds_toArray, List.set_cons_zero, List.set_cons_succ]
          have HA11 : Hid (Arr (w10.setCell ⟨W.heap.size, 1, none⟩ (.slice q10 (acc.length + 1) c10)) 44 W.heap.size [.string (bstr n), .slice q10 (acc.length + 1) c10]) := HA10.out.set 1 _
          have HRW11 := Lib.hid (HRW10.out.box (.inl (Nat.lt_succ_self _)) 1 (.slice q10 (acc.length + 1) c10))
          have HP11 := Lib.hid (HP10.out.box HLT.out 1 (.slice q10 (acc.length + 1) c10))
          have HK11 := Lib.hid (HK10.out.box (Nat.le_refl _) 1 (.slice q10 (acc.length + 1) c10))
          refine wpAnyH_done (by kernel_rfl) ?_ _
          clear HRW10 HA10 HP10 HK10 HRW9 HA9 HP9 HK9 HE9 HR9 HRW8 HA8 HP8 HK8 HR8
          generalize (w10.setCell ⟨W.heap.size, 1, none⟩ (.slice q10 (acc.length + 1) c10)) = w11 at HA11 HRW11 HP11 HK11 ⊢
          have HE11 : Hid (defF ts s = finD ts n (membersF ts m (acc ++ [(n1, n2, n3, Ex.mk mk mv mn ms)]) s8)) := by
           show _ = _
           rw [HE.out, membersF_ok HT.out HA64.out HE8.out]
          go_wp2_with fail
          go_roundw
          case rel => exact ⟨m, acc ++ [(n1, n2, n3, Ex.mk mk mv mn ms)], s8, q10, c10, by rw [List.length_append, List.length_singleton]; omega, by rw [List.length_append, List.length_singleton]; have := HA64.out; omega, by rw [List.length_append, List.length_singleton]; exact HRW11.out, by rw [List.length_append, List.length_singleton]; exact HA11.out, HP11.out, HS8.out, HK11.out, HE11.out⟩
          case measure => rw [mlen_arr HA11.out 1 rfl, mlen_arr HA.out 1 rfl]; have := HA64.out; omega
         ·go_simp
          refine hK'.out _ _ trivial (fun _ => ?_)
          clear hK' K'
          try simp only [Act.put, List.setIfInBounds_toArray, List.set_cons_zero, List.set_cons_succ]
          have HB9 : Hid (Below w8.heap.size w8 (w8.alloc (.cells #[.string (bstr n1), .int .i64 n2, .slice q5 n3.length c5, .int .i64 mk, .string (bstr mv), .string (bstr mn), .slice q4 ms.length c4] 72))) := (Below.refl _ _).alloc (Nat.le_refl _) _
          have HRW9 := Lib.hid (HRW8.out.later HB9.out)
          have HA9 := Lib.hid (HA8.out.later HB9.out)
          have HP9 := Lib.hid (HP8.out.later HB9.out)
          have HK9 := Lib.hid (HK8.out.trans (Kp.of HB9.out))
          have HE9 : Hid (Arr (w8.alloc (.cells #[.string (bstr n1), .int .i64 n2, .slice q5 n3.length c5, .int .i64 mk, .string (bstr mv), .string (bstr mn), .slice q4 ms.length c4] 72)) 72 w8.heap.size [.string (bstr n1), .int .i64 n2, .slice q5 n3.length c5, .int .i64 mk, .string (bstr mv), .string (bstr mn), .slice q4 ms.length c4]) := Arr.new' _ _ _ _ rfl
          have HR9 : Hid (kdMem.rd (SubX (W.heap.size + 1) (fun _ => False) (w8.alloc (.cells #[.string (bstr n1), .int .i64 n2, .slice q5 n3.length c5, .int .i64 mk, .string (bstr mv), .string (bstr mn), .slice q4 ms.length c4] 72)) (.slice q acc.length cc)) (w8.alloc (.cells #[.string (bstr n1), .int .i64 n2, .slice q5 n3.length c5, .int .i64 mk, .string (bstr mv), .string (bstr mn), .slice q4 ms.length c4] 72)) (n1, n2, n3, .mk mk mv mn ms) [.string (bstr n1), .int .i64 n2, .slice q5 n3.length c5, .int .i64 mk, .string (bstr mv), .string (bstr mn), .slice q4 ms.length c4]) := kdMem.imp (fun b hb => ⟨by have := HGL.out; have := hb.1; omega, Nat.lt_of_lt_of_le hb.2 HB9.out.size, fun e => by have h1 := (HBL.out b e.symm); have := hb.1; omega, fun h => h⟩) (kdMem.keep (fun b hb n => HB9.out.cell (p := ⟨b, n, none⟩) hb.2) HR8.out)
          generalize w8.alloc (.cells #[.string (bstr n1), .int .i64 n2, .slice q5 n3.length c5, .int .i64 mk, .string (bstr mv), .string (bstr mn), .slice q4 ms.length c4] 72) = w9 at HRW9 HA9 HP9 HK9 HE9 HR9 ⊢
          clear HB9
          refine wpAnyH_ready (rs := [1]) (by kernel_rfl) (by simp) ?_
          refine AllReadyH.cons (o := ⟨some 23, _, _, _, _, _⟩) rfl (fun K' hK' => ?_) AllReadyH.nil
          obtain ⟨x0, y0, x1, y1⟩ := HA9.out.all2
          go_simp
          clear x0 y0 x1 y1
          refine hK'.out _ _ trivial (fun _ => ?_)
          clear hK' K'
          try simp only [Act.put, List.setIfInBounds_toArray, List.set_cons_zero, List.set_cons_succ]
          refine wpAnyH_ready (rs := [5]) (by kernel_rfl) (by simp) ?_
          refine AllReadyH.cons (o := ⟨some 27, _, _, _, _, _⟩) rfl (fun K' hK' => ?_) AllReadyH.nil
          refine step_row (K := kdMem) rfl (.tmp 23) (.tmp 26) rfl rfl HRW9.out rfl HE9.out HR9.out HAC.out HA9.out.lt (fun b h => h.elim) ?_
          intro v10 w10 r10 g10 o10
          have HP10 := Lib.hid (HP9.out.below (B := W.heap.size) ((Below.refl _ _).grown g10 (Nat.le_of_lt HA9.out.lt) (fun k hk => Nat.le_of_succ_le (o10 k hk).1)) HLT.out)
          have HK10 := Lib.hid (HK9.out.grown g10 (fun k hk => Nat.le_of_succ_le (o10 k hk).1))
          have HA10 : Hid (Arr w10 44 W.heap.size [.string (bstr n), .slice q acc.length cc]) := (g10.block _ HA9.out.lt (fun e => absurd (o10 _ e.symm).1 (by omega))).trans HA9.out
          have HRW10 := Lib.hid r10
          obtain ⟨q10, c10, hv10⟩ := r10.form
          rw [List.length_append, List.length_singleton] at hv10
          subst hv10
          clear r10 g10 o10
          refine hK'.out _ _ trivial (fun _ => ?_)
          clear hK' K'
          try simp only [Act.put, List.setIfInBounds_toArray, List.set_cons_zero, List.set_cons_succ]
          refine wpAnyH_take (i := 6) (oi := ⟨some 28, _, _, _, _, _⟩) (v := .pointer (some ⟨W.heap.size, 1, none⟩)) rfl (by kernel_rfl) (by kernel_rfl) (by kernel_rfl) (fun _ _ _ h => h) (.inl ⟨by rfl, fun w' hSw => ?_⟩) hHeld ?_
          focus (skip; clear hHeld; go_simp)
          try simp only [Act.put, List.setIfInBounds_toArray, List.set_cons_zero, List.set_cons_succ]
          refine wpAnyH_ready (rs := [7]) (by kernel_rfl) (by simp) ?_
          refine AllReadyH.cons (o := ⟨none, _, _, _, _, _⟩) rfl (fun K' hK' => ?_) AllReadyH.nil
          obtain ⟨x0, y0, x1, y1⟩ := HA10.out.all2
          go_simp
          clear x0 y0 x1 y1
          refine hK'.out _ _ trivial (fun _ => ?_)
          clear hK' K'
          try simp only [Act.put, List.setIfInBounds_toArray, List.set_cons_zero, List.set_cons_succ]
          have HA11 : Hid (Arr (w10.setCell ⟨W.heap.size, 1, none⟩ (.slice q10 (acc.length + 1) c10)) 44 W.heap.size [.string (bstr n), .slice q10 (acc.length + 1) c10]) := HA10.out.set 1 _
          have HRW11 := Lib.hid (HRW10.out.box (.inl (Nat.lt_succ_self _)) 1 (.slice q10 (acc.length + 1) c10))
          have HP11 := Lib.hid (HP10.out.box HLT.out 1 (.slice q10 (acc.length + 1) c10))
          have HK11 := Lib.hid (HK10.out.box (Nat.le_refl _) 1 (.slice q10 (acc.length + 1) c10))
          refine wpAnyH_done (by kernel_rfl) ?_ _
          clear HRW10 HA10 HP10 HK10 HRW9 HA9 HP9 HK9 HE9 HR9 HRW8 HA8 HP8 HK8 HR8
          generalize (w10.setCell ⟨W.heap.size, 1, none⟩ (.slice q10 (acc.length + 1) c10)) = w11 at HA11 HRW11 HP11 HK11 ⊢
          have HE11 : Hid (defF ts s = finD ts n (membersF ts m (acc ++ [(n1, n2, n3, Ex.mk mk mv mn ms)]) s8)) := by
           show _ = _
           rw [HE.out, membersF_ok HT.out HA64.out HE8.out]
          go_wp2_with fail
          go_roundw
          case rel => exact ⟨m, acc ++ [(n1, n2, n3, Ex.mk mk mv mn ms)], s8, q10, c10, by rw [List.length_append, List.length_singleton]; omega, by rw [List.length_append, List.length_singleton]; have := HA64.out; omega, by rw [List.length_append, List.length_singleton]; exact HRW11.out, by rw [List.length_append, List.length_singleton]; exact HA11.out, HP11.out, HS8.out, HK11.out, HE11.out⟩
          case measure => rw [mlen_arr HA11.out 1 rfl, mlen_arr HA.out 1 rfl]; have := HA64.out; omega
       ·have hl1 : ¬ (acc.length : Int) < 64 := by omega
        have HEb : Hid (defF ts s = .bad 15 s4.i) := by
         show _ = _
         rw [HE.out, membersF_many HT.out h6]; rfl
        clear h6
        go_wp2_with fail
        rw [show decide ((acc.length : Int) < 64) = false from decide_eq_false (by omega)]
        refine (need_f HP6.out HS4.out 15).mono ?_
        rintro r w7 ⟨rfl, b7⟩
        have HK7 := Lib.hid (HK6.out.trans (Kp.of (pb := pb) b7))
        clear b7
        go_wp2_with fail
        exact ⟨rfl, .inr ⟨15, s4.i, HEb.out, rfl, HK7.out⟩⟩
      | false =>
       have HE6 : Hid (defF ts s = finD ts n (.ok acc s4)) := by
        show _ = _
        rw [HE.out, membersF_end (of_decide_eq_false HD1.out.symm) (of_decide_eq_false HD2.out.symm)]
       have HWC := Lib.hid (want_any HP6.out HS4.out ⟨#[125]⟩ [125] rfl)
       go_wp2_with fail
       refine HWC.out.mono ?_
       rintro r w9 (⟨x, s9, v, ez, rfl, _, p9, k9⟩ | ⟨k, i, ez, rfl, kz⟩)
       ·have HP9 := Lib.hid p9
        have HK9 := Lib.hid (HK6.out.trans k9)
        have HA9 := Lib.hid (k9.arr HA6.out (by have := HLT.out; omega))
        have HR9 := Lib.hid ((HRW6.out.turn (w' := w9) k9.2.2.2.1 (fun b hb hl _ => k9.2.2.2.2 b hl (by have := HLT.out; omega))).rdK)
        have HEb : Hid (defF ts s = .ok (n, acc) s9) := by
         show _ = _
         rw [HE6.out]; unfold finD; rw [PR.then_ok, ez]; rfl
        clear ez p9 k9 HWC
        obtain ⟨x0, y0, x1, y1⟩ := HA9.out.all2
        go_wp2_with fail
        have hk := kp_setD w9 W.heap.size (.string (bstr n)) (.slice q acc.length cc)
        have hA := HA9.out.setD (.string (bstr n)) (.slice q acc.length cc)
        have hv : VD (W.heap.size + 1) (n, acc) w9 (.agg #[.string (bstr n), .slice q acc.length cc]) := ⟨_, rfl, HR9.out⟩
        exact bodyPost_ret (resD rfl hA rfl) rfl (.inl ⟨_, _, _, HEb.out, rfl, ((VD.kp hv hk (Nat.lt_succ_self _)).low (Nat.le_succ _)), HP9.out.kp hk HLT.out HK9.out.2.2.2.1, HK9.out.andThen hk (Nat.le_refl _)⟩)
       ·have HKb := Lib.hid (HK6.out.trans kz)
        have HEb : Hid (defF ts s = .bad k i) := by
         show _ = _
         rw [HE6.out]; unfold finD; rw [PR.then_ok, ez]; rfl
        clear ez kz
        go_wp2_with fail
        exact ⟨rfl, .inr ⟨k, i, HEb.out, rfl, HKb.out⟩⟩
   ·have HKb := Lib.hid (HK2.out.trans kz)
    have HEb : Hid (defF ts s = .bad k i) := by
     show _ = _
     unfold defF; rw [HE0.out, PR.then_ok, HE2.out, PR.then_ok, ez]; rfl
    clear ez kz
    go_wp2_with fail
    exact ⟨rfl, .inr ⟨k, i, HEb.out, rfl, HKb.out⟩⟩
  ·have HKb := Lib.hid (HK1.out.trans kz)
   have HEb : Hid (defF ts s = .bad k i) := by
    show _ = _
    unfold defF; rw [HE0.out, PR.then_ok, ez]; rfl
   clear ez kz
   go_wp2_with fail
   exact ⟨rfl, .inr ⟨k, i, HEb.out, rfl, HKb.out⟩⟩
 ·have HKb := Lib.hid (HK0.out.trans kz)
  have HEb : Hid (defF ts s = .bad k i) := by
   show _ = _
   unfold defF; rw [ez]; rfl
  clear ez kz
  go_wp2_with fail
  exact ⟨rfl, .inr ⟨k, i, HEb.out, rfl, HKb.out⟩⟩
end
end Go.Proofs.YteieimchleioaaaGreatDoor
