/-
  parse's definition; rows of members and definitions in memory.
-/
import Derived.Test.YtkildckeikedhaaGreatDoorMr5
import Derived.Defers
import Derived.Recover
import Derived.Laws.Pointers
namespace Go.Proofs.YtkildckeikedhaaGreatDoor
open Go.ChangeShapes Go.WideShapes Go.ChangeAt Go.RowKit
set_option linter.unusedVariables false

def RdK {α : Type} (K : Kd α) (P : Nat → Prop) (w : World) (xs : List α) (v : Value) : Prop := ∃ q c, v = .slice q xs.length c ∧ xs.length ≤ c ∧ (0 < xs.length → ∃ b o, q = some ⟨b, o, none⟩ ∧ P b ∧ ∃ cs, CellsK K P w xs cs ∧ ∀ j u, cs[j]? = some u → w.cell? ⟨b, o + j, none⟩ = some u)
section
variable {α : Type} {K : Kd α}
theorem RdK.keep {P : Nat → Prop} {w w' : World} {xs : List α} {v : Value} (hk : ∀ b, P b → ∀ n, w'.cell? ⟨b, n, none⟩ = w.cell? ⟨b, n, none⟩) (h : RdK K P w xs v) : RdK K P w' xs v := by
 obtain ⟨q, c, h1, h2, h3⟩ := h
 refine ⟨q, c, h1, h2, fun h0 => ?_⟩
 obtain ⟨b, o, h4, h5, cs, h6, h7⟩ := h3 h0
 exact ⟨b, o, h4, h5, cs, h6.keep hk, fun j u hj => (hk b h5 _).trans (h7 j u hj)⟩
theorem RdK.imp {P Q : Nat → Prop} {w : World} {xs : List α} {v : Value} (hi : ∀ b, P b → Q b) (h : RdK K P w xs v) : RdK K Q w xs v := by
 obtain ⟨q, c, h1, h2, h3⟩ := h
 refine ⟨q, c, h1, h2, fun h0 => ?_⟩
 obtain ⟨b, o, h4, h5, cs, h6, h7⟩ := h3 h0
 exact ⟨b, o, h4, hi b h5, cs, h6.imp hi, h7⟩
theorem RdK.nil (K : Kd α) (P : Nat → Prop) (w : World) : RdK K P w [] (.slice none 0 0) := ⟨none, 0, rfl, Nat.le_refl _, fun h => absurd h (Nat.lt_irrefl _)⟩
theorem PRow.rdK {base : Nat} {X : Nat → Prop} {w : World} {v : Value} {xs : List α} (h : PRow K base X w v xs) : RdK K (Bt base w.heap.size) w xs v := by
 obtain ⟨q, c, rfl⟩ := h.form
 obtain ⟨_, hc, hk⟩ := h.cells
 refine ⟨q, c, rfl, hc, fun h0 => ?_⟩
 obtain ⟨g, rfl, h1, h2, _, cs, h3, h4⟩ := hk h0
 exact ⟨g, 0, rfl, ⟨h1, h2⟩, cs, h3.imp fun b hb => ⟨hb.1, hb.2.1⟩, fun j u hj => by rw [Nat.zero_add]; exact h4 j u hj⟩
theorem RdK.kp {B g : Nat} {xs : List α} {w w' : World} {v : Value} (h : RdK K (Bt B w.heap.size) w xs v) (hk : Kp g w w') (hg : g < B) : RdK K (Bt B w'.heap.size) w' xs v :=
 (h.keep fun b hb n => World.cell?_of_block (hk.2.2.2.2 b hb.2 (by have := hb.1; omega))).imp fun b hb => ⟨hb.1, Nat.lt_of_lt_of_le hb.2 hk.2.2.2.1⟩
end
def rdDef (P : Nat → Prop) (w : World) (d : DefB) (cs : List Value) : Prop := ∃ v, cs = [.string (bstr d.1), v] ∧ RdK kdMem P w d.2 v
theorem Tryz.infoDef : (Tryz.prog.info? 39).map (fun i => (i.zero, i.size, i.bytes)) = some (some (.agg #[.string ByteArray.empty, .slice none 0 0]), 2, 40) := by kernel_rfl
def kdDef : Kd DefB where
 sty := 27
 ty := 39
 z := .agg #[.string ByteArray.empty, .slice none 0 0]
 size := 2
 bytes := 40
 und := Tryz.underlying27
 info := info_parts Tryz.infoDef
 zs := rfl
 pos := by decide
 small := by decide
 rd := rdDef
 len := fun ⟨_, h, _⟩ => by rw [h]; rfl
 ones := fun {P w x cs} ⟨v, h, h1⟩ u hu => by
  obtain ⟨q, c, rfl, _⟩ := h1
  rw [h] at hu
  simp only [List.mem_cons, List.not_mem_nil, or_false] at hu
  rcases hu with rfl | rfl <;> rfl
 keep := fun hk ⟨v, h, h1⟩ => ⟨v, h, h1.keep hk⟩
 imp := fun hi ⟨v, h, h1⟩ => ⟨v, h, h1.imp hi⟩
def VD (B : Nat) (d : DefB) (w : World) (v : Value) : Prop := ∃ u, v = .agg #[.string (bstr d.1), u] ∧ RdK kdMem (Bt B w.heap.size) w d.2 u
theorem VD.kp {B g : Nat} {d : DefB} {w w' : World} {v : Value} (h : VD B d w v) (hk : Kp g w w') (hg : g < B) : VD B d w' v := by
 obtain ⟨u, h1, h2⟩ := h
 exact ⟨u, h1, h2.kp hk hg⟩
theorem VD.low {B B' : Nat} {d : DefB} {w : World} {v : Value} (h : VD B d w v) (hb : B' ≤ B) : VD B' d w v := by
 obtain ⟨u, h1, h2⟩ := h
 exact ⟨u, h1, h2.imp fun b hb' => ⟨Nat.le_trans hb hb'.1, hb'.2⟩⟩
theorem VD.form {B : Nat} {n : List UInt8} {l : List MemB} {w : World} {v : Value} (h : VD B (n, l) w v) : ∃ q c, v = .agg #[.string (bstr n), .slice q l.length c] ∧ rdDef (Bt B w.heap.size) w (n, l) [.string (bstr n), .slice q l.length c] := by
 obtain ⟨u, rfl, h2⟩ := h
 obtain ⟨q, c, rfl, h3⟩ := h2
 exact ⟨q, c, rfl, _, rfl, q, c, rfl, h3⟩
theorem VM.form {B : Nat} {n : List UInt8} {k : Int} {l : List AlB} {mk : Int} {mv mn : List UInt8} {ms : List Ex} {w : World} {v : Value} (h : VM B (n, k, l, .mk mk mv mn ms) w v) :
  ∃ q5 c5 q4 c4, v = .agg #[.string (bstr n), .int .i64 k, .slice q5 l.length c5, .int .i64 mk, .string (bstr mv), .string (bstr mn), .slice q4 ms.length c4] ∧ rdMem (Bt B w.heap.size) w (n, k, l, .mk mk mv mn ms) [.string (bstr n), .int .i64 k, .slice q5 l.length c5, .int .i64 mk, .string (bstr mv), .string (bstr mn), .slice q4 ms.length c4] := by
 obtain ⟨cs, rfl, vt, v3, v4, v5, v6, rfl, ra, re⟩ := h
 obtain ⟨q4, c4, h3, _, _⟩ := re.form
 unfold exv at h3
 dsimp only [Ex.kind, Ex.via, Ex.nm, Ex.kids] at h3
 simp only [Value.agg.injEq, Array.mk.injEq, List.cons.injEq, and_true] at h3
 obtain ⟨rfl, rfl, rfl, rfl⟩ := h3
 have ra2 := ra
 obtain ⟨q5, c5, rfl, _⟩ := ra
 exact ⟨q5, c5, q4, c4, rfl, _, _, _, _, _, rfl, ra2, re⟩
theorem Arr.setD {w : World} {t : TypeId} {g : Nat} {y0 y1 : Value} (h : Arr w t g [y0, y1]) (x0 x1 : Value) : Arr ((w.setCell ⟨g, 0, none⟩ x0).setCell ⟨g, 1, none⟩ x1) t g [x0, x1] := ((h.set 0 x0).set 1 x1)
theorem kp_setD (w : World) (g : Nat) (x0 x1 : Value) : Kp g w ((w.setCell ⟨g, 0, none⟩ x0).setCell ⟨g, 1, none⟩ x1) := (((Kp.of (pb := g) (Below.refl _ _)).set 0 x0).set 1 x1)
theorem resD {fn : Func} {p : Tmp} (h : fn.results = #[.cell p 39]) {tmps : Array Value} {w : World} {g : Nat} {x0 x1 : Value} (hA : Arr w 39 g [x0, x1]) (hp : tmps.getD p undef = .pointer (some ⟨g, 0, none⟩)) :
  (results fn tmps).run Tryz.prog w = .ok (.agg #[x0, x1]) w :=
 results_cell_row h tmps w g 39 #[x0, x1] (0, 0) _ hp hA Tryz.underlying39 rfl (by kernel_rfl)
theorem membersF_end {ts : List Tok} {n : Nat} {acc : List MemB} {s : PS} (h1 : ¬ txt ts s.i = wRelB) (h2 : ¬ txt ts s.i = wPermB) : membersF ts (n + 1) acc s = .ok acc s := by rw [membersF, if_neg (fun h => h.elim h1 h2)]
theorem membersF_many {ts : List Tok} {n : Nat} {acc : List MemB} {s : PS} (h : txt ts s.i = wRelB ∨ txt ts s.i = wPermB) (hl : ¬ acc.length < 64) : membersF ts (n + 1) acc s = .bad 15 s.i := by rw [membersF, if_pos h, if_neg hl]
theorem membersF_bad {ts : List Tok} {n : Nat} {acc : List MemB} {s : PS} {k i : Nat} (h : txt ts s.i = wRelB ∨ txt ts s.i = wPermB) (hl : acc.length < 64) (he : memberF ts s = .bad k i) : membersF ts (n + 1) acc s = .bad k i := by rw [membersF, if_pos h, if_pos hl, he]; rfl
theorem membersF_ok {ts : List Tok} {n : Nat} {acc : List MemB} {s s1 : PS} {m : MemB} (h : txt ts s.i = wRelB ∨ txt ts s.i = wPermB) (hl : acc.length < 64) (he : memberF ts s = .ok m s1) : membersF ts (n + 1) acc s = membersF ts n (acc ++ [m]) s1 := by rw [membersF, if_pos h, if_pos hl, he]; rfl
def finD (ts : List Tok) (n : List UInt8) (r : PR (List MemB)) : PR DefB := r.then fun l s3 => (wantF ts [125] s3).then fun _ s4 => .ok (n, l) s4
theorem defF_eq {ts : List Tok} {s s0 s1 s2 : PS} {n : List UInt8} (h0 : wantF ts wDefB s = .ok () s0) (h1 : nameF ts s0 = .ok n s1) (h2 : wantF ts [123] s1 = .ok () s2) : defF ts s = finD ts n (membersF ts 65 [] s2) := by
 unfold defF
 rw [h0, PR.then_ok, h1, PR.then_ok, h2, PR.then_ok]; rfl
theorem keeps_member {ts : List Tok} (h : OkTs ts) : ∀ s m s', s.i < ts.length → memberF ts s = .ok m s' → s'.i < ts.length := by
 intro s m s' hi e
 by_cases hr : txt ts s.i = wRelB
 ·rw [memberF_rel hr] at e
  obtain ⟨n, s1, e1, e⟩ := then_some e
  obtain ⟨_, s2, e2, e⟩ := then_some e
  obtain ⟨l, s3, e3, e⟩ := then_some e
  obtain ⟨_, s4, e4, e⟩ := then_some e
  cases e
  have k1 := (keeps_name h _ _ _ (h.step (by rw [hr]; decide)) e1).1
  have k2 := (keeps_want h (by decide) _ _ _ k1 e2).1
  have k3 := (keeps_types h _ _ _ _ _ k2 e3).1
  exact (keeps_want h (by decide) _ _ _ k3 e4).1
 ·rw [memberF_perm hr] at e
  obtain ⟨_, s0, e0, e⟩ := then_some e
  obtain ⟨n, s1, e1, e⟩ := then_some e
  obtain ⟨_, s2, e2, e⟩ := then_some e
  obtain ⟨x, s3, e3, e⟩ := then_some e
  obtain ⟨_, s4, e4, e⟩ := then_some e
  cases e
  have k0 := (keeps_want h (by decide) _ _ _ hi e0).1
  have k1 := (keeps_name h _ _ _ k0 e1).1
  have k2 := (keeps_want h (by decide) _ _ _ k1 e2).1
  have k3 := keeps_expr h k2 e3
  exact (keeps_want h (by decide) _ _ _ k3 e4).1
def mlen (g off : Nat) (w : World) : Nat := match w.cell? ⟨g, off, none⟩ with
 | some (.slice _ n _) => n
 | _ => 0
theorem mlen_arr {w : World} {t : TypeId} {g : Nat} {cs : List Value} {q : Option Addr} {n c : Nat} (h : Arr w t g cs) (off : Nat) (hc : cs[off]? = some (.slice q n c)) : mlen g off w = n := by
 unfold mlen
 rw [h.cell off, hc]
section
variable {W : World} {pb tb c : Nat} {ts : List Tok} {s : PS}
set_option maxRecDepth 100000 in
set_option maxHeartbeats 2000000 in
theorem def_any (ho : OkTs ts) (h : PP W pb tb c ts s) (hi : s.i < ts.length) : Calls Tryz.prog 50 #[.pointer (some ⟨pb, 0, none⟩)] W (QR pb tb c ts W (defF ts s) (VD W.heap.size)) := by
 have hb0 : Below W.heap.size W (W.alloc (.cells #[.string ⟨#[]⟩, .slice none 0 0] 39)) := (Below.refl _ _).alloc (Nat.le_refl _) _
 have HP0 := hiD (h.later hb0)
 have HK0 := hiD (Kp.of (pb := pb) hb0)
 have HA0 : Hid (Arr (W.alloc (.cells #[.string ⟨#[]⟩, .slice none 0 0] 39)) 39 W.heap.size [.string ⟨#[]⟩, .slice none 0 0]) := Arr.new' _ _ _ _ rfl
 have HLT : Hid (pb < W.heap.size) := h.1.lt
 have HH := hiD hi
 have HO := hiD ho
 have HW0 := hiD (want_any HP0.out hi ⟨#[100, 101, 102, 105, 110, 105, 116, 105, 111, 110]⟩ wDefB rfl)
 clear h hi hb0 ho
 go_enter Tryz.func50, Tryz.ntmps50
 go_wp2_with fail
 refine HW0.out.mono ?_
 rintro r w1 (⟨x, s0, v, e0, rfl, _, p0, k0⟩ | ⟨k, i, ez, rfl, kz⟩)
 ·have HE0 := hiD e0
  have HS0 : Hid (s0.i < ts.length) := (keeps_want HO.out (by decide) _ _ _ HH.out e0).1
  have HP1 := hiD p0
  have HK1 := hiD (HK0.out.trans k0)
  have HA1 := hiD (k0.arr HA0.out (by have := HLT.out; omega))
  have HN1 := hiD (name_any HP1.out HS0.out)
  clear e0 p0 k0 HW0 HP0 HK0 HA0
  go_wp2_with fail
  refine HN1.out.mono ?_
  rintro r w2 (⟨n, s2, v, e2, rfl, rfl, p2, k2⟩ | ⟨k, i, ez, rfl, kz⟩)
  ·have HE2 := hiD e2
   have HS2 : Hid (s2.i < ts.length) := (keeps_name HO.out _ _ _ HS0.out e2).1
   have HA2 := hiD (k2.arr HA1.out (by have := HLT.out; omega))
   have HP2 : Hid (PP (w2.setCell ⟨W.heap.size, 0, none⟩ (.string (bstr n))) pb tb c ts s2) := p2.box HLT.out _ _
   have HK2 := hiD ((HK1.out.trans k2).box (Nat.le_refl _) 0 (.string (bstr n)))
   have HA2' : Hid (Arr (w2.setCell ⟨W.heap.size, 0, none⟩ (.string (bstr n))) 39 W.heap.size [.string (bstr n), .slice none 0 0]) := HA2.out.set 0 (.string (bstr n))
   have HW4 := hiD (want_any HP2.out HS2.out ⟨#[123]⟩ [123] rfl)
   clear e2 p2 k2 HN1
   obtain ⟨x0, y0, x1, y1⟩ := HA2.out.all2
   go_wp2_with fail
   clear x0 y0 x1 y1
   refine HW4.out.mono ?_
   rintro r w3 (⟨x, s3, v, e3, rfl, _, p3, k3⟩ | ⟨k, i, ez, rfl, kz⟩)
   ·have HS3 : Hid (s3.i < ts.length) := (keeps_want HO.out (by decide) _ _ _ HS2.out e3).1
    have HP3 := hiD p3
    have HA3 := hiD (k3.arr HA2'.out (by have := HLT.out; omega))
    have HK3 := hiD (HK2.out.trans k3)
    have HE3 := hiD (defF_eq HE0.out HE2.out e3)
    clear e3 p3 k3 HW4 HE0 HE2 HA2 HA2' HP2 HK2 HA1 HP1 HK1
    go_wp2_with fail
    go_loopw [15] (fun _ wr => ∃ (m : Nat) (acc : List MemB) (s4 : PS) (q : Option Addr) (cc : Nat), acc.length + m = 65 ∧ acc.length ≤ 64 ∧ Hid (PRow kdMem (W.heap.size + 1) (fun _ => False) wr (.slice q acc.length cc) acc) ∧ Hid (Arr wr 39 W.heap.size [.string (bstr n), .slice q acc.length cc]) ∧ Hid (PP wr pb tb c ts s4) ∧ Hid (s4.i < ts.length) ∧ Hid (Kp pb W wr) ∧ Hid (defF ts s = finD ts n (membersF ts m acc s4))) (fun _ wr => 65 - mlen W.heap.size 1 wr)
    case atStart => exact ⟨65, [], s3, none, 0, rfl, by simp, PRow.nil _ _ _ _, HA3.out, HP3.out, HS3.out, HK3.out, HE3.out⟩
    case round =>
     obtain ⟨m, acc, s4, q, cc, hm, h64, HRW, HA, HP, HS4, HK, HE⟩ := hrel
     obtain ⟨m, rfl⟩ : ∃ j, m = j + 1 := ⟨m - 1, by omega⟩
     have HM := hiD hm
     have HI1 := hiD (is_any HP.out HS4.out ⟨#[114, 101, 108, 97, 116, 105, 111, 110]⟩ wRelB rfl)
     obtain ⟨d1, hd1⟩ : ∃ d, d = decide (txt ts s4.i = wRelB) := ⟨_, rfl⟩
     have HD1 := hiD hd1
     rw [← hd1] at HI1
     clear hd1
     go_wp2_with fail
     refine HI1.out.mono ?_
     rintro r w5 ⟨rfl, b5⟩
     have HRW5 := hiD (HRW.out.later b5)
     have HA5 := hiD (HA.out.later b5)
     have HP5 := hiD (HP.out.later b5)
     have HK5 := hiD (HK.out.trans (Kp.of (pb := pb) b5))
     clear b5 HI1
     cases d1 with
     | true =>
      have HT : Hid (txt ts s4.i = wRelB ∨ txt ts s4.i = wPermB) := .inl (of_decide_eq_true HD1.out.symm)
      have HRW6 := hiD HRW5.out
      have HA6 := hiD HA5.out
      have HP6 := hiD HP5.out
      have HK6 := hiD HK5.out
      clear HRW5 HA5 HP5 HK5
      generalize w5 = w6 at HRW6 HA6 HP6 HK6 ⊢
      obtain ⟨x0, y0, x1, y1⟩ := HA6.out.all2
      by_cases h6 : acc.length < 64
      ·have hl1 : (acc.length : Int) < 64 := by omega
       have HA64 := hiD h6
       have HAC : Hid (acc.length + 1 ≤ 200000) := by show _ ≤ _; omega
       clear h6
       go_wp2_with fail
       refine (need_t 15).mono ?_
       rintro r w6 ⟨rfl, rfl⟩
       go_upto_region 6 with (fail)
       clear x0 y0 x1 y1
       refine wp_region_held_drew (S := fun _ => True) (by kernel_rfl) trivial (fun hHeld => ?_)
       try simp only [Act.put]
       have hb7 : Below w6.heap.size w6 w6.drew := (Below.refl _ _).drew
       have HP7 := hiD (HP6.out.later hb7)
       have HK7 := hiD (HK6.out.trans (Kp.of (pb := pb) hb7))
       have HA7 := hiD (HA6.out.later hb7)
       have HRW7 := hiD (HRW6.out.later hb7)
       clear hb7
       generalize w6.drew = w7 at HP7 HK7 HA7 HRW7 ⊢
       have HN7 := hiD (member_any HO.out HP7.out HS4.out)
       have HGL : Hid (W.heap.size < w7.heap.size) := HA7.out.lt
       have HBL : Hid (∀ b, (Value.slice q acc.length cc).ownBlock = some b → b < w7.heap.size) := fun b hb => by obtain ⟨_, h, _⟩ := HRW7.out; exact (h.lt b hb).2
       refine wpAnyH_take (i := 0) (oi := ⟨some 22, _, _, _, _, _⟩) (v := .pointer (some ⟨W.heap.size, 1, none⟩)) rfl (by kernel_rfl) (by kernel_rfl) (by kernel_rfl) (fun _ _ _ h => h) (.inl ⟨by rfl, fun w' hSw => ?_⟩) hHeld ?_
       focus (skip; clear hHeld; go_simp)
       try simp only [Act.put, pz0, pz1, pz2]
       refine wpAnyH_take (i := 2) (oi := ⟨some 24, _, _, _, _, _⟩) (v := .pointer (some ⟨pb, 0, none⟩)) rfl (by kernel_rfl) (by kernel_rfl) (by kernel_rfl) (fun _ _ _ h => h) (.inl ⟨by rfl, fun w' hSw => ?_⟩) hHeld ?_
       focus (skip; clear hHeld; go_simp)
       try simp only [Act.put, pz0, pz1, pz2]
       refine wpAnyH_ready (rs := [1, 3]) (by kernel_rfl) (by simp) ?_
       refine AllReadyH.cons (o := ⟨some 23, _, _, _, _, _⟩) rfl (fun K' hK' => ?_) (AllReadyH.cons (o := ⟨some 25, _, _, _, _, _⟩) rfl (fun K' hK' => ?_) AllReadyH.nil)
       ·have x0 := HA7.out.cell 0
        have y0 := HA7.out.free 0
        have x1 := HA7.out.cell 1
        have y1 := HA7.out.free 1
        simp only [List.getElem?_cons_zero, List.getElem?_cons_succ] at x0 x1
        go_simp
        clear x0 y0 x1 y1
        refine hK'.out _ _ trivial (fun _ => ?_)
        clear hK' K'
        try simp only [Act.put, pz0, pz1, pz2]
        refine wpAnyH_ready (rs := [3]) (by kernel_rfl) (by simp) ?_
        refine AllReadyH.cons (o := ⟨some 25, _, _, _, _, _⟩) rfl (fun K' hK' => ?_) AllReadyH.nil
        refine stepw_calls (by rfl) ?_ HN7.out (fun w => QR.grown w) ?_ ?_
        focus go_simp
        ·rintro ch w8 hpan
         obtain ⟨k, i, e8, rfl, k8⟩ := hpan.pan
         have HK8 := hiD (HK7.out.trans k8)
         have HE2 : Hid (defF ts s = .bad k i) := by
          show _ = _
          rw [HE.out, membersF_bad HT.out HA64.out e8]; rfl
         clear e8 k8 hpan
         exact ⟨rfl, .inr ⟨k, i, HE2.out, rfl, HK8.out⟩⟩
        rintro v w8 hret
        obtain ⟨e, s8, e8, r8, p8, k8⟩ := hret.ret
        have HE8 := hiD e8
        have HS8 : Hid (s8.i < ts.length) := keeps_member HO.out _ _ _ HS4.out e8
        obtain ⟨n1, n2, n3, mk, mv, mn, ms⟩ := e
        obtain ⟨q5, c5, q4, c4, rfl, r8b⟩ := VM.form r8
        have HR8 := hiD r8b
        clear r8 r8b
        have HRW8 := hiD (HRW7.out.turn (w' := w8) k8.2.2.2.1 (fun b hb hl _ => k8.2.2.2.2 b hl (by have := HLT.out; omega)))
        have HA8 := hiD (k8.arr HA7.out (by have := HLT.out; omega))
        have HP8 := hiD p8
        have HK8 := hiD (HK7.out.trans k8)
        clear e8 p8 k8 hret
        refine hK'.out _ _ trivial (fun _ => ?_)
        clear hK' K'
        try simp only [Act.put, pz0, pz1, pz2]
        refine wpAnyH_ready (rs := [4]) (by kernel_rfl) (by simp) ?_
        refine AllReadyH.cons (o := ⟨some 26, _, _, _, _, _⟩) rfl (fun K' hK' => ?_) AllReadyH.nil
        go_simp
        refine hK'.out _ _ trivial (fun _ => ?_)
        clear hK' K'
        try simp only [Act.put, pz0, pz1, pz2]
        have HB9 : Hid (Below w8.heap.size w8 (w8.alloc (.cells #[.string (bstr n1), .int .i64 n2, .slice q5 n3.length c5, .int .i64 mk, .string (bstr mv), .string (bstr mn), .slice q4 ms.length c4] 48))) := (Below.refl _ _).alloc (Nat.le_refl _) _
        have HRW9 := hiD (HRW8.out.later HB9.out)
        have HA9 := hiD (HA8.out.later HB9.out)
        have HP9 := hiD (HP8.out.later HB9.out)
        have HK9 := hiD (HK8.out.trans (Kp.of HB9.out))
        have HE9 : Hid (Arr (w8.alloc (.cells #[.string (bstr n1), .int .i64 n2, .slice q5 n3.length c5, .int .i64 mk, .string (bstr mv), .string (bstr mn), .slice q4 ms.length c4] 48)) 48 w8.heap.size [.string (bstr n1), .int .i64 n2, .slice q5 n3.length c5, .int .i64 mk, .string (bstr mv), .string (bstr mn), .slice q4 ms.length c4]) := Arr.new' _ _ _ _ rfl
        have HR9 : Hid (kdMem.rd (SubX (W.heap.size + 1) (fun _ => False) (w8.alloc (.cells #[.string (bstr n1), .int .i64 n2, .slice q5 n3.length c5, .int .i64 mk, .string (bstr mv), .string (bstr mn), .slice q4 ms.length c4] 48)) (.slice q acc.length cc)) (w8.alloc (.cells #[.string (bstr n1), .int .i64 n2, .slice q5 n3.length c5, .int .i64 mk, .string (bstr mv), .string (bstr mn), .slice q4 ms.length c4] 48)) (n1, n2, n3, .mk mk mv mn ms) [.string (bstr n1), .int .i64 n2, .slice q5 n3.length c5, .int .i64 mk, .string (bstr mv), .string (bstr mn), .slice q4 ms.length c4]) := kdMem.imp (fun b hb => ⟨by have := HGL.out; have := hb.1; omega, Nat.lt_of_lt_of_le hb.2 HB9.out.size, fun e => by have h1 := (HBL.out b e.symm); have := hb.1; omega, fun h => h⟩) (kdMem.keep (fun b hb n => HB9.out.cell (p := ⟨b, n, none⟩) hb.2) HR8.out)
        generalize w8.alloc (.cells #[.string (bstr n1), .int .i64 n2, .slice q5 n3.length c5, .int .i64 mk, .string (bstr mv), .string (bstr mn), .slice q4 ms.length c4] 48) = w9 at HRW9 HA9 HP9 HK9 HE9 HR9 ⊢
        clear HB9
        refine wpAnyH_ready (rs := [5]) (by kernel_rfl) (by simp) ?_
        refine AllReadyH.cons (o := ⟨some 27, _, _, _, _, _⟩) rfl (fun K' hK' => ?_) AllReadyH.nil
        refine step_row (K := kdMem) rfl (.tmp 23) (.tmp 26) rfl rfl HRW9.out rfl HE9.out HR9.out HAC.out HA9.out.lt (fun b h => h.elim) ?_
        intro v10 w10 r10 g10 o10
        have HP10 := hiD (HP9.out.below (B := W.heap.size) ((Below.refl _ _).grown g10 (Nat.le_of_lt HA9.out.lt) (fun k hk => Nat.le_of_succ_le (o10 k hk).1)) HLT.out)
        have HK10 := hiD (HK9.out.grown g10 (fun k hk => Nat.le_of_succ_le (o10 k hk).1))
        have HA10 : Hid (Arr w10 39 W.heap.size [.string (bstr n), .slice q acc.length cc]) := (g10.block _ HA9.out.lt (fun e => absurd (o10 _ e.symm).1 (by omega))).trans HA9.out
        have HRW10 := hiD r10
        obtain ⟨q10, c10, hv10⟩ := r10.form
        rw [List.length_append, List.length_singleton] at hv10
        subst hv10
        clear r10 g10 o10
        refine hK'.out _ _ trivial (fun _ => ?_)
        clear hK' K'
        try simp only [Act.put, pz0, pz1, pz2]
        refine wpAnyH_take (i := 6) (oi := ⟨some 28, _, _, _, _, _⟩) (v := .pointer (some ⟨W.heap.size, 1, none⟩)) rfl (by kernel_rfl) (by kernel_rfl) (by kernel_rfl) (fun _ _ _ h => h) (.inl ⟨by rfl, fun w' hSw => ?_⟩) hHeld ?_
        focus (skip; clear hHeld; go_simp)
        try simp only [Act.put, pz0, pz1, pz2]
        refine wpAnyH_ready (rs := [7]) (by kernel_rfl) (by simp) ?_
        refine AllReadyH.cons (o := ⟨none, _, _, _, _, _⟩) rfl (fun K' hK' => ?_) AllReadyH.nil
        obtain ⟨x0, y0, x1, y1⟩ := HA10.out.all2
        go_simp
        clear x0 y0 x1 y1
        refine hK'.out _ _ trivial (fun _ => ?_)
        clear hK' K'
        try simp only [Act.put, pz0, pz1, pz2]
        have HA11 : Hid (Arr (w10.setCell ⟨W.heap.size, 1, none⟩ (.slice q10 (acc.length + 1) c10)) 39 W.heap.size [.string (bstr n), .slice q10 (acc.length + 1) c10]) := HA10.out.set 1 _
        have HRW11 := hiD (HRW10.out.box (.inl (Nat.lt_succ_self _)) 1 (.slice q10 (acc.length + 1) c10))
        have HP11 := hiD (HP10.out.box HLT.out 1 (.slice q10 (acc.length + 1) c10))
        have HK11 := hiD (HK10.out.box (Nat.le_refl _) 1 (.slice q10 (acc.length + 1) c10))
        refine wpAnyH_done (by kernel_rfl) ?_ _
        clear HRW10 HA10 HP10 HK10 HRW9 HA9 HP9 HK9 HE9 HR9 HRW8 HA8 HP8 HK8 HR8
        generalize (w10.setCell ⟨W.heap.size, 1, none⟩ (.slice q10 (acc.length + 1) c10)) = w11 at HA11 HRW11 HP11 HK11 ⊢
        have HE11 : Hid (defF ts s = finD ts n (membersF ts m (acc ++ [(n1, n2, n3, Ex.mk mk mv mn ms)]) s8)) := by
         show _ = _
         rw [HE.out, membersF_ok HT.out HA64.out HE8.out]
        go_wp2_with fail
        go_roundw
        case rel => exact ⟨m, acc ++ [(n1, n2, n3, Ex.mk mk mv mn ms)], s8, q10, c10, by rw [List.length_append, List.length_singleton]; omega, by rw [List.length_append, List.length_singleton]; have := HA64.out; omega, by rw [List.length_append, List.length_singleton]; exact HRW11.out, by rw [List.length_append, List.length_singleton]; exact HA11.out, HP11.out, HS8.out, HK11.out, HE11.out⟩
        case measure => rw [mlen_arr HA11.out 1 rfl, mlen_arr HA.out 1 rfl]; have := HA64.out; omega
       ·refine stepw_calls (by rfl) ?_ HN7.out (fun w => QR.grown w) ?_ ?_
        focus go_simp
        ·rintro ch w8 hpan
         obtain ⟨k, i, e8, rfl, k8⟩ := hpan.pan
         have HK8 := hiD (HK7.out.trans k8)
         have HE2 : Hid (defF ts s = .bad k i) := by
          show _ = _
          rw [HE.out, membersF_bad HT.out HA64.out e8]; rfl
         clear e8 k8 hpan
         exact ⟨rfl, .inr ⟨k, i, HE2.out, rfl, HK8.out⟩⟩
        rintro v w8 hret
        obtain ⟨e, s8, e8, r8, p8, k8⟩ := hret.ret
        have HE8 := hiD e8
        have HS8 : Hid (s8.i < ts.length) := keeps_member HO.out _ _ _ HS4.out e8
        obtain ⟨n1, n2, n3, mk, mv, mn, ms⟩ := e
        obtain ⟨q5, c5, q4, c4, rfl, r8b⟩ := VM.form r8
        have HR8 := hiD r8b
        clear r8 r8b
        have HRW8 := hiD (HRW7.out.turn (w' := w8) k8.2.2.2.1 (fun b hb hl _ => k8.2.2.2.2 b hl (by have := HLT.out; omega)))
        have HA8 := hiD (k8.arr HA7.out (by have := HLT.out; omega))
        have HP8 := hiD p8
        have HK8 := hiD (HK7.out.trans k8)
        clear e8 p8 k8 hret
        refine hK'.out _ _ trivial (fun _ => ?_)
        clear hK' K'
        try simp only [Act.put, pz0, pz1, pz2]
        refine wpAnyH_ready (rs := [1, 4]) (by kernel_rfl) (by simp) ?_
        refine AllReadyH.cons (o := ⟨some 23, _, _, _, _, _⟩) rfl (fun K' hK' => ?_) (AllReadyH.cons (o := ⟨some 26, _, _, _, _, _⟩) rfl (fun K' hK' => ?_) AllReadyH.nil)
        ·have x0 := HA8.out.cell 0
         have y0 := HA8.out.free 0
         have x1 := HA8.out.cell 1
         have y1 := HA8.out.free 1
         simp only [List.getElem?_cons_zero, List.getElem?_cons_succ] at x0 x1
         go_simp
         clear x0 y0 x1 y1
         refine hK'.out _ _ trivial (fun _ => ?_)
         clear hK' K'
         try simp only [Act.put, pz0, pz1, pz2]
         refine wpAnyH_ready (rs := [4]) (by kernel_rfl) (by simp) ?_
         refine AllReadyH.cons (o := ⟨some 26, _, _, _, _, _⟩) rfl (fun K' hK' => ?_) AllReadyH.nil
         go_simp
         refine hK'.out _ _ trivial (fun _ => ?_)
         clear hK' K'
         try simp only [Act.put, pz0, pz1, pz2]
         have HB9 : Hid (Below w8.heap.size w8 (w8.alloc (.cells #[.string (bstr n1), .int .i64 n2, .slice q5 n3.length c5, .int .i64 mk, .string (bstr mv), .string (bstr mn), .slice q4 ms.length c4] 48))) := (Below.refl _ _).alloc (Nat.le_refl _) _
         have HRW9 := hiD (HRW8.out.later HB9.out)
         have HA9 := hiD (HA8.out.later HB9.out)
         have HP9 := hiD (HP8.out.later HB9.out)
         have HK9 := hiD (HK8.out.trans (Kp.of HB9.out))
         have HE9 : Hid (Arr (w8.alloc (.cells #[.string (bstr n1), .int .i64 n2, .slice q5 n3.length c5, .int .i64 mk, .string (bstr mv), .string (bstr mn), .slice q4 ms.length c4] 48)) 48 w8.heap.size [.string (bstr n1), .int .i64 n2, .slice q5 n3.length c5, .int .i64 mk, .string (bstr mv), .string (bstr mn), .slice q4 ms.length c4]) := Arr.new' _ _ _ _ rfl
         have HR9 : Hid (kdMem.rd (SubX (W.heap.size + 1) (fun _ => False) (w8.alloc (.cells #[.string (bstr n1), .int .i64 n2, .slice q5 n3.length c5, .int .i64 mk, .string (bstr mv), .string (bstr mn), .slice q4 ms.length c4] 48)) (.slice q acc.length cc)) (w8.alloc (.cells #[.string (bstr n1), .int .i64 n2, .slice q5 n3.length c5, .int .i64 mk, .string (bstr mv), .string (bstr mn), .slice q4 ms.length c4] 48)) (n1, n2, n3, .mk mk mv mn ms) [.string (bstr n1), .int .i64 n2, .slice q5 n3.length c5, .int .i64 mk, .string (bstr mv), .string (bstr mn), .slice q4 ms.length c4]) := kdMem.imp (fun b hb => ⟨by have := HGL.out; have := hb.1; omega, Nat.lt_of_lt_of_le hb.2 HB9.out.size, fun e => by have h1 := (HBL.out b e.symm); have := hb.1; omega, fun h => h⟩) (kdMem.keep (fun b hb n => HB9.out.cell (p := ⟨b, n, none⟩) hb.2) HR8.out)
         generalize w8.alloc (.cells #[.string (bstr n1), .int .i64 n2, .slice q5 n3.length c5, .int .i64 mk, .string (bstr mv), .string (bstr mn), .slice q4 ms.length c4] 48) = w9 at HRW9 HA9 HP9 HK9 HE9 HR9 ⊢
         clear HB9
         refine wpAnyH_ready (rs := [5]) (by kernel_rfl) (by simp) ?_
         refine AllReadyH.cons (o := ⟨some 27, _, _, _, _, _⟩) rfl (fun K' hK' => ?_) AllReadyH.nil
         refine step_row (K := kdMem) rfl (.tmp 23) (.tmp 26) rfl rfl HRW9.out rfl HE9.out HR9.out HAC.out HA9.out.lt (fun b h => h.elim) ?_
         intro v10 w10 r10 g10 o10
         have HP10 := hiD (HP9.out.below (B := W.heap.size) ((Below.refl _ _).grown g10 (Nat.le_of_lt HA9.out.lt) (fun k hk => Nat.le_of_succ_le (o10 k hk).1)) HLT.out)
         have HK10 := hiD (HK9.out.grown g10 (fun k hk => Nat.le_of_succ_le (o10 k hk).1))
         have HA10 : Hid (Arr w10 39 W.heap.size [.string (bstr n), .slice q acc.length cc]) := (g10.block _ HA9.out.lt (fun e => absurd (o10 _ e.symm).1 (by omega))).trans HA9.out
         have HRW10 := hiD r10
         obtain ⟨q10, c10, hv10⟩ := r10.form
         rw [List.length_append, List.length_singleton] at hv10
         subst hv10
         clear r10 g10 o10
         refine hK'.out _ _ trivial (fun _ => ?_)
         clear hK' K'
         try simp only [Act.put, pz0, pz1, pz2]
         refine wpAnyH_take (i := 6) (oi := ⟨some 28, _, _, _, _, _⟩) (v := .pointer (some ⟨W.heap.size, 1, none⟩)) rfl (by kernel_rfl) (by kernel_rfl) (by kernel_rfl) (fun _ _ _ h => h) (.inl ⟨by rfl, fun w' hSw => ?_⟩) hHeld ?_
         focus (skip; clear hHeld; go_simp)
         try simp only [Act.put, pz0, pz1, pz2]
         refine wpAnyH_ready (rs := [7]) (by kernel_rfl) (by simp) ?_
         refine AllReadyH.cons (o := ⟨none, _, _, _, _, _⟩) rfl (fun K' hK' => ?_) AllReadyH.nil
         obtain ⟨x0, y0, x1, y1⟩ := HA10.out.all2
         go_simp
         clear x0 y0 x1 y1
         refine hK'.out _ _ trivial (fun _ => ?_)
         clear hK' K'
         try simp only [Act.put, pz0, pz1, pz2]
         have HA11 : Hid (Arr (w10.setCell ⟨W.heap.size, 1, none⟩ (.slice q10 (acc.length + 1) c10)) 39 W.heap.size [.string (bstr n), .slice q10 (acc.length + 1) c10]) := HA10.out.set 1 _
         have HRW11 := hiD (HRW10.out.box (.inl (Nat.lt_succ_self _)) 1 (.slice q10 (acc.length + 1) c10))
         have HP11 := hiD (HP10.out.box HLT.out 1 (.slice q10 (acc.length + 1) c10))
         have HK11 := hiD (HK10.out.box (Nat.le_refl _) 1 (.slice q10 (acc.length + 1) c10))
         refine wpAnyH_done (by kernel_rfl) ?_ _
         clear HRW10 HA10 HP10 HK10 HRW9 HA9 HP9 HK9 HE9 HR9 HRW8 HA8 HP8 HK8 HR8
         generalize (w10.setCell ⟨W.heap.size, 1, none⟩ (.slice q10 (acc.length + 1) c10)) = w11 at HA11 HRW11 HP11 HK11 ⊢
         have HE11 : Hid (defF ts s = finD ts n (membersF ts m (acc ++ [(n1, n2, n3, Ex.mk mk mv mn ms)]) s8)) := by
          show _ = _
          rw [HE.out, membersF_ok HT.out HA64.out HE8.out]
         go_wp2_with fail
         go_roundw
         case rel => exact ⟨m, acc ++ [(n1, n2, n3, Ex.mk mk mv mn ms)], s8, q10, c10, by rw [List.length_append, List.length_singleton]; omega, by rw [List.length_append, List.length_singleton]; have := HA64.out; omega, by rw [List.length_append, List.length_singleton]; exact HRW11.out, by rw [List.length_append, List.length_singleton]; exact HA11.out, HP11.out, HS8.out, HK11.out, HE11.out⟩
         case measure => rw [mlen_arr HA11.out 1 rfl, mlen_arr HA.out 1 rfl]; have := HA64.out; omega
        ·go_simp
         refine hK'.out _ _ trivial (fun _ => ?_)
         clear hK' K'
         try simp only [Act.put, pz0, pz1, pz2]
         have HB9 : Hid (Below w8.heap.size w8 (w8.alloc (.cells #[.string (bstr n1), .int .i64 n2, .slice q5 n3.length c5, .int .i64 mk, .string (bstr mv), .string (bstr mn), .slice q4 ms.length c4] 48))) := (Below.refl _ _).alloc (Nat.le_refl _) _
         have HRW9 := hiD (HRW8.out.later HB9.out)
         have HA9 := hiD (HA8.out.later HB9.out)
         have HP9 := hiD (HP8.out.later HB9.out)
         have HK9 := hiD (HK8.out.trans (Kp.of HB9.out))
         have HE9 : Hid (Arr (w8.alloc (.cells #[.string (bstr n1), .int .i64 n2, .slice q5 n3.length c5, .int .i64 mk, .string (bstr mv), .string (bstr mn), .slice q4 ms.length c4] 48)) 48 w8.heap.size [.string (bstr n1), .int .i64 n2, .slice q5 n3.length c5, .int .i64 mk, .string (bstr mv), .string (bstr mn), .slice q4 ms.length c4]) := Arr.new' _ _ _ _ rfl
         have HR9 : Hid (kdMem.rd (SubX (W.heap.size + 1) (fun _ => False) (w8.alloc (.cells #[.string (bstr n1), .int .i64 n2, .slice q5 n3.length c5, .int .i64 mk, .string (bstr mv), .string (bstr mn), .slice q4 ms.length c4] 48)) (.slice q acc.length cc)) (w8.alloc (.cells #[.string (bstr n1), .int .i64 n2, .slice q5 n3.length c5, .int .i64 mk, .string (bstr mv), .string (bstr mn), .slice q4 ms.length c4] 48)) (n1, n2, n3, .mk mk mv mn ms) [.string (bstr n1), .int .i64 n2, .slice q5 n3.length c5, .int .i64 mk, .string (bstr mv), .string (bstr mn), .slice q4 ms.length c4]) := kdMem.imp (fun b hb => ⟨by have := HGL.out; have := hb.1; omega, Nat.lt_of_lt_of_le hb.2 HB9.out.size, fun e => by have h1 := (HBL.out b e.symm); have := hb.1; omega, fun h => h⟩) (kdMem.keep (fun b hb n => HB9.out.cell (p := ⟨b, n, none⟩) hb.2) HR8.out)
         generalize w8.alloc (.cells #[.string (bstr n1), .int .i64 n2, .slice q5 n3.length c5, .int .i64 mk, .string (bstr mv), .string (bstr mn), .slice q4 ms.length c4] 48) = w9 at HRW9 HA9 HP9 HK9 HE9 HR9 ⊢
         clear HB9
         refine wpAnyH_ready (rs := [1]) (by kernel_rfl) (by simp) ?_
         refine AllReadyH.cons (o := ⟨some 23, _, _, _, _, _⟩) rfl (fun K' hK' => ?_) AllReadyH.nil
         obtain ⟨x0, y0, x1, y1⟩ := HA9.out.all2
         go_simp
         clear x0 y0 x1 y1
         refine hK'.out _ _ trivial (fun _ => ?_)
         clear hK' K'
         try simp only [Act.put, pz0, pz1, pz2]
         refine wpAnyH_ready (rs := [5]) (by kernel_rfl) (by simp) ?_
         refine AllReadyH.cons (o := ⟨some 27, _, _, _, _, _⟩) rfl (fun K' hK' => ?_) AllReadyH.nil
         refine step_row (K := kdMem) rfl (.tmp 23) (.tmp 26) rfl rfl HRW9.out rfl HE9.out HR9.out HAC.out HA9.out.lt (fun b h => h.elim) ?_
         intro v10 w10 r10 g10 o10
         have HP10 := hiD (HP9.out.below (B := W.heap.size) ((Below.refl _ _).grown g10 (Nat.le_of_lt HA9.out.lt) (fun k hk => Nat.le_of_succ_le (o10 k hk).1)) HLT.out)
         have HK10 := hiD (HK9.out.grown g10 (fun k hk => Nat.le_of_succ_le (o10 k hk).1))
         have HA10 : Hid (Arr w10 39 W.heap.size [.string (bstr n), .slice q acc.length cc]) := (g10.block _ HA9.out.lt (fun e => absurd (o10 _ e.symm).1 (by omega))).trans HA9.out
         have HRW10 := hiD r10
         obtain ⟨q10, c10, hv10⟩ := r10.form
         rw [List.length_append, List.length_singleton] at hv10
         subst hv10
         clear r10 g10 o10
         refine hK'.out _ _ trivial (fun _ => ?_)
         clear hK' K'
         try simp only [Act.put, pz0, pz1, pz2]
         refine wpAnyH_take (i := 6) (oi := ⟨some 28, _, _, _, _, _⟩) (v := .pointer (some ⟨W.heap.size, 1, none⟩)) rfl (by kernel_rfl) (by kernel_rfl) (by kernel_rfl) (fun _ _ _ h => h) (.inl ⟨by rfl, fun w' hSw => ?_⟩) hHeld ?_
         focus (skip; clear hHeld; go_simp)
         try simp only [Act.put, pz0, pz1, pz2]
         refine wpAnyH_ready (rs := [7]) (by kernel_rfl) (by simp) ?_
         refine AllReadyH.cons (o := ⟨none, _, _, _, _, _⟩) rfl (fun K' hK' => ?_) AllReadyH.nil
         obtain ⟨x0, y0, x1, y1⟩ := HA10.out.all2
         go_simp
         clear x0 y0 x1 y1
         refine hK'.out _ _ trivial (fun _ => ?_)
         clear hK' K'
         try simp only [Act.put, pz0, pz1, pz2]
         have HA11 : Hid (Arr (w10.setCell ⟨W.heap.size, 1, none⟩ (.slice q10 (acc.length + 1) c10)) 39 W.heap.size [.string (bstr n), .slice q10 (acc.length + 1) c10]) := HA10.out.set 1 _
         have HRW11 := hiD (HRW10.out.box (.inl (Nat.lt_succ_self _)) 1 (.slice q10 (acc.length + 1) c10))
         have HP11 := hiD (HP10.out.box HLT.out 1 (.slice q10 (acc.length + 1) c10))
         have HK11 := hiD (HK10.out.box (Nat.le_refl _) 1 (.slice q10 (acc.length + 1) c10))
         refine wpAnyH_done (by kernel_rfl) ?_ _
         clear HRW10 HA10 HP10 HK10 HRW9 HA9 HP9 HK9 HE9 HR9 HRW8 HA8 HP8 HK8 HR8
         generalize (w10.setCell ⟨W.heap.size, 1, none⟩ (.slice q10 (acc.length + 1) c10)) = w11 at HA11 HRW11 HP11 HK11 ⊢
         have HE11 : Hid (defF ts s = finD ts n (membersF ts m (acc ++ [(n1, n2, n3, Ex.mk mk mv mn ms)]) s8)) := by
          show _ = _
          rw [HE.out, membersF_ok HT.out HA64.out HE8.out]
         go_wp2_with fail
         go_roundw
         case rel => exact ⟨m, acc ++ [(n1, n2, n3, Ex.mk mk mv mn ms)], s8, q10, c10, by rw [List.length_append, List.length_singleton]; omega, by rw [List.length_append, List.length_singleton]; have := HA64.out; omega, by rw [List.length_append, List.length_singleton]; exact HRW11.out, by rw [List.length_append, List.length_singleton]; exact HA11.out, HP11.out, HS8.out, HK11.out, HE11.out⟩
         case measure => rw [mlen_arr HA11.out 1 rfl, mlen_arr HA.out 1 rfl]; have := HA64.out; omega
      ·have hl1 : ¬ (acc.length : Int) < 64 := by omega
       have HEb : Hid (defF ts s = .bad 15 s4.i) := by
        show _ = _
        rw [HE.out, membersF_many HT.out h6]; rfl
       clear h6
       go_wp2_with fail
       rw [show decide ((acc.length : Int) < 64) = false from decide_eq_false (by omega)]
       refine (need_f HP6.out HS4.out 15).mono ?_
       rintro r w7 ⟨rfl, b7⟩
       have HK7 := hiD (HK6.out.trans (Kp.of (pb := pb) b7))
       clear b7
       go_wp2_with fail
       exact ⟨rfl, .inr ⟨15, s4.i, HEb.out, rfl, HK7.out⟩⟩
     | false =>
      have HI2 := hiD (is_any HP5.out HS4.out ⟨#[112, 101, 114, 109, 105, 115, 115, 105, 111, 110]⟩ wPermB rfl)
      obtain ⟨d2, hd2⟩ : ∃ d, d = decide (txt ts s4.i = wPermB) := ⟨_, rfl⟩
      have HD2 := hiD hd2
      rw [← hd2] at HI2
      clear hd2
      go_wp2_with fail
      refine HI2.out.mono ?_
      rintro r w6 ⟨rfl, b6⟩
      have HRW6 := hiD (HRW5.out.later b6)
      have HA6 := hiD (HA5.out.later b6)
      have HP6 := hiD (HP5.out.later b6)
      have HK6 := hiD (HK5.out.trans (Kp.of (pb := pb) b6))
      clear b6 HI2 HRW5 HA5 HP5 HK5
      cases d2 with
      | true =>
       have HT : Hid (txt ts s4.i = wRelB ∨ txt ts s4.i = wPermB) := .inr (of_decide_eq_true HD2.out.symm)
       obtain ⟨x0, y0, x1, y1⟩ := HA6.out.all2
       by_cases h6 : acc.length < 64
       ·have hl1 : (acc.length : Int) < 64 := by omega
        have HA64 := hiD h6
        have HAC : Hid (acc.length + 1 ≤ 200000) := by show _ ≤ _; omega
        clear h6
        go_wp2_with fail
        refine (need_t 15).mono ?_
        rintro r w6 ⟨rfl, rfl⟩
        go_upto_region 6 with (fail)
        clear x0 y0 x1 y1
        refine wp_region_held_drew (S := fun _ => True) (by kernel_rfl) trivial (fun hHeld => ?_)
        try simp only [Act.put]
        have hb7 : Below w6.heap.size w6 w6.drew := (Below.refl _ _).drew
        have HP7 := hiD (HP6.out.later hb7)
        have HK7 := hiD (HK6.out.trans (Kp.of (pb := pb) hb7))
        have HA7 := hiD (HA6.out.later hb7)
        have HRW7 := hiD (HRW6.out.later hb7)
        clear hb7
        generalize w6.drew = w7 at HP7 HK7 HA7 HRW7 ⊢
        have HN7 := hiD (member_any HO.out HP7.out HS4.out)
        have HGL : Hid (W.heap.size < w7.heap.size) := HA7.out.lt
        have HBL : Hid (∀ b, (Value.slice q acc.length cc).ownBlock = some b → b < w7.heap.size) := fun b hb => by obtain ⟨_, h, _⟩ := HRW7.out; exact (h.lt b hb).2
        refine wpAnyH_take (i := 0) (oi := ⟨some 22, _, _, _, _, _⟩) (v := .pointer (some ⟨W.heap.size, 1, none⟩)) rfl (by kernel_rfl) (by kernel_rfl) (by kernel_rfl) (fun _ _ _ h => h) (.inl ⟨by rfl, fun w' hSw => ?_⟩) hHeld ?_
        focus (skip; clear hHeld; go_simp)
        try simp only [Act.put, pz0, pz1, pz2]
        refine wpAnyH_take (i := 2) (oi := ⟨some 24, _, _, _, _, _⟩) (v := .pointer (some ⟨pb, 0, none⟩)) rfl (by kernel_rfl) (by kernel_rfl) (by kernel_rfl) (fun _ _ _ h => h) (.inl ⟨by rfl, fun w' hSw => ?_⟩) hHeld ?_
        focus (skip; clear hHeld; go_simp)
        try simp only [Act.put, pz0, pz1, pz2]
        refine wpAnyH_ready (rs := [1, 3]) (by kernel_rfl) (by simp) ?_
        refine AllReadyH.cons (o := ⟨some 23, _, _, _, _, _⟩) rfl (fun K' hK' => ?_) (AllReadyH.cons (o := ⟨some 25, _, _, _, _, _⟩) rfl (fun K' hK' => ?_) AllReadyH.nil)
        ·have x0 := HA7.out.cell 0
         have y0 := HA7.out.free 0
         have x1 := HA7.out.cell 1
         have y1 := HA7.out.free 1
         simp only [List.getElem?_cons_zero, List.getElem?_cons_succ] at x0 x1
         go_simp
         clear x0 y0 x1 y1
         refine hK'.out _ _ trivial (fun _ => ?_)
         clear hK' K'
         try simp only [Act.put, pz0, pz1, pz2]
         refine wpAnyH_ready (rs := [3]) (by kernel_rfl) (by simp) ?_
         refine AllReadyH.cons (o := ⟨some 25, _, _, _, _, _⟩) rfl (fun K' hK' => ?_) AllReadyH.nil
         refine stepw_calls (by rfl) ?_ HN7.out (fun w => QR.grown w) ?_ ?_
         focus go_simp
         ·rintro ch w8 hpan
          obtain ⟨k, i, e8, rfl, k8⟩ := hpan.pan
          have HK8 := hiD (HK7.out.trans k8)
          have HE2 : Hid (defF ts s = .bad k i) := by
           show _ = _
           rw [HE.out, membersF_bad HT.out HA64.out e8]; rfl
          clear e8 k8 hpan
          exact ⟨rfl, .inr ⟨k, i, HE2.out, rfl, HK8.out⟩⟩
         rintro v w8 hret
         obtain ⟨e, s8, e8, r8, p8, k8⟩ := hret.ret
         have HE8 := hiD e8
         have HS8 : Hid (s8.i < ts.length) := keeps_member HO.out _ _ _ HS4.out e8
         obtain ⟨n1, n2, n3, mk, mv, mn, ms⟩ := e
         obtain ⟨q5, c5, q4, c4, rfl, r8b⟩ := VM.form r8
         have HR8 := hiD r8b
         clear r8 r8b
         have HRW8 := hiD (HRW7.out.turn (w' := w8) k8.2.2.2.1 (fun b hb hl _ => k8.2.2.2.2 b hl (by have := HLT.out; omega)))
         have HA8 := hiD (k8.arr HA7.out (by have := HLT.out; omega))
         have HP8 := hiD p8
         have HK8 := hiD (HK7.out.trans k8)
         clear e8 p8 k8 hret
         refine hK'.out _ _ trivial (fun _ => ?_)
         clear hK' K'
         try simp only [Act.put, pz0, pz1, pz2]
         refine wpAnyH_ready (rs := [4]) (by kernel_rfl) (by simp) ?_
         refine AllReadyH.cons (o := ⟨some 26, _, _, _, _, _⟩) rfl (fun K' hK' => ?_) AllReadyH.nil
         go_simp
         refine hK'.out _ _ trivial (fun _ => ?_)
         clear hK' K'
         try simp only [Act.put, pz0, pz1, pz2]
         have HB9 : Hid (Below w8.heap.size w8 (w8.alloc (.cells #[.string (bstr n1), .int .i64 n2, .slice q5 n3.length c5, .int .i64 mk, .string (bstr mv), .string (bstr mn), .slice q4 ms.length c4] 48))) := (Below.refl _ _).alloc (Nat.le_refl _) _
         have HRW9 := hiD (HRW8.out.later HB9.out)
         have HA9 := hiD (HA8.out.later HB9.out)
         have HP9 := hiD (HP8.out.later HB9.out)
         have HK9 := hiD (HK8.out.trans (Kp.of HB9.out))
         have HE9 : Hid (Arr (w8.alloc (.cells #[.string (bstr n1), .int .i64 n2, .slice q5 n3.length c5, .int .i64 mk, .string (bstr mv), .string (bstr mn), .slice q4 ms.length c4] 48)) 48 w8.heap.size [.string (bstr n1), .int .i64 n2, .slice q5 n3.length c5, .int .i64 mk, .string (bstr mv), .string (bstr mn), .slice q4 ms.length c4]) := Arr.new' _ _ _ _ rfl
         have HR9 : Hid (kdMem.rd (SubX (W.heap.size + 1) (fun _ => False) (w8.alloc (.cells #[.string (bstr n1), .int .i64 n2, .slice q5 n3.length c5, .int .i64 mk, .string (bstr mv), .string (bstr mn), .slice q4 ms.length c4] 48)) (.slice q acc.length cc)) (w8.alloc (.cells #[.string (bstr n1), .int .i64 n2, .slice q5 n3.length c5, .int .i64 mk, .string (bstr mv), .string (bstr mn), .slice q4 ms.length c4] 48)) (n1, n2, n3, .mk mk mv mn ms) [.string (bstr n1), .int .i64 n2, .slice q5 n3.length c5, .int .i64 mk, .string (bstr mv), .string (bstr mn), .slice q4 ms.length c4]) := kdMem.imp (fun b hb => ⟨by have := HGL.out; have := hb.1; omega, Nat.lt_of_lt_of_le hb.2 HB9.out.size, fun e => by have h1 := (HBL.out b e.symm); have := hb.1; omega, fun h => h⟩) (kdMem.keep (fun b hb n => HB9.out.cell (p := ⟨b, n, none⟩) hb.2) HR8.out)
         generalize w8.alloc (.cells #[.string (bstr n1), .int .i64 n2, .slice q5 n3.length c5, .int .i64 mk, .string (bstr mv), .string (bstr mn), .slice q4 ms.length c4] 48) = w9 at HRW9 HA9 HP9 HK9 HE9 HR9 ⊢
         clear HB9
         refine wpAnyH_ready (rs := [5]) (by kernel_rfl) (by simp) ?_
         refine AllReadyH.cons (o := ⟨some 27, _, _, _, _, _⟩) rfl (fun K' hK' => ?_) AllReadyH.nil
         refine step_row (K := kdMem) rfl (.tmp 23) (.tmp 26) rfl rfl HRW9.out rfl HE9.out HR9.out HAC.out HA9.out.lt (fun b h => h.elim) ?_
         intro v10 w10 r10 g10 o10
         have HP10 := hiD (HP9.out.below (B := W.heap.size) ((Below.refl _ _).grown g10 (Nat.le_of_lt HA9.out.lt) (fun k hk => Nat.le_of_succ_le (o10 k hk).1)) HLT.out)
         have HK10 := hiD (HK9.out.grown g10 (fun k hk => Nat.le_of_succ_le (o10 k hk).1))
         have HA10 : Hid (Arr w10 39 W.heap.size [.string (bstr n), .slice q acc.length cc]) := (g10.block _ HA9.out.lt (fun e => absurd (o10 _ e.symm).1 (by omega))).trans HA9.out
         have HRW10 := hiD r10
         obtain ⟨q10, c10, hv10⟩ := r10.form
         rw [List.length_append, List.length_singleton] at hv10
         subst hv10
         clear r10 g10 o10
         refine hK'.out _ _ trivial (fun _ => ?_)
         clear hK' K'
         try simp only [Act.put, pz0, pz1, pz2]
         refine wpAnyH_take (i := 6) (oi := ⟨some 28, _, _, _, _, _⟩) (v := .pointer (some ⟨W.heap.size, 1, none⟩)) rfl (by kernel_rfl) (by kernel_rfl) (by kernel_rfl) (fun _ _ _ h => h) (.inl ⟨by rfl, fun w' hSw => ?_⟩) hHeld ?_
         focus (skip; clear hHeld; go_simp)
         try simp only [Act.put, pz0, pz1, pz2]
         refine wpAnyH_ready (rs := [7]) (by kernel_rfl) (by simp) ?_
         refine AllReadyH.cons (o := ⟨none, _, _, _, _, _⟩) rfl (fun K' hK' => ?_) AllReadyH.nil
         obtain ⟨x0, y0, x1, y1⟩ := HA10.out.all2
         go_simp
         clear x0 y0 x1 y1
         refine hK'.out _ _ trivial (fun _ => ?_)
         clear hK' K'
         try simp only [Act.put, pz0, pz1, pz2]
         have HA11 : Hid (Arr (w10.setCell ⟨W.heap.size, 1, none⟩ (.slice q10 (acc.length + 1) c10)) 39 W.heap.size [.string (bstr n), .slice q10 (acc.length + 1) c10]) := HA10.out.set 1 _
         have HRW11 := hiD (HRW10.out.box (.inl (Nat.lt_succ_self _)) 1 (.slice q10 (acc.length + 1) c10))
         have HP11 := hiD (HP10.out.box HLT.out 1 (.slice q10 (acc.length + 1) c10))
         have HK11 := hiD (HK10.out.box (Nat.le_refl _) 1 (.slice q10 (acc.length + 1) c10))
         refine wpAnyH_done (by kernel_rfl) ?_ _
         clear HRW10 HA10 HP10 HK10 HRW9 HA9 HP9 HK9 HE9 HR9 HRW8 HA8 HP8 HK8 HR8
         generalize (w10.setCell ⟨W.heap.size, 1, none⟩ (.slice q10 (acc.length + 1) c10)) = w11 at HA11 HRW11 HP11 HK11 ⊢
         have HE11 : Hid (defF ts s = finD ts n (membersF ts m (acc ++ [(n1, n2, n3, Ex.mk mk mv mn ms)]) s8)) := by
          show _ = _
          rw [HE.out, membersF_ok HT.out HA64.out HE8.out]
         go_wp2_with fail
         go_roundw
         case rel => exact ⟨m, acc ++ [(n1, n2, n3, Ex.mk mk mv mn ms)], s8, q10, c10, by rw [List.length_append, List.length_singleton]; omega, by rw [List.length_append, List.length_singleton]; have := HA64.out; omega, by rw [List.length_append, List.length_singleton]; exact HRW11.out, by rw [List.length_append, List.length_singleton]; exact HA11.out, HP11.out, HS8.out, HK11.out, HE11.out⟩
         case measure => rw [mlen_arr HA11.out 1 rfl, mlen_arr HA.out 1 rfl]; have := HA64.out; omega
        ·refine stepw_calls (by rfl) ?_ HN7.out (fun w => QR.grown w) ?_ ?_
         focus go_simp
         ·rintro ch w8 hpan
          obtain ⟨k, i, e8, rfl, k8⟩ := hpan.pan
          have HK8 := hiD (HK7.out.trans k8)
          have HE2 : Hid (defF ts s = .bad k i) := by
           show _ = _
           rw [HE.out, membersF_bad HT.out HA64.out e8]; rfl
          clear e8 k8 hpan
          exact ⟨rfl, .inr ⟨k, i, HE2.out, rfl, HK8.out⟩⟩
         rintro v w8 hret
         obtain ⟨e, s8, e8, r8, p8, k8⟩ := hret.ret
         have HE8 := hiD e8
         have HS8 : Hid (s8.i < ts.length) := keeps_member HO.out _ _ _ HS4.out e8
         obtain ⟨n1, n2, n3, mk, mv, mn, ms⟩ := e
         obtain ⟨q5, c5, q4, c4, rfl, r8b⟩ := VM.form r8
         have HR8 := hiD r8b
         clear r8 r8b
         have HRW8 := hiD (HRW7.out.turn (w' := w8) k8.2.2.2.1 (fun b hb hl _ => k8.2.2.2.2 b hl (by have := HLT.out; omega)))
         have HA8 := hiD (k8.arr HA7.out (by have := HLT.out; omega))
         have HP8 := hiD p8
         have HK8 := hiD (HK7.out.trans k8)
         clear e8 p8 k8 hret
         refine hK'.out _ _ trivial (fun _ => ?_)
         clear hK' K'
         try simp only [Act.put, pz0, pz1, pz2]
         refine wpAnyH_ready (rs := [1, 4]) (by kernel_rfl) (by simp) ?_
         refine AllReadyH.cons (o := ⟨some 23, _, _, _, _, _⟩) rfl (fun K' hK' => ?_) (AllReadyH.cons (o := ⟨some 26, _, _, _, _, _⟩) rfl (fun K' hK' => ?_) AllReadyH.nil)
         ·have x0 := HA8.out.cell 0
          have y0 := HA8.out.free 0
          have x1 := HA8.out.cell 1
          have y1 := HA8.out.free 1
          simp only [List.getElem?_cons_zero, List.getElem?_cons_succ] at x0 x1
          go_simp
          clear x0 y0 x1 y1
          refine hK'.out _ _ trivial (fun _ => ?_)
          clear hK' K'
          try simp only [Act.put, pz0, pz1, pz2]
          refine wpAnyH_ready (rs := [4]) (by kernel_rfl) (by simp) ?_
          refine AllReadyH.cons (o := ⟨some 26, _, _, _, _, _⟩) rfl (fun K' hK' => ?_) AllReadyH.nil
          go_simp
          refine hK'.out _ _ trivial (fun _ => ?_)
          clear hK' K'
          try simp only [Act.put, pz0, pz1, pz2]
          have HB9 : Hid (Below w8.heap.size w8 (w8.alloc (.cells #[.string (bstr n1), .int .i64 n2, .slice q5 n3.length c5, .int .i64 mk, .string (bstr mv), .string (bstr mn), .slice q4 ms.length c4] 48))) := (Below.refl _ _).alloc (Nat.le_refl _) _
          have HRW9 := hiD (HRW8.out.later HB9.out)
          have HA9 := hiD (HA8.out.later HB9.out)
          have HP9 := hiD (HP8.out.later HB9.out)
          have HK9 := hiD (HK8.out.trans (Kp.of HB9.out))
          have HE9 : Hid (Arr (w8.alloc (.cells #[.string (bstr n1), .int .i64 n2, .slice q5 n3.length c5, .int .i64 mk, .string (bstr mv), .string (bstr mn), .slice q4 ms.length c4] 48)) 48 w8.heap.size [.string (bstr n1), .int .i64 n2, .slice q5 n3.length c5, .int .i64 mk, .string (bstr mv), .string (bstr mn), .slice q4 ms.length c4]) := Arr.new' _ _ _ _ rfl
          have HR9 : Hid (kdMem.rd (SubX (W.heap.size + 1) (fun _ => False) (w8.alloc (.cells #[.string (bstr n1), .int .i64 n2, .slice q5 n3.length c5, .int .i64 mk, .string (bstr mv), .string (bstr mn), .slice q4 ms.length c4] 48)) (.slice q acc.length cc)) (w8.alloc (.cells #[.string (bstr n1), .int .i64 n2, .slice q5 n3.length c5, .int .i64 mk, .string (bstr mv), .string (bstr mn), .slice q4 ms.length c4] 48)) (n1, n2, n3, .mk mk mv mn ms) [.string (bstr n1), .int .i64 n2, .slice q5 n3.length c5, .int .i64 mk, .string (bstr mv), .string (bstr mn), .slice q4 ms.length c4]) := kdMem.imp (fun b hb => ⟨by have := HGL.out; have := hb.1; omega, Nat.lt_of_lt_of_le hb.2 HB9.out.size, fun e => by have h1 := (HBL.out b e.symm); have := hb.1; omega, fun h => h⟩) (kdMem.keep (fun b hb n => HB9.out.cell (p := ⟨b, n, none⟩) hb.2) HR8.out)
          generalize w8.alloc (.cells #[.string (bstr n1), .int .i64 n2, .slice q5 n3.length c5, .int .i64 mk, .string (bstr mv), .string (bstr mn), .slice q4 ms.length c4] 48) = w9 at HRW9 HA9 HP9 HK9 HE9 HR9 ⊢
          clear HB9
          refine wpAnyH_ready (rs := [5]) (by kernel_rfl) (by simp) ?_
          refine AllReadyH.cons (o := ⟨some 27, _, _, _, _, _⟩) rfl (fun K' hK' => ?_) AllReadyH.nil
          refine step_row (K := kdMem) rfl (.tmp 23) (.tmp 26) rfl rfl HRW9.out rfl HE9.out HR9.out HAC.out HA9.out.lt (fun b h => h.elim) ?_
          intro v10 w10 r10 g10 o10
          have HP10 := hiD (HP9.out.below (B := W.heap.size) ((Below.refl _ _).grown g10 (Nat.le_of_lt HA9.out.lt) (fun k hk => Nat.le_of_succ_le (o10 k hk).1)) HLT.out)
          have HK10 := hiD (HK9.out.grown g10 (fun k hk => Nat.le_of_succ_le (o10 k hk).1))
          have HA10 : Hid (Arr w10 39 W.heap.size [.string (bstr n), .slice q acc.length cc]) := (g10.block _ HA9.out.lt (fun e => absurd (o10 _ e.symm).1 (by omega))).trans HA9.out
          have HRW10 := hiD r10
          obtain ⟨q10, c10, hv10⟩ := r10.form
          rw [List.length_append, List.length_singleton] at hv10
          subst hv10
          clear r10 g10 o10
          refine hK'.out _ _ trivial (fun _ => ?_)
          clear hK' K'
          try simp only [Act.put, pz0, pz1, pz2]
          refine wpAnyH_take (i := 6) (oi := ⟨some 28, _, _, _, _, _⟩) (v := .pointer (some ⟨W.heap.size, 1, none⟩)) rfl (by kernel_rfl) (by kernel_rfl) (by kernel_rfl) (fun _ _ _ h => h) (.inl ⟨by rfl, fun w' hSw => ?_⟩) hHeld ?_
          focus (skip; clear hHeld; go_simp)
          try simp only [Act.put, pz0, pz1, pz2]
          refine wpAnyH_ready (rs := [7]) (by kernel_rfl) (by simp) ?_
          refine AllReadyH.cons (o := ⟨none, _, _, _, _, _⟩) rfl (fun K' hK' => ?_) AllReadyH.nil
          obtain ⟨x0, y0, x1, y1⟩ := HA10.out.all2
          go_simp
          clear x0 y0 x1 y1
          refine hK'.out _ _ trivial (fun _ => ?_)
          clear hK' K'
          try simp only [Act.put, pz0, pz1, pz2]
          have HA11 : Hid (Arr (w10.setCell ⟨W.heap.size, 1, none⟩ (.slice q10 (acc.length + 1) c10)) 39 W.heap.size [.string (bstr n), .slice q10 (acc.length + 1) c10]) := HA10.out.set 1 _
          have HRW11 := hiD (HRW10.out.box (.inl (Nat.lt_succ_self _)) 1 (.slice q10 (acc.length + 1) c10))
          have HP11 := hiD (HP10.out.box HLT.out 1 (.slice q10 (acc.length + 1) c10))
          have HK11 := hiD (HK10.out.box (Nat.le_refl _) 1 (.slice q10 (acc.length + 1) c10))
          refine wpAnyH_done (by kernel_rfl) ?_ _
          clear HRW10 HA10 HP10 HK10 HRW9 HA9 HP9 HK9 HE9 HR9 HRW8 HA8 HP8 HK8 HR8
          generalize (w10.setCell ⟨W.heap.size, 1, none⟩ (.slice q10 (acc.length + 1) c10)) = w11 at HA11 HRW11 HP11 HK11 ⊢
          have HE11 : Hid (defF ts s = finD ts n (membersF ts m (acc ++ [(n1, n2, n3, Ex.mk mk mv mn ms)]) s8)) := by
           show _ = _
           rw [HE.out, membersF_ok HT.out HA64.out HE8.out]
          go_wp2_with fail
          go_roundw
          case rel => exact ⟨m, acc ++ [(n1, n2, n3, Ex.mk mk mv mn ms)], s8, q10, c10, by rw [List.length_append, List.length_singleton]; omega, by rw [List.length_append, List.length_singleton]; have := HA64.out; omega, by rw [List.length_append, List.length_singleton]; exact HRW11.out, by rw [List.length_append, List.length_singleton]; exact HA11.out, HP11.out, HS8.out, HK11.out, HE11.out⟩
          case measure => rw [mlen_arr HA11.out 1 rfl, mlen_arr HA.out 1 rfl]; have := HA64.out; omega
         ·go_simp
          refine hK'.out _ _ trivial (fun _ => ?_)
          clear hK' K'
          try simp only [Act.put, pz0, pz1, pz2]
          have HB9 : Hid (Below w8.heap.size w8 (w8.alloc (.cells #[.string (bstr n1), .int .i64 n2, .slice q5 n3.length c5, .int .i64 mk, .string (bstr mv), .string (bstr mn), .slice q4 ms.length c4] 48))) := (Below.refl _ _).alloc (Nat.le_refl _) _
          have HRW9 := hiD (HRW8.out.later HB9.out)
          have HA9 := hiD (HA8.out.later HB9.out)
          have HP9 := hiD (HP8.out.later HB9.out)
          have HK9 := hiD (HK8.out.trans (Kp.of HB9.out))
          have HE9 : Hid (Arr (w8.alloc (.cells #[.string (bstr n1), .int .i64 n2, .slice q5 n3.length c5, .int .i64 mk, .string (bstr mv), .string (bstr mn), .slice q4 ms.length c4] 48)) 48 w8.heap.size [.string (bstr n1), .int .i64 n2, .slice q5 n3.length c5, .int .i64 mk, .string (bstr mv), .string (bstr mn), .slice q4 ms.length c4]) := Arr.new' _ _ _ _ rfl
          have HR9 : Hid (kdMem.rd (SubX (W.heap.size + 1) (fun _ => False) (w8.alloc (.cells #[.string (bstr n1), .int .i64 n2, .slice q5 n3.length c5, .int .i64 mk, .string (bstr mv), .string (bstr mn), .slice q4 ms.length c4] 48)) (.slice q acc.length cc)) (w8.alloc (.cells #[.string (bstr n1), .int .i64 n2, .slice q5 n3.length c5, .int .i64 mk, .string (bstr mv), .string (bstr mn), .slice q4 ms.length c4] 48)) (n1, n2, n3, .mk mk mv mn ms) [.string (bstr n1), .int .i64 n2, .slice q5 n3.length c5, .int .i64 mk, .string (bstr mv), .string (bstr mn), .slice q4 ms.length c4]) := kdMem.imp (fun b hb => ⟨by have := HGL.out; have := hb.1; omega, Nat.lt_of_lt_of_le hb.2 HB9.out.size, fun e => by have h1 := (HBL.out b e.symm); have := hb.1; omega, fun h => h⟩) (kdMem.keep (fun b hb n => HB9.out.cell (p := ⟨b, n, none⟩) hb.2) HR8.out)
          generalize w8.alloc (.cells #[.string (bstr n1), .int .i64 n2, .slice q5 n3.length c5, .int .i64 mk, .string (bstr mv), .string (bstr mn), .slice q4 ms.length c4] 48) = w9 at HRW9 HA9 HP9 HK9 HE9 HR9 ⊢
          clear HB9
          refine wpAnyH_ready (rs := [1]) (by kernel_rfl) (by simp) ?_
          refine AllReadyH.cons (o := ⟨some 23, _, _, _, _, _⟩) rfl (fun K' hK' => ?_) AllReadyH.nil
          obtain ⟨x0, y0, x1, y1⟩ := HA9.out.all2
          go_simp
          clear x0 y0 x1 y1
          refine hK'.out _ _ trivial (fun _ => ?_)
          clear hK' K'
          try simp only [Act.put, pz0, pz1, pz2]
          refine wpAnyH_ready (rs := [5]) (by kernel_rfl) (by simp) ?_
          refine AllReadyH.cons (o := ⟨some 27, _, _, _, _, _⟩) rfl (fun K' hK' => ?_) AllReadyH.nil
          refine step_row (K := kdMem) rfl (.tmp 23) (.tmp 26) rfl rfl HRW9.out rfl HE9.out HR9.out HAC.out HA9.out.lt (fun b h => h.elim) ?_
          intro v10 w10 r10 g10 o10
          have HP10 := hiD (HP9.out.below (B := W.heap.size) ((Below.refl _ _).grown g10 (Nat.le_of_lt HA9.out.lt) (fun k hk => Nat.le_of_succ_le (o10 k hk).1)) HLT.out)
          have HK10 := hiD (HK9.out.grown g10 (fun k hk => Nat.le_of_succ_le (o10 k hk).1))
          have HA10 : Hid (Arr w10 39 W.heap.size [.string (bstr n), .slice q acc.length cc]) := (g10.block _ HA9.out.lt (fun e => absurd (o10 _ e.symm).1 (by omega))).trans HA9.out
          have HRW10 := hiD r10
          obtain ⟨q10, c10, hv10⟩ := r10.form
          rw [List.length_append, List.length_singleton] at hv10
          subst hv10
          clear r10 g10 o10
          refine hK'.out _ _ trivial (fun _ => ?_)
          clear hK' K'
          try simp only [Act.put, pz0, pz1, pz2]
          refine wpAnyH_take (i := 6) (oi := ⟨some 28, _, _, _, _, _⟩) (v := .pointer (some ⟨W.heap.size, 1, none⟩)) rfl (by kernel_rfl) (by kernel_rfl) (by kernel_rfl) (fun _ _ _ h => h) (.inl ⟨by rfl, fun w' hSw => ?_⟩) hHeld ?_
          focus (skip; clear hHeld; go_simp)
          try simp only [Act.put, pz0, pz1, pz2]
          refine wpAnyH_ready (rs := [7]) (by kernel_rfl) (by simp) ?_
          refine AllReadyH.cons (o := ⟨none, _, _, _, _, _⟩) rfl (fun K' hK' => ?_) AllReadyH.nil
          obtain ⟨x0, y0, x1, y1⟩ := HA10.out.all2
          go_simp
          clear x0 y0 x1 y1
          refine hK'.out _ _ trivial (fun _ => ?_)
          clear hK' K'
          try simp only [Act.put, pz0, pz1, pz2]
          have HA11 : Hid (Arr (w10.setCell ⟨W.heap.size, 1, none⟩ (.slice q10 (acc.length + 1) c10)) 39 W.heap.size [.string (bstr n), .slice q10 (acc.length + 1) c10]) := HA10.out.set 1 _
          have HRW11 := hiD (HRW10.out.box (.inl (Nat.lt_succ_self _)) 1 (.slice q10 (acc.length + 1) c10))
          have HP11 := hiD (HP10.out.box HLT.out 1 (.slice q10 (acc.length + 1) c10))
          have HK11 := hiD (HK10.out.box (Nat.le_refl _) 1 (.slice q10 (acc.length + 1) c10))
          refine wpAnyH_done (by kernel_rfl) ?_ _
          clear HRW10 HA10 HP10 HK10 HRW9 HA9 HP9 HK9 HE9 HR9 HRW8 HA8 HP8 HK8 HR8
          generalize (w10.setCell ⟨W.heap.size, 1, none⟩ (.slice q10 (acc.length + 1) c10)) = w11 at HA11 HRW11 HP11 HK11 ⊢
          have HE11 : Hid (defF ts s = finD ts n (membersF ts m (acc ++ [(n1, n2, n3, Ex.mk mk mv mn ms)]) s8)) := by
           show _ = _
           rw [HE.out, membersF_ok HT.out HA64.out HE8.out]
          go_wp2_with fail
          go_roundw
          case rel => exact ⟨m, acc ++ [(n1, n2, n3, Ex.mk mk mv mn ms)], s8, q10, c10, by rw [List.length_append, List.length_singleton]; omega, by rw [List.length_append, List.length_singleton]; have := HA64.out; omega, by rw [List.length_append, List.length_singleton]; exact HRW11.out, by rw [List.length_append, List.length_singleton]; exact HA11.out, HP11.out, HS8.out, HK11.out, HE11.out⟩
          case measure => rw [mlen_arr HA11.out 1 rfl, mlen_arr HA.out 1 rfl]; have := HA64.out; omega
       ·have hl1 : ¬ (acc.length : Int) < 64 := by omega
        have HEb : Hid (defF ts s = .bad 15 s4.i) := by
         show _ = _
         rw [HE.out, membersF_many HT.out h6]; rfl
        clear h6
        go_wp2_with fail
        rw [show decide ((acc.length : Int) < 64) = false from decide_eq_false (by omega)]
        refine (need_f HP6.out HS4.out 15).mono ?_
        rintro r w7 ⟨rfl, b7⟩
        have HK7 := hiD (HK6.out.trans (Kp.of (pb := pb) b7))
        clear b7
        go_wp2_with fail
        exact ⟨rfl, .inr ⟨15, s4.i, HEb.out, rfl, HK7.out⟩⟩
      | false =>
       have HE6 : Hid (defF ts s = finD ts n (.ok acc s4)) := by
        show _ = _
        rw [HE.out, membersF_end (of_decide_eq_false HD1.out.symm) (of_decide_eq_false HD2.out.symm)]
       have HWC := hiD (want_any HP6.out HS4.out ⟨#[125]⟩ [125] rfl)
       go_wp2_with fail
       refine HWC.out.mono ?_
       rintro r w9 (⟨x, s9, v, ez, rfl, _, p9, k9⟩ | ⟨k, i, ez, rfl, kz⟩)
       ·have HP9 := hiD p9
        have HK9 := hiD (HK6.out.trans k9)
        have HA9 := hiD (k9.arr HA6.out (by have := HLT.out; omega))
        have HR9 := hiD ((HRW6.out.turn (w' := w9) k9.2.2.2.1 (fun b hb hl _ => k9.2.2.2.2 b hl (by have := HLT.out; omega))).rdK)
        have HEb : Hid (defF ts s = .ok (n, acc) s9) := by
         show _ = _
         rw [HE6.out]; unfold finD; rw [PR.then_ok, ez]; rfl
        clear ez p9 k9 HWC
        obtain ⟨x0, y0, x1, y1⟩ := HA9.out.all2
        go_wp2_with fail
        have hk := kp_setD w9 W.heap.size (.string (bstr n)) (.slice q acc.length cc)
        have hA := HA9.out.setD (.string (bstr n)) (.slice q acc.length cc)
        have hv : VD (W.heap.size + 1) (n, acc) w9 (.agg #[.string (bstr n), .slice q acc.length cc]) := ⟨_, rfl, HR9.out⟩
        exact bodyPost_ret (resD rfl hA rfl) rfl (.inl ⟨_, _, _, HEb.out, rfl, ((VD.kp hv hk (Nat.lt_succ_self _)).low (Nat.le_succ _)), HP9.out.kp hk HLT.out HK9.out.2.2.2.1, HK9.out.andThen hk (Nat.le_refl _)⟩)
       ·have HKb := hiD (HK6.out.trans kz)
        have HEb : Hid (defF ts s = .bad k i) := by
         show _ = _
         rw [HE6.out]; unfold finD; rw [PR.then_ok, ez]; rfl
        clear ez kz
        go_wp2_with fail
        exact ⟨rfl, .inr ⟨k, i, HEb.out, rfl, HKb.out⟩⟩
   ·have HKb := hiD (HK2.out.trans kz)
    have HEb : Hid (defF ts s = .bad k i) := by
     show _ = _
     unfold defF; rw [HE0.out, PR.then_ok, HE2.out, PR.then_ok, ez]; rfl
    clear ez kz
    go_wp2_with fail
    exact ⟨rfl, .inr ⟨k, i, HEb.out, rfl, HKb.out⟩⟩
  ·have HKb := hiD (HK1.out.trans kz)
   have HEb : Hid (defF ts s = .bad k i) := by
    show _ = _
    unfold defF; rw [HE0.out, PR.then_ok, ez]; rfl
   clear ez kz
   go_wp2_with fail
   exact ⟨rfl, .inr ⟨k, i, HEb.out, rfl, HKb.out⟩⟩
 ·have HKb := hiD (HK0.out.trans kz)
  have HEb : Hid (defF ts s = .bad k i) := by
   show _ = _
   unfold defF; rw [ez]; rfl
  clear ez kz
  go_wp2_with fail
  exact ⟨rfl, .inr ⟨k, i, HEb.out, rfl, HKb.out⟩⟩
end
def VS (B : Nat) (l : List DefB) (w : World) (v : Value) : Prop := ∃ u, v = .agg #[u] ∧ RdK kdDef (Bt B w.heap.size) w l u
theorem VS.kp {B g : Nat} {l : List DefB} {w w' : World} {v : Value} (h : VS B l w v) (hk : Kp g w w') (hg : g < B) : VS B l w' v := by
 obtain ⟨u, h1, h2⟩ := h
 exact ⟨u, h1, h2.kp hk hg⟩
theorem VS.low {B B' : Nat} {l : List DefB} {w : World} {v : Value} (h : VS B l w v) (hb : B' ≤ B) : VS B' l w v := by
 obtain ⟨u, h1, h2⟩ := h
 exact ⟨u, h1, h2.imp fun b hb' => ⟨Nat.le_trans hb hb'.1, hb'.2⟩⟩
theorem VS.form {B : Nat} {l : List DefB} {w : World} {v : Value} (h : VS B l w v) : ∃ q c, v = .agg #[.slice q l.length c] ∧ RdK kdDef (Bt B w.heap.size) w l (.slice q l.length c) := by
 obtain ⟨u, rfl, h2⟩ := h
 obtain ⟨q, c, rfl, h3⟩ := h2
 exact ⟨q, c, rfl, q, c, rfl, h3⟩
theorem Arr.setS {w : World} {t : TypeId} {g : Nat} {y0 : Value} (h : Arr w t g [y0]) (x0 : Value) : Arr (w.setCell ⟨g, 0, none⟩ x0) t g [x0] := (h.set 0 x0)
theorem kp_setS (w : World) (g : Nat) (x0 : Value) : Kp g w (w.setCell ⟨g, 0, none⟩ x0) := ((Kp.of (pb := g) (Below.refl _ _)).set 0 x0)
theorem resS {fn : Func} {p : Tmp} (h : fn.results = #[.cell p 29]) {tmps : Array Value} {w : World} {g : Nat} {x0 : Value} (hA : Arr w 29 g [x0]) (hp : tmps.getD p undef = .pointer (some ⟨g, 0, none⟩)) :
  (results fn tmps).run Tryz.prog w = .ok (.agg #[x0]) w :=
 results_cell_row h tmps w g 29 #[x0] (0, 0) _ hp hA Tryz.underlying29 rfl (by kernel_rfl)
theorem defsF_end {ts : List Tok} {n : Nat} {acc : List DefB} {s : PS} (h1 : ¬ txt ts s.i = wDefB) : defsF ts (n + 1) acc s = .ok acc s := by rw [defsF, if_neg h1]
theorem defsF_many {ts : List Tok} {n : Nat} {acc : List DefB} {s : PS} (h : txt ts s.i = wDefB) (hl : ¬ acc.length < 64) : defsF ts (n + 1) acc s = .bad 15 s.i := by rw [defsF, if_pos h, if_neg hl]
theorem defsF_bad {ts : List Tok} {n : Nat} {acc : List DefB} {s : PS} {k i : Nat} (h : txt ts s.i = wDefB) (hl : acc.length < 64) (he : defF ts s = .bad k i) : defsF ts (n + 1) acc s = .bad k i := by rw [defsF, if_pos h, if_pos hl, he]; rfl
theorem defsF_ok {ts : List Tok} {n : Nat} {acc : List DefB} {s s1 : PS} {m : DefB} (h : txt ts s.i = wDefB) (hl : acc.length < 64) (he : defF ts s = .ok m s1) : defsF ts (n + 1) acc s = defsF ts n (acc ++ [m]) s1 := by rw [defsF, if_pos h, if_pos hl, he]; rfl
theorem keeps_members {ts : List Tok} (h : OkTs ts) : ∀ (n : Nat) (acc : List MemB) s l s', s.i < ts.length → membersF ts n acc s = .ok l s' → s'.i < ts.length
 | 0, acc, s, l, s', hi, e => by rw [membersF] at e; cases e; exact hi
 | n + 1, acc, s, l, s', hi, e => by
  rw [membersF] at e
  split at e
  ·split at e
   ·obtain ⟨m, s1, e1, e⟩ := then_some e
    exact keeps_members h n _ _ _ _ (keeps_member h _ _ _ hi e1) e
   ·cases e
  ·cases e; exact hi
theorem keeps_def {ts : List Tok} (h : OkTs ts) : ∀ s m s', s.i < ts.length → defF ts s = .ok m s' → s'.i < ts.length := by
 intro s m s' hi e
 unfold defF at e
 obtain ⟨_, s0, e0, e⟩ := then_some e
 obtain ⟨n, s1, e1, e⟩ := then_some e
 obtain ⟨_, s2, e2, e⟩ := then_some e
 obtain ⟨l, s3, e3, e⟩ := then_some e
 obtain ⟨_, s4, e4, e⟩ := then_some e
 cases e
 have k0 := (keeps_want h (by decide) _ _ _ hi e0).1
 have k1 := (keeps_name h _ _ _ k0 e1).1
 have k2 := (keeps_want h (by decide) _ _ _ k1 e2).1
 have k3 := keeps_members h _ _ _ _ _ k2 e3
 exact (keeps_want h (by decide) _ _ _ k3 e4).1
theorem keeps_defs {ts : List Tok} (h : OkTs ts) : ∀ (n : Nat) (acc : List DefB) s l s', s.i < ts.length → defsF ts n acc s = .ok l s' → s'.i < ts.length
 | 0, acc, s, l, s', hi, e => by rw [defsF] at e; cases e; exact hi
 | n + 1, acc, s, l, s', hi, e => by
  rw [defsF] at e
  split at e
  ·split at e
   ·obtain ⟨m, s1, e1, e⟩ := then_some e
    exact keeps_defs h n _ _ _ _ (keeps_def h _ _ _ hi e1) e
   ·cases e
  ·cases e; exact hi
section
variable {W : World} {pb tb c : Nat} {ts : List Tok} {s : PS}
set_option maxRecDepth 100000 in
set_option maxHeartbeats 2000000 in
theorem schema_any (ho : OkTs ts) (h : PP W pb tb c ts s) (hi : s.i < ts.length) : Calls Tryz.prog 27 #[.pointer (some ⟨pb, 0, none⟩)] W (QR pb tb c ts W (schemaR ts s) (VS W.heap.size)) := by
 have hb0 : Below W.heap.size W (W.alloc (.cells #[.slice none 0 0] 29)) := (Below.refl _ _).alloc (Nat.le_refl _) _
 have HP0 := hiD (h.later hb0)
 have HK0 := hiD (Kp.of (pb := pb) hb0)
 have HA0 : Hid (Arr (W.alloc (.cells #[.slice none 0 0] 29)) 29 W.heap.size [.slice none 0 0]) := Arr.new' _ _ _ _ rfl
 have HLT : Hid (pb < W.heap.size) := h.1.lt
 have HH := hiD hi
 have HO := hiD ho
 clear h hi hb0 ho
 go_enter Tryz.func27, Tryz.ntmps27
 go_wp2_with fail
 go_loopw [4] (fun _ wr => ∃ (m : Nat) (acc : List DefB) (s4 : PS) (q : Option Addr) (cc : Nat), acc.length + m = 65 ∧ acc.length ≤ 64 ∧ Hid (PRow kdDef (W.heap.size + 1) (fun _ => False) wr (.slice q acc.length cc) acc) ∧ Hid (Arr wr 29 W.heap.size [.slice q acc.length cc]) ∧ Hid (PP wr pb tb c ts s4) ∧ Hid (s4.i < ts.length) ∧ Hid (Kp pb W wr) ∧ Hid (schemaR ts s = defsF ts m acc s4)) (fun _ wr => 65 - mlen W.heap.size 0 wr)
 case atStart => exact ⟨65, [], s, none, 0, rfl, by simp, PRow.nil _ _ _ _, HA0.out, HP0.out, HH.out, HK0.out, rfl⟩
 case round =>
  obtain ⟨m, acc, s4, q, cc, hm, h64, HRW, HA, HP, HS4, HK, HE⟩ := hrel
  obtain ⟨m, rfl⟩ : ∃ j, m = j + 1 := ⟨m - 1, by omega⟩
  have HM := hiD hm
  have HI1 := hiD (is_any HP.out HS4.out ⟨#[100, 101, 102, 105, 110, 105, 116, 105, 111, 110]⟩ wDefB rfl)
  obtain ⟨d1, hd1⟩ : ∃ d, d = decide (txt ts s4.i = wDefB) := ⟨_, rfl⟩
  have HD1 := hiD hd1
  rw [← hd1] at HI1
  clear hd1
  go_wp2_with fail
  refine HI1.out.mono ?_
  rintro r w6 ⟨rfl, b5⟩
  have HRW6 := hiD (HRW.out.later b5)
  have HA6 := hiD (HA.out.later b5)
  have HP6 := hiD (HP.out.later b5)
  have HK6 := hiD (HK.out.trans (Kp.of (pb := pb) b5))
  clear b5 HI1
  cases d1 with
  | true =>
   have HT := hiD (of_decide_eq_true HD1.out.symm)
   obtain ⟨x0, y0⟩ := HA6.out.all1
   by_cases h6 : acc.length < 64
   ·have hl1 : (acc.length : Int) < 64 := by omega
    have HA64 := hiD h6
    have HAC : Hid (acc.length + 1 ≤ 200000) := by show _ ≤ _; omega
    clear h6
    go_wp2_with fail
    refine (need_t 15).mono ?_
    rintro r w6 ⟨rfl, rfl⟩
    go_upto_region 3 with (fail)
    clear x0 y0
    refine wp_region_held_drew (S := fun _ => True) (by kernel_rfl) trivial (fun hHeld => ?_)
    try simp only [Act.put]
    have hb7 : Below w6.heap.size w6 w6.drew := (Below.refl _ _).drew
    have HP7 := hiD (HP6.out.later hb7)
    have HK7 := hiD (HK6.out.trans (Kp.of (pb := pb) hb7))
    have HA7 := hiD (HA6.out.later hb7)
    have HRW7 := hiD (HRW6.out.later hb7)
    clear hb7
    generalize w6.drew = w7 at HP7 HK7 HA7 HRW7 ⊢
    have HN7 := hiD (def_any HO.out HP7.out HS4.out)
    have HGL : Hid (W.heap.size < w7.heap.size) := HA7.out.lt
    have HBL : Hid (∀ b, (Value.slice q acc.length cc).ownBlock = some b → b < w7.heap.size) := fun b hb => by obtain ⟨_, h, _⟩ := HRW7.out; exact (h.lt b hb).2
    refine wpAnyH_take (i := 0) (oi := ⟨some 11, _, _, _, _, _⟩) (v := .pointer (some ⟨W.heap.size, 0, none⟩)) rfl (by kernel_rfl) (by kernel_rfl) (by kernel_rfl) (fun _ _ _ h => h) (.inl ⟨by rfl, fun w' hSw => ?_⟩) hHeld ?_
    focus (skip; clear hHeld; go_simp)
    try simp only [Act.put, pz0, pz1, pz2]
    refine wpAnyH_take (i := 2) (oi := ⟨some 13, _, _, _, _, _⟩) (v := .pointer (some ⟨pb, 0, none⟩)) rfl (by kernel_rfl) (by kernel_rfl) (by kernel_rfl) (fun _ _ _ h => h) (.inl ⟨by rfl, fun w' hSw => ?_⟩) hHeld ?_
    focus (skip; clear hHeld; go_simp)
    try simp only [Act.put, pz0, pz1, pz2]
    refine wpAnyH_ready (rs := [1, 3]) (by kernel_rfl) (by simp) ?_
    refine AllReadyH.cons (o := ⟨some 12, _, _, _, _, _⟩) rfl (fun K' hK' => ?_) (AllReadyH.cons (o := ⟨some 14, _, _, _, _, _⟩) rfl (fun K' hK' => ?_) AllReadyH.nil)
    ·have x0 := HA7.out.cell 0
     have y0 := HA7.out.free 0
     simp only [List.getElem?_cons_zero] at x0
     go_simp
     clear x0 y0
     refine hK'.out _ _ trivial (fun _ => ?_)
     clear hK' K'
     try simp only [Act.put, pz0, pz1, pz2]
     refine wpAnyH_ready (rs := [3]) (by kernel_rfl) (by simp) ?_
     refine AllReadyH.cons (o := ⟨some 14, _, _, _, _, _⟩) rfl (fun K' hK' => ?_) AllReadyH.nil
     refine stepw_calls (by rfl) ?_ HN7.out (fun w => QR.grown w) ?_ ?_
     focus go_simp
     ·rintro ch w8 hpan
      obtain ⟨k, i, e8, rfl, k8⟩ := hpan.pan
      have HK8 := hiD (HK7.out.trans k8)
      have HE2 : Hid (schemaR ts s = .bad k i) := by
       show _ = _
       rw [HE.out, defsF_bad HT.out HA64.out e8]
      clear e8 k8 hpan
      exact ⟨rfl, .inr ⟨k, i, HE2.out, rfl, HK8.out⟩⟩
     rintro v w8 hret
     obtain ⟨e, s8, e8, r8, p8, k8⟩ := hret.ret
     have HE8 := hiD e8
     have HS8 : Hid (s8.i < ts.length) := keeps_def HO.out _ _ _ HS4.out e8
     obtain ⟨n1, n2⟩ := e
     obtain ⟨q5, c5, rfl, r8b⟩ := VD.form r8
     have HR8 := hiD r8b
     clear r8 r8b
     have HRW8 := hiD (HRW7.out.turn (w' := w8) k8.2.2.2.1 (fun b hb hl _ => k8.2.2.2.2 b hl (by have := HLT.out; omega)))
     have HA8 := hiD (k8.arr HA7.out (by have := HLT.out; omega))
     have HP8 := hiD p8
     have HK8 := hiD (HK7.out.trans k8)
     clear e8 p8 k8 hret
     refine hK'.out _ _ trivial (fun _ => ?_)
     clear hK' K'
     try simp only [Act.put, pz0, pz1, pz2]
     refine wpAnyH_ready (rs := [4]) (by kernel_rfl) (by simp) ?_
     refine AllReadyH.cons (o := ⟨some 15, _, _, _, _, _⟩) rfl (fun K' hK' => ?_) AllReadyH.nil
     go_simp
     refine hK'.out _ _ trivial (fun _ => ?_)
     clear hK' K'
     try simp only [Act.put, pz0, pz1, pz2]
     have HB9 : Hid (Below w8.heap.size w8 (w8.alloc (.cells #[.string (bstr n1), .slice q5 n2.length c5] 39))) := (Below.refl _ _).alloc (Nat.le_refl _) _
     have HRW9 := hiD (HRW8.out.later HB9.out)
     have HA9 := hiD (HA8.out.later HB9.out)
     have HP9 := hiD (HP8.out.later HB9.out)
     have HK9 := hiD (HK8.out.trans (Kp.of HB9.out))
     have HE9 : Hid (Arr (w8.alloc (.cells #[.string (bstr n1), .slice q5 n2.length c5] 39)) 39 w8.heap.size [.string (bstr n1), .slice q5 n2.length c5]) := Arr.new' _ _ _ _ rfl
     have HR9 : Hid (kdDef.rd (SubX (W.heap.size + 1) (fun _ => False) (w8.alloc (.cells #[.string (bstr n1), .slice q5 n2.length c5] 39)) (.slice q acc.length cc)) (w8.alloc (.cells #[.string (bstr n1), .slice q5 n2.length c5] 39)) (n1, n2) [.string (bstr n1), .slice q5 n2.length c5]) := kdDef.imp (fun b hb => ⟨by have := HGL.out; have := hb.1; omega, Nat.lt_of_lt_of_le hb.2 HB9.out.size, fun e => by have h1 := (HBL.out b e.symm); have := hb.1; omega, fun h => h⟩) (kdDef.keep (fun b hb n => HB9.out.cell (p := ⟨b, n, none⟩) hb.2) HR8.out)
     generalize w8.alloc (.cells #[.string (bstr n1), .slice q5 n2.length c5] 39) = w9 at HRW9 HA9 HP9 HK9 HE9 HR9 ⊢
     clear HB9
     refine wpAnyH_ready (rs := [5]) (by kernel_rfl) (by simp) ?_
     refine AllReadyH.cons (o := ⟨some 16, _, _, _, _, _⟩) rfl (fun K' hK' => ?_) AllReadyH.nil
     refine step_row (K := kdDef) rfl (.tmp 12) (.tmp 15) rfl rfl HRW9.out rfl HE9.out HR9.out HAC.out HA9.out.lt (fun b h => h.elim) ?_
     intro v10 w10 r10 g10 o10
     have HP10 := hiD (HP9.out.below (B := W.heap.size) ((Below.refl _ _).grown g10 (Nat.le_of_lt HA9.out.lt) (fun k hk => Nat.le_of_succ_le (o10 k hk).1)) HLT.out)
     have HK10 := hiD (HK9.out.grown g10 (fun k hk => Nat.le_of_succ_le (o10 k hk).1))
     have HA10 : Hid (Arr w10 29 W.heap.size [.slice q acc.length cc]) := (g10.block _ HA9.out.lt (fun e => absurd (o10 _ e.symm).1 (by omega))).trans HA9.out
     have HRW10 := hiD r10
     obtain ⟨q10, c10, hv10⟩ := r10.form
     rw [List.length_append, List.length_singleton] at hv10
     subst hv10
     clear r10 g10 o10
     refine hK'.out _ _ trivial (fun _ => ?_)
     clear hK' K'
     try simp only [Act.put, pz0, pz1, pz2]
     refine wpAnyH_take (i := 6) (oi := ⟨some 17, _, _, _, _, _⟩) (v := .pointer (some ⟨W.heap.size, 0, none⟩)) rfl (by kernel_rfl) (by kernel_rfl) (by kernel_rfl) (fun _ _ _ h => h) (.inl ⟨by rfl, fun w' hSw => ?_⟩) hHeld ?_
     focus (skip; clear hHeld; go_simp)
     try simp only [Act.put, pz0, pz1, pz2]
     refine wpAnyH_ready (rs := [7]) (by kernel_rfl) (by simp) ?_
     refine AllReadyH.cons (o := ⟨none, _, _, _, _, _⟩) rfl (fun K' hK' => ?_) AllReadyH.nil
     obtain ⟨x0, y0⟩ := HA10.out.all1
     go_simp
     clear x0 y0
     refine hK'.out _ _ trivial (fun _ => ?_)
     clear hK' K'
     try simp only [Act.put, pz0, pz1, pz2]
     have HA11 : Hid (Arr (w10.setCell ⟨W.heap.size, 0, none⟩ (.slice q10 (acc.length + 1) c10)) 29 W.heap.size [.slice q10 (acc.length + 1) c10]) := HA10.out.set 0 _
     have HRW11 := hiD (HRW10.out.box (.inl (Nat.lt_succ_self _)) 0 (.slice q10 (acc.length + 1) c10))
     have HP11 := hiD (HP10.out.box HLT.out 0 (.slice q10 (acc.length + 1) c10))
     have HK11 := hiD (HK10.out.box (Nat.le_refl _) 0 (.slice q10 (acc.length + 1) c10))
     refine wpAnyH_done (by kernel_rfl) ?_ _
     clear HRW10 HA10 HP10 HK10 HRW9 HA9 HP9 HK9 HE9 HR9 HRW8 HA8 HP8 HK8 HR8
     generalize (w10.setCell ⟨W.heap.size, 0, none⟩ (.slice q10 (acc.length + 1) c10)) = w11 at HA11 HRW11 HP11 HK11 ⊢
     have HE11 : Hid (schemaR ts s = defsF ts m (acc ++ [(n1, n2)]) s8) := by
      show _ = _
      rw [HE.out, defsF_ok HT.out HA64.out HE8.out]
     go_wp2_with fail
     go_roundw
     case rel => exact ⟨m, acc ++ [(n1, n2)], s8, q10, c10, by rw [List.length_append, List.length_singleton]; omega, by rw [List.length_append, List.length_singleton]; have := HA64.out; omega, by rw [List.length_append, List.length_singleton]; exact HRW11.out, by rw [List.length_append, List.length_singleton]; exact HA11.out, HP11.out, HS8.out, HK11.out, HE11.out⟩
     case measure => rw [mlen_arr HA11.out 0 rfl, mlen_arr HA.out 0 rfl]; have := HA64.out; omega
    ·refine stepw_calls (by rfl) ?_ HN7.out (fun w => QR.grown w) ?_ ?_
     focus go_simp
     ·rintro ch w8 hpan
      obtain ⟨k, i, e8, rfl, k8⟩ := hpan.pan
      have HK8 := hiD (HK7.out.trans k8)
      have HE2 : Hid (schemaR ts s = .bad k i) := by
       show _ = _
       rw [HE.out, defsF_bad HT.out HA64.out e8]
      clear e8 k8 hpan
      exact ⟨rfl, .inr ⟨k, i, HE2.out, rfl, HK8.out⟩⟩
     rintro v w8 hret
     obtain ⟨e, s8, e8, r8, p8, k8⟩ := hret.ret
     have HE8 := hiD e8
     have HS8 : Hid (s8.i < ts.length) := keeps_def HO.out _ _ _ HS4.out e8
     obtain ⟨n1, n2⟩ := e
     obtain ⟨q5, c5, rfl, r8b⟩ := VD.form r8
     have HR8 := hiD r8b
     clear r8 r8b
     have HRW8 := hiD (HRW7.out.turn (w' := w8) k8.2.2.2.1 (fun b hb hl _ => k8.2.2.2.2 b hl (by have := HLT.out; omega)))
     have HA8 := hiD (k8.arr HA7.out (by have := HLT.out; omega))
     have HP8 := hiD p8
     have HK8 := hiD (HK7.out.trans k8)
     clear e8 p8 k8 hret
     refine hK'.out _ _ trivial (fun _ => ?_)
     clear hK' K'
     try simp only [Act.put, pz0, pz1, pz2]
     refine wpAnyH_ready (rs := [1, 4]) (by kernel_rfl) (by simp) ?_
     refine AllReadyH.cons (o := ⟨some 12, _, _, _, _, _⟩) rfl (fun K' hK' => ?_) (AllReadyH.cons (o := ⟨some 15, _, _, _, _, _⟩) rfl (fun K' hK' => ?_) AllReadyH.nil)
     ·have x0 := HA8.out.cell 0
      have y0 := HA8.out.free 0
      simp only [List.getElem?_cons_zero] at x0
      go_simp
      clear x0 y0
      refine hK'.out _ _ trivial (fun _ => ?_)
      clear hK' K'
      try simp only [Act.put, pz0, pz1, pz2]
      refine wpAnyH_ready (rs := [4]) (by kernel_rfl) (by simp) ?_
      refine AllReadyH.cons (o := ⟨some 15, _, _, _, _, _⟩) rfl (fun K' hK' => ?_) AllReadyH.nil
      go_simp
      refine hK'.out _ _ trivial (fun _ => ?_)
      clear hK' K'
      try simp only [Act.put, pz0, pz1, pz2]
      have HB9 : Hid (Below w8.heap.size w8 (w8.alloc (.cells #[.string (bstr n1), .slice q5 n2.length c5] 39))) := (Below.refl _ _).alloc (Nat.le_refl _) _
      have HRW9 := hiD (HRW8.out.later HB9.out)
      have HA9 := hiD (HA8.out.later HB9.out)
      have HP9 := hiD (HP8.out.later HB9.out)
      have HK9 := hiD (HK8.out.trans (Kp.of HB9.out))
      have HE9 : Hid (Arr (w8.alloc (.cells #[.string (bstr n1), .slice q5 n2.length c5] 39)) 39 w8.heap.size [.string (bstr n1), .slice q5 n2.length c5]) := Arr.new' _ _ _ _ rfl
      have HR9 : Hid (kdDef.rd (SubX (W.heap.size + 1) (fun _ => False) (w8.alloc (.cells #[.string (bstr n1), .slice q5 n2.length c5] 39)) (.slice q acc.length cc)) (w8.alloc (.cells #[.string (bstr n1), .slice q5 n2.length c5] 39)) (n1, n2) [.string (bstr n1), .slice q5 n2.length c5]) := kdDef.imp (fun b hb => ⟨by have := HGL.out; have := hb.1; omega, Nat.lt_of_lt_of_le hb.2 HB9.out.size, fun e => by have h1 := (HBL.out b e.symm); have := hb.1; omega, fun h => h⟩) (kdDef.keep (fun b hb n => HB9.out.cell (p := ⟨b, n, none⟩) hb.2) HR8.out)
      generalize w8.alloc (.cells #[.string (bstr n1), .slice q5 n2.length c5] 39) = w9 at HRW9 HA9 HP9 HK9 HE9 HR9 ⊢
      clear HB9
      refine wpAnyH_ready (rs := [5]) (by kernel_rfl) (by simp) ?_
      refine AllReadyH.cons (o := ⟨some 16, _, _, _, _, _⟩) rfl (fun K' hK' => ?_) AllReadyH.nil
      refine step_row (K := kdDef) rfl (.tmp 12) (.tmp 15) rfl rfl HRW9.out rfl HE9.out HR9.out HAC.out HA9.out.lt (fun b h => h.elim) ?_
      intro v10 w10 r10 g10 o10
      have HP10 := hiD (HP9.out.below (B := W.heap.size) ((Below.refl _ _).grown g10 (Nat.le_of_lt HA9.out.lt) (fun k hk => Nat.le_of_succ_le (o10 k hk).1)) HLT.out)
      have HK10 := hiD (HK9.out.grown g10 (fun k hk => Nat.le_of_succ_le (o10 k hk).1))
      have HA10 : Hid (Arr w10 29 W.heap.size [.slice q acc.length cc]) := (g10.block _ HA9.out.lt (fun e => absurd (o10 _ e.symm).1 (by omega))).trans HA9.out
      have HRW10 := hiD r10
      obtain ⟨q10, c10, hv10⟩ := r10.form
      rw [List.length_append, List.length_singleton] at hv10
      subst hv10
      clear r10 g10 o10
      refine hK'.out _ _ trivial (fun _ => ?_)
      clear hK' K'
      try simp only [Act.put, pz0, pz1, pz2]
      refine wpAnyH_take (i := 6) (oi := ⟨some 17, _, _, _, _, _⟩) (v := .pointer (some ⟨W.heap.size, 0, none⟩)) rfl (by kernel_rfl) (by kernel_rfl) (by kernel_rfl) (fun _ _ _ h => h) (.inl ⟨by rfl, fun w' hSw => ?_⟩) hHeld ?_
      focus (skip; clear hHeld; go_simp)
      try simp only [Act.put, pz0, pz1, pz2]
      refine wpAnyH_ready (rs := [7]) (by kernel_rfl) (by simp) ?_
      refine AllReadyH.cons (o := ⟨none, _, _, _, _, _⟩) rfl (fun K' hK' => ?_) AllReadyH.nil
      obtain ⟨x0, y0⟩ := HA10.out.all1
      go_simp
      clear x0 y0
      refine hK'.out _ _ trivial (fun _ => ?_)
      clear hK' K'
      try simp only [Act.put, pz0, pz1, pz2]
      have HA11 : Hid (Arr (w10.setCell ⟨W.heap.size, 0, none⟩ (.slice q10 (acc.length + 1) c10)) 29 W.heap.size [.slice q10 (acc.length + 1) c10]) := HA10.out.set 0 _
      have HRW11 := hiD (HRW10.out.box (.inl (Nat.lt_succ_self _)) 0 (.slice q10 (acc.length + 1) c10))
      have HP11 := hiD (HP10.out.box HLT.out 0 (.slice q10 (acc.length + 1) c10))
      have HK11 := hiD (HK10.out.box (Nat.le_refl _) 0 (.slice q10 (acc.length + 1) c10))
      refine wpAnyH_done (by kernel_rfl) ?_ _
      clear HRW10 HA10 HP10 HK10 HRW9 HA9 HP9 HK9 HE9 HR9 HRW8 HA8 HP8 HK8 HR8
      generalize (w10.setCell ⟨W.heap.size, 0, none⟩ (.slice q10 (acc.length + 1) c10)) = w11 at HA11 HRW11 HP11 HK11 ⊢
      have HE11 : Hid (schemaR ts s = defsF ts m (acc ++ [(n1, n2)]) s8) := by
       show _ = _
       rw [HE.out, defsF_ok HT.out HA64.out HE8.out]
      go_wp2_with fail
      go_roundw
      case rel => exact ⟨m, acc ++ [(n1, n2)], s8, q10, c10, by rw [List.length_append, List.length_singleton]; omega, by rw [List.length_append, List.length_singleton]; have := HA64.out; omega, by rw [List.length_append, List.length_singleton]; exact HRW11.out, by rw [List.length_append, List.length_singleton]; exact HA11.out, HP11.out, HS8.out, HK11.out, HE11.out⟩
      case measure => rw [mlen_arr HA11.out 0 rfl, mlen_arr HA.out 0 rfl]; have := HA64.out; omega
     ·go_simp
      refine hK'.out _ _ trivial (fun _ => ?_)
      clear hK' K'
      try simp only [Act.put, pz0, pz1, pz2]
      have HB9 : Hid (Below w8.heap.size w8 (w8.alloc (.cells #[.string (bstr n1), .slice q5 n2.length c5] 39))) := (Below.refl _ _).alloc (Nat.le_refl _) _
      have HRW9 := hiD (HRW8.out.later HB9.out)
      have HA9 := hiD (HA8.out.later HB9.out)
      have HP9 := hiD (HP8.out.later HB9.out)
      have HK9 := hiD (HK8.out.trans (Kp.of HB9.out))
      have HE9 : Hid (Arr (w8.alloc (.cells #[.string (bstr n1), .slice q5 n2.length c5] 39)) 39 w8.heap.size [.string (bstr n1), .slice q5 n2.length c5]) := Arr.new' _ _ _ _ rfl
      have HR9 : Hid (kdDef.rd (SubX (W.heap.size + 1) (fun _ => False) (w8.alloc (.cells #[.string (bstr n1), .slice q5 n2.length c5] 39)) (.slice q acc.length cc)) (w8.alloc (.cells #[.string (bstr n1), .slice q5 n2.length c5] 39)) (n1, n2) [.string (bstr n1), .slice q5 n2.length c5]) := kdDef.imp (fun b hb => ⟨by have := HGL.out; have := hb.1; omega, Nat.lt_of_lt_of_le hb.2 HB9.out.size, fun e => by have h1 := (HBL.out b e.symm); have := hb.1; omega, fun h => h⟩) (kdDef.keep (fun b hb n => HB9.out.cell (p := ⟨b, n, none⟩) hb.2) HR8.out)
      generalize w8.alloc (.cells #[.string (bstr n1), .slice q5 n2.length c5] 39) = w9 at HRW9 HA9 HP9 HK9 HE9 HR9 ⊢
      clear HB9
      refine wpAnyH_ready (rs := [1]) (by kernel_rfl) (by simp) ?_
      refine AllReadyH.cons (o := ⟨some 12, _, _, _, _, _⟩) rfl (fun K' hK' => ?_) AllReadyH.nil
      obtain ⟨x0, y0⟩ := HA9.out.all1
      go_simp
      clear x0 y0
      refine hK'.out _ _ trivial (fun _ => ?_)
      clear hK' K'
      try simp only [Act.put, pz0, pz1, pz2]
      refine wpAnyH_ready (rs := [5]) (by kernel_rfl) (by simp) ?_
      refine AllReadyH.cons (o := ⟨some 16, _, _, _, _, _⟩) rfl (fun K' hK' => ?_) AllReadyH.nil
      refine step_row (K := kdDef) rfl (.tmp 12) (.tmp 15) rfl rfl HRW9.out rfl HE9.out HR9.out HAC.out HA9.out.lt (fun b h => h.elim) ?_
      intro v10 w10 r10 g10 o10
      have HP10 := hiD (HP9.out.below (B := W.heap.size) ((Below.refl _ _).grown g10 (Nat.le_of_lt HA9.out.lt) (fun k hk => Nat.le_of_succ_le (o10 k hk).1)) HLT.out)
      have HK10 := hiD (HK9.out.grown g10 (fun k hk => Nat.le_of_succ_le (o10 k hk).1))
      have HA10 : Hid (Arr w10 29 W.heap.size [.slice q acc.length cc]) := (g10.block _ HA9.out.lt (fun e => absurd (o10 _ e.symm).1 (by omega))).trans HA9.out
      have HRW10 := hiD r10
      obtain ⟨q10, c10, hv10⟩ := r10.form
      rw [List.length_append, List.length_singleton] at hv10
      subst hv10
      clear r10 g10 o10
      refine hK'.out _ _ trivial (fun _ => ?_)
      clear hK' K'
      try simp only [Act.put, pz0, pz1, pz2]
      refine wpAnyH_take (i := 6) (oi := ⟨some 17, _, _, _, _, _⟩) (v := .pointer (some ⟨W.heap.size, 0, none⟩)) rfl (by kernel_rfl) (by kernel_rfl) (by kernel_rfl) (fun _ _ _ h => h) (.inl ⟨by rfl, fun w' hSw => ?_⟩) hHeld ?_
      focus (skip; clear hHeld; go_simp)
      try simp only [Act.put, pz0, pz1, pz2]
      refine wpAnyH_ready (rs := [7]) (by kernel_rfl) (by simp) ?_
      refine AllReadyH.cons (o := ⟨none, _, _, _, _, _⟩) rfl (fun K' hK' => ?_) AllReadyH.nil
      obtain ⟨x0, y0⟩ := HA10.out.all1
      go_simp
      clear x0 y0
      refine hK'.out _ _ trivial (fun _ => ?_)
      clear hK' K'
      try simp only [Act.put, pz0, pz1, pz2]
      have HA11 : Hid (Arr (w10.setCell ⟨W.heap.size, 0, none⟩ (.slice q10 (acc.length + 1) c10)) 29 W.heap.size [.slice q10 (acc.length + 1) c10]) := HA10.out.set 0 _
      have HRW11 := hiD (HRW10.out.box (.inl (Nat.lt_succ_self _)) 0 (.slice q10 (acc.length + 1) c10))
      have HP11 := hiD (HP10.out.box HLT.out 0 (.slice q10 (acc.length + 1) c10))
      have HK11 := hiD (HK10.out.box (Nat.le_refl _) 0 (.slice q10 (acc.length + 1) c10))
      refine wpAnyH_done (by kernel_rfl) ?_ _
      clear HRW10 HA10 HP10 HK10 HRW9 HA9 HP9 HK9 HE9 HR9 HRW8 HA8 HP8 HK8 HR8
      generalize (w10.setCell ⟨W.heap.size, 0, none⟩ (.slice q10 (acc.length + 1) c10)) = w11 at HA11 HRW11 HP11 HK11 ⊢
      have HE11 : Hid (schemaR ts s = defsF ts m (acc ++ [(n1, n2)]) s8) := by
       show _ = _
       rw [HE.out, defsF_ok HT.out HA64.out HE8.out]
      go_wp2_with fail
      go_roundw
      case rel => exact ⟨m, acc ++ [(n1, n2)], s8, q10, c10, by rw [List.length_append, List.length_singleton]; omega, by rw [List.length_append, List.length_singleton]; have := HA64.out; omega, by rw [List.length_append, List.length_singleton]; exact HRW11.out, by rw [List.length_append, List.length_singleton]; exact HA11.out, HP11.out, HS8.out, HK11.out, HE11.out⟩
      case measure => rw [mlen_arr HA11.out 0 rfl, mlen_arr HA.out 0 rfl]; have := HA64.out; omega
   ·have hl1 : ¬ (acc.length : Int) < 64 := by omega
    have HEb : Hid (schemaR ts s = .bad 15 s4.i) := by
     show _ = _
     rw [HE.out, defsF_many HT.out h6]
    clear h6
    go_wp2_with fail
    rw [show decide ((acc.length : Int) < 64) = false from decide_eq_false (by omega)]
    refine (need_f HP6.out HS4.out 15).mono ?_
    rintro r w7 ⟨rfl, b7⟩
    have HK7 := hiD (HK6.out.trans (Kp.of (pb := pb) b7))
    clear b7
    go_wp2_with fail
    exact ⟨rfl, .inr ⟨15, s4.i, HEb.out, rfl, HK7.out⟩⟩
  | false =>
   have HEb : Hid (schemaR ts s = .ok acc s4) := by
    show _ = _
    rw [HE.out, defsF_end (of_decide_eq_false HD1.out.symm)]
   have HR9 := hiD HRW6.out.rdK
   obtain ⟨x0, y0⟩ := HA6.out.all1
   go_wp2_with fail
   have hk := kp_setS w6 W.heap.size (.slice q acc.length cc)
   have hA := HA6.out.setS (.slice q acc.length cc)
   have hv : VS (W.heap.size + 1) acc w6 (.agg #[.slice q acc.length cc]) := ⟨_, rfl, HR9.out⟩
   exact bodyPost_ret (resS rfl hA rfl) rfl (.inl ⟨_, _, _, HEb.out, rfl, ((VS.kp hv hk (Nat.lt_succ_self _)).low (Nat.le_succ _)), HP6.out.kp hk HLT.out HK6.out.2.2.2.1, HK6.out.andThen hk (Nat.le_refl _)⟩)
end
theorem consT_mem {t x : Tok} {r : Toks} (h : x ∈ (consT t r).1) : x = t ∨ x ∈ r.1 := by
 unfold consT at h
 split at h
 ·exact List.mem_cons.1 h
 ·cases h
theorem consT_len (t : Tok) (r : Toks) : (consT t r).1.length ≤ r.1.length + 1 := by
 unfold consT
 split
 ·simp
 ·simp
theorem tokF_offs : ∀ (n i : Nat) (l : List UInt8), (∀ t ∈ (tokF n i l).1, (0 : Int) ≤ t.2.2) ∧ (tokF n i l).1.length ≤ l.length + 1
 | 0, i, l => ⟨fun t h => (by simp [tokF] at h), by simp [tokF]⟩
 | n + 1, i, [] => ⟨fun t h => (by simp [tokF] at h; subst h; show (0 : Int) ≤ (i : Int); omega), by simp [tokF]⟩
 | n + 1, i, c :: r => by
  unfold tokF
  have hz : ∀ (k : Nat) (b : List UInt8), (0 : Int) ≤ (mkT k b i).2.2 := fun k b => by show (0 : Int) ≤ (i : Int); omega
  split
  ·rename_i hw
   have h1 := wd_len c r hw
   split
   ·have ih := tokF_offs n (i + ((c :: r).takeWhile wdB).length) ((c :: r).drop ((c :: r).takeWhile wdB).length)
    refine ⟨fun t h => ?_, ?_⟩
    ·rcases consT_mem h with rfl | h
     ·exact hz _ _
     ·exact ih.1 t h
    ·have h2 := ih.2
     have h3 := consT_len (mkT 1 ((c :: r).takeWhile wdB) i) (tokF n (i + ((c :: r).takeWhile wdB).length) ((c :: r).drop ((c :: r).takeWhile wdB).length))
     rw [List.length_drop] at h2
     rw [List.length_cons] at h2 ⊢
     omega
   ·exact ⟨fun t h => (by cases h), by simp⟩
  ·split
   ·have ih := tokF_offs n (i + 1) r
    exact ⟨ih.1, by rw [List.length_cons]; omega⟩
   ·split
    ·have ih := tokF_offs n (i + ((c :: r).takeWhile lnB).length) ((c :: r).drop ((c :: r).takeWhile lnB).length)
     exact ⟨ih.1, Nat.le_trans ih.2 (by rw [List.length_drop]; omega)⟩
    ·split
     ·have ih := tokF_offs n (i + 2) (r.drop 1)
      refine ⟨fun t h => ?_, ?_⟩
      ·rcases consT_mem h with rfl | h
       ·exact hz _ _
       ·exact ih.1 t h
      ·have h2 := ih.2
       have h3 := consT_len (mkT 2 [45, 62] i) (tokF n (i + 2) (r.drop 1))
       rw [List.length_drop] at h2
       rw [List.length_cons]
       omega
     ·split
      ·have ih := tokF_offs n (i + 1) r
       refine ⟨fun t h => ?_, ?_⟩
       ·rcases consT_mem h with rfl | h
        ·exact hz _ _
        ·exact ih.1 t h
       ·have h2 := ih.2
        have h3 := consT_len (mkT 2 [c] i) (tokF n (i + 1) r)
        rw [List.length_cons]
        omega
      ·exact ⟨fun t h => (by cases h), by simp⟩
theorem tokS_offs (l : List UInt8) (i : Nat) : offs (tokS l).1 i = (offT (tokS l).1 i : Nat) := by
 have h : (0 : Int) ≤ offs (tokS l).1 i := by
  unfold offs
  rw [List.getD_eq_getElem?_getD]
  cases h : (tokS l).1[i]? with
  | none => exact Int.le_refl _
  | some t => exact (tokF_offs _ 0 l).1 t (List.mem_of_getElem? h)
 unfold offT
 show offs (tokS l).1 i = ((offs (tokS l).1 i).toNat : Int)
 omega
theorem tokS_len (l : List UInt8) : (tokS l).1.length ≤ l.length + 1 := (tokF_offs _ 0 l).2
theorem assertF_yes (v : Value) (w : World) : (Instr.typeAssert (.iface 94 v) 20 94 true).run Tryz.prog w = .ok (.tuple #[v, .bool true]) w := by kernel_rfl
theorem assertF_nil (w : World) : (Instr.typeAssert .nilIface 20 94 true).run Tryz.prog w = .ok (.tuple #[.agg #[.int .i64 0, .int .i64 0], .bool false]) w := by kernel_rfl
set_option maxRecDepth 100000 in
set_option maxHeartbeats 2000000 in
theorem catchS (p : Addr) (x : Value) (k : Nat) (n : Int) (older : List PanicEntry) (w : World) (hc : w.cell? p = some x) (hz : w.frozen? p = false) :
  CallsD Tryz.prog 46 #[.pointer (some p)] (.panicking ({ v := flt k n, recovered := false } :: older)) w fun e u' w' =>
   e = .returned (.tuple #[]) ∧ u' = .panicking ({ v := flt k n, recovered := true } :: older) ∧ w' = (w.alloc (.cells #[.int .i64 (k : Nat), .int .i64 n] 94)).setCell p (flt k n) := by
 unfold flt
 have hp : p.block < w.heap.size := World.block_lt_of_cell? w p hc
 have hc' : (w.alloc (.cells #[.int .i64 (k : Nat), .int .i64 n] 94)).cell? p = some x := (World.cell?_alloc_lt _ _ _ hp).trans hc
 have hz' : (w.alloc (.cells #[.int .i64 (k : Nat), .int .i64 n] 94)).frozen? p = false := by
  rw [World.frozen?_of_block (Below.heap_alloc w _ p.block hp)]; exact hz
 refine callsD_of_wpS Tryz.func46 rfl fun c₀ cs hu => ?_
 apply wpS_seq
 apply wpS_region
 simp [wpOpsS, go_sem, recoverD, hu, Tryz.ntmps46, Exit.thenS, assertF_yes]
 apply wpS_seq
 apply wpS_region
 simp [wpOpsS, go_sem, Exit.thenS]
 refine wpS_cond (t := true) (by simp [Act.eval, Array.replicate]) ?_
 simp only [if_true]
 apply wpS_region
 simp [wpOpsS, go_sem, hc', hz', bodyPostS, results, Tryz.results46]
theorem idleS (p : Addr) (w : World) :
  CallsD Tryz.prog 46 #[.pointer (some p)] .returning w fun e u' w' => e = .returned (.tuple #[]) ∧ u' = .returning ∧ Below w.heap.size w w' := by
 have hb : Below w.heap.size w (w.alloc (.cells #[.int .i64 0, .int .i64 0] 94)) := (Below.refl _ _).alloc (Nat.le_refl _) _
 refine callsD_of_wpS Tryz.func46 rfl fun c₀ cs hu => ?_
 apply wpS_seq
 apply wpS_region
 simp [wpOpsS, go_sem, recoverD, hu, Tryz.ntmps46, Exit.thenS, assertF_nil]
 apply wpS_seq
 apply wpS_region
 simp [wpOpsS, go_sem, Exit.thenS]
 refine wpS_cond (t := false) (by simp [Act.eval, Array.replicate]) ?_
 simp only [Bool.false_eq_true, if_false]
 refine wpS_of_wp (wp_skip ?_)
 cases c₀
 simp_all [bodyPostS, results, Tryz.results46]
end Go.Proofs.YtkildckeikedhaaGreatDoor
