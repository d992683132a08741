/-
  The reference's types.
-/
import Derived.Test.YtkildckeikedhaaGreatDoorMr9
namespace Go.Proofs.YtkildckeikedhaaGreatDoor
open Go.ChangeShapes Go.WideShapes Go.ChangeAt Go.RowKit
set_option linter.unusedVariables false

theorem RT.kp {w w' : World} {tb g : Nat} {ts : List Tok} (h : RT w tb ts) (hk : Kp g w w') (hg : tb ≠ g) : RT w' tb ts :=
 ⟨Nat.lt_of_lt_of_le h.1 hk.2.2.2.1, h.2.1, fun i hi j hj => (World.cell?_of_block (hk.2.2.2.2 tb h.1 hg)).trans (h.2.2 i hi j hj)⟩
theorem AlRow.later {base : Nat} {w w' : World} {v : Value} {l : List AlB} (h : AlRow base w v l) (hb : Below w.heap.size w w') : AlRow base w' v l := by
 refine ⟨h.1, ?_⟩
 rcases h.2 with h | ⟨g, cap, cur, rfl, h0, h1, r⟩
 ·exact .inl h
 ·exact .inr ⟨g, cap, cur, rfl, h0, (hb.block g (Array.getElem?_eq_some_iff.1 h1).1).trans h1, r⟩
theorem AlRow.apart {base g : Nat} {w w' : World} {v : Value} {l : List AlB} (h : AlRow base w v l) (hk : Kp g w w') (hg : ∀ b, v.ownBlock = some b → b < g) : AlRow base w' v l := by
 refine ⟨h.1, ?_⟩
 rcases h.2 with h | ⟨b, cap, cur, rfl, h0, h1, r⟩
 ·exact .inl h
 ·exact .inr ⟨b, cap, cur, rfl, h0, (hk.2.2.2.2 b (Array.getElem?_eq_some_iff.1 h1).1 (by have := hg b rfl; omega)).trans h1, r⟩
theorem AlRow.blk {base : Nat} {w : World} {v : Value} {l : List AlB} (h : AlRow base w v l) : ∀ b, v.ownBlock = some b → b < w.heap.size := fun b hb => (World.ownsRow.lt h b hb).2
theorem allowed_go0 {ts : List Tok} {i k o l : Nat} {x : List UInt8} {s : PS} (h : Go1 ts k i o l x (nameF ts s)) (hn : ¬ (k = 0 ∧ txt ts i = [35])) : Go1 ts k i o l (x, ([] : List UInt8)) (allowedF ts s) := by
 obtain ⟨h1, h2, h3⟩ := h
 refine ⟨h1, h2, ?_⟩
 unfold allowedF
 rcases h3 with ⟨h3, h4⟩ | ⟨h3, h4⟩
 ·refine .inl ⟨h3, ?_⟩
  rw [h4, PR.then_ok, if_neg (fun h => hn ⟨h3, h⟩)]
 ·refine .inr ⟨h3, ?_⟩
  rw [h4]; rfl
theorem allowed_go1 {ts : List Tok} {i k o l i2 k2 : Nat} {x y : List UInt8} {s : PS} (h : Go1 ts k i o l x (nameF ts s)) (hk : k = 0) (ht : txt ts i = [35]) (h2 : Go1 ts k2 i2 o l y (st k (i + 1) (nameF ts ⟨i + 1, o, l⟩))) : Go1 ts k2 i2 o l (x, y) (allowedF ts s) := by
 rw [st_0 hk] at h2
 obtain ⟨h3, h4, h5⟩ := h2
 obtain ⟨_, _, ⟨_, h6⟩ | ⟨h6, _⟩⟩ := h
 ·refine ⟨h3, h4, ?_⟩
  unfold allowedF
  rw [h6, PR.then_ok, if_pos ht]
  show (k2 = 0 ∧ (nameF ts ⟨i + 1, o, l⟩).then _ = _) ∨ (¬ k2 = 0 ∧ (nameF ts ⟨i + 1, o, l⟩).then _ = _)
  rcases h5 with ⟨h5, h7⟩ | ⟨h5, h7⟩
  ·exact .inl ⟨h5, by rw [h7]; rfl⟩
  ·exact .inr ⟨h5, by rw [h7]; rfl⟩
 ·exact absurd hk h6
theorem types_go {ts : List Tok} {n i k o l : Nat} {acc : List AlB} {a : AlB} {s : PS} (h : Go1 ts k i o l a (allowedF ts s)) (hn : acc.length ≠ 32) (ht : ¬ (k = 0 ∧ txt ts i = [124])) : Go1 ts k i o l (acc ++ [a]) (typesF ts (n + 1) acc s) := by
 obtain ⟨h1, h2, h3⟩ := h
 refine ⟨h1, h2, ?_⟩
 rw [typesF_step ts n acc s hn]
 rcases h3 with ⟨h3, h4⟩ | ⟨h3, h4⟩
 ·refine .inl ⟨h3, ?_⟩
  rw [h4, PR.then_ok]
  exact if_neg (fun h => ht ⟨h3, h⟩)
 ·refine .inr ⟨h3, ?_⟩
  rw [h4]; rfl
theorem types_next {ts : List Tok} {n i k o l : Nat} {acc : List AlB} {a : AlB} {s : PS} (h : Go1 ts k i o l a (allowedF ts s)) (hn : acc.length ≠ 32) (hk : k = 0) (ht : txt ts i = [124]) : typesF ts (n + 1) acc s = typesF ts n (acc ++ [a]) ⟨i + 1, o, l⟩ := by
 obtain ⟨_, _, ⟨_, h4⟩ | ⟨h4, _⟩⟩ := h
 ·rw [typesF_step ts n acc s hn, h4, PR.then_ok]
  exact if_pos ht
 ·exact absurd hk h4
theorem Arr.setA {w : World} {t : TypeId} {g : Nat} {y0 y1 : Value} (h : Arr w t g [y0, y1]) (x0 x1 : Value) : Arr ((w.setCell ⟨g, 0, none⟩ x0).setCell ⟨g, 1, none⟩ x1) t g [x0, x1] := ((h.set 0 x0).set 1 x1)
theorem kp_setA (w : World) (g : Nat) (x0 x1 : Value) : Kp g w ((w.setCell ⟨g, 0, none⟩ x0).setCell ⟨g, 1, none⟩ x1) := (((Kp.of (pb := g) (Below.refl _ _)).set 0 x0).set 1 x1)
theorem resA {fn : Func} {p : Tmp} (h : fn.results = #[.cell p 42]) {tmps : Array Value} {w : World} {g : Nat} {x0 x1 : Value} (hA : Arr w 42 g [x0, x1]) (hp : tmps.getD p undef = .pointer (some ⟨g, 0, none⟩)) :
  (results fn tmps).run Tryz.prog w = .ok (.agg #[x0, x1]) w :=
 results_cell_row h tmps w g 42 #[x0, x1] (0, 0) _ hp hA Tryz.underlying42 rfl (by kernel_rfl)
section
variable {W : World} {tb c k : Nat} {ts : List Tok} {s : PS}
set_option maxRecDepth 100000 in
set_option maxHeartbeats 8000000 in
theorem rtypes_any (ho : OkB ts) (h : RT W tb ts) (hi : s.i < ts.length) (hl : Lk k s.l) : Calls Tryz.prog 33 #[.agg #[.slice (some ⟨tb, 0, none⟩) ts.length c, .int .i64 (s.i : Nat), .int .i64 (k : Nat), .int .i64 (s.o : Nat), .int .i64 (s.l : Nat)]] W fun e w' => ∃ i' k' x v, Go1 ts k' i' s.o s.l x (st k s.i (typesR ts s)) ∧ e = .returned (.tuple #[.agg #[.slice (some ⟨tb, 0, none⟩) ts.length c, .int .i64 (i' : Nat), .int .i64 (k' : Nat), .int .i64 (s.o : Nat), .int .i64 (s.l : Nat)], v]) ∧ RdA (Bt W.heap.size w'.heap.size) w' x v ∧ Below W.heap.size W w' := by
 have HZ : Hid (tb < W.heap.size) := h.1
 have hb2 : Below W.heap.size W ((W.alloc (.cells #[.slice (some ⟨tb, 0, none⟩) ts.length c, .int .i64 (s.i : Nat), .int .i64 (k : Nat), .int .i64 (s.o : Nat), .int .i64 (s.l : Nat)] 56)).alloc (.cells #[.slice none 0 0, .int .i64 0, .int .i64 0, .int .i64 0, .int .i64 0] 56)) := ((Below.refl _ _).alloc (Nat.le_refl _) _).alloc (by simp) _
 have HB2 := hiD hb2
 have HA2 : Hid (Arr ((W.alloc (.cells #[.slice (some ⟨tb, 0, none⟩) ts.length c, .int .i64 (s.i : Nat), .int .i64 (k : Nat), .int .i64 (s.o : Nat), .int .i64 (s.l : Nat)] 56)).alloc (.cells #[.slice none 0 0, .int .i64 0, .int .i64 0, .int .i64 0, .int .i64 0] 56)) 56 W.heap.size [.slice (some ⟨tb, 0, none⟩) ts.length c, .int .i64 (s.i : Nat), .int .i64 (k : Nat), .int .i64 (s.o : Nat), .int .i64 (s.l : Nat)]) := (Arr.new' _ _ _ _ rfl).alloc _
 have HQ2 : Hid (Arr ((W.alloc (.cells #[.slice (some ⟨tb, 0, none⟩) ts.length c, .int .i64 (s.i : Nat), .int .i64 (k : Nat), .int .i64 (s.o : Nat), .int .i64 (s.l : Nat)] 56)).alloc (.cells #[.slice none 0 0, .int .i64 0, .int .i64 0, .int .i64 0, .int .i64 0] 56)) 56 (W.heap.size + 1) [.slice none 0 0, .int .i64 0, .int .i64 0, .int .i64 0, .int .i64 0]) := Arr.new2 _ _ _ _ _ rfl
 have HT2 : Hid (RT ((W.alloc (.cells #[.slice (some ⟨tb, 0, none⟩) ts.length c, .int .i64 (s.i : Nat), .int .i64 (k : Nat), .int .i64 (s.o : Nat), .int .i64 (s.l : Nat)] 56)).alloc (.cells #[.slice none 0 0, .int .i64 0, .int .i64 0, .int .i64 0, .int .i64 0] 56)) tb ts) := (h.later ((Below.refl _ _).alloc (Nat.le_refl _) _)).later ((Below.refl _ _).alloc (Nat.le_refl _) _)
 have HO := hiD ho
 have HH := hiD hi
 have HL := hiD hl
 clear hb2 h hi hl ho
 go_enter Tryz.func33, Tryz.ntmps33
 go_wp2_with fail
 go_loopw [4, 5] (fun ov _ wr => ∃ (n : Nat) (acc : List AlB) (i4 k4 : Nat), acc.length + n = 33 ∧ acc.length ≤ 32 ∧ ∃ q cc, ov = .slice q acc.length cc ∧ Hid (AlRow (W.heap.size + 2) wr (.slice q acc.length cc) acc) ∧ Hid (Arr wr 56 W.heap.size [.slice (some ⟨tb, 0, none⟩) ts.length c, .int .i64 (i4 : Nat), .int .i64 (k4 : Nat), .int .i64 (s.o : Nat), .int .i64 (s.l : Nat)]) ∧ Hid (Arr wr 56 (W.heap.size + 1) [.slice none 0 0, .int .i64 0, .int .i64 0, .int .i64 0, .int .i64 0]) ∧ Hid (RT wr tb ts) ∧ Hid (Below W.heap.size W wr) ∧ Hid (i4 < ts.length) ∧ Hid (Lk k4 s.l) ∧ ((k4 = 0 ∧ Hid (k = 0) ∧ Hid (typesR ts s = typesF ts n acc ⟨i4, s.o, s.l⟩)) ∨ (¬ k4 = 0 ∧ st k s.i (typesR ts s) = .bad k4 i4 ∧ acc = []))) (fun ov _ _ => 33 - (match ov with | .slice _ n _ => n | _ => 0))
 case atStart =>
  refine ⟨33, [], s.i, k, rfl, by simp, none, 0, rfl, World.ownsRow_nil _ _ _ _, HA2.out, HQ2.out, HT2.out, HB2.out, HH.out, HL.out, ?_⟩
  by_cases hk : k = 0
  ·exact .inl ⟨hk, hk, rfl⟩
  ·exact .inr ⟨hk, st_n hk, rfl⟩
 case round =>
  obtain ⟨n, acc, i4, k4, hn, h32, q, cc, rfl, HR, HA, HQ, HT, HB, HS4, HL4, hcase⟩ := hrel
  rcases hcase with ⟨hk4, HK0, HE⟩ | ⟨hk4, hr, rfl⟩
  ·have HK4 := hiD hk4
   have hk5 : ((k4 : Int) == 0) = true := by simp [hk4]
   obtain ⟨n, rfl⟩ : ∃ j, n = j + 1 := ⟨n - 1, by omega⟩
   clear hk4
   obtain ⟨p0, z0, p1, z1, p2, z2, p3, z3, p4, z4⟩ := HA.out.all5
   by_cases h6 : acc.length = 32
   ·have h6' : ((acc.length : Int) == 32) = true := by simp [h6]
    have HGF : Hid (Go1 ts 15 i4 s.o s.l ([] : List AlB) (st k s.i (typesR ts s))) := by
     show Go1 _ _ _ _ _ _ _
     rw [st_0 HK0.out, HE.out, typesF, if_pos h6]
     exact ⟨HS4.out, ⟨HL4.out.1, fun h => by cases h⟩, .inr ⟨by decide, rfl⟩⟩
    have HBD := hiD (rbad_any (c := c) (k := k4) (tb := tb) (ts := ts) (s := ⟨i4, s.o, s.l⟩) (W := wr) 15)
    clear h6
    go_wp2_with fail
    refine HBD.out.mono ?_
    rintro r w5 ⟨k', hk', rfl, b5⟩
    have HGF : Hid (Go1 ts k' i4 s.o s.l ([] : List AlB) (st k s.i (typesR ts s))) := (hk'.trans (if_pos HK4.out)) ▸ HGF.out
    have HQ := hiD (HQ.out.later b5)
    have HR := hiD (HR.out.later b5)
    have HB := hiD (HB.out.trans (b5.mono HB.out.size))
    clear b5 hk' HBD
    obtain ⟨u0, v0, u1, v1, u2, v2, u3, v3, u4, v4⟩ := HQ.out.all5
    go_wp2_with fail
    have hA := HQ.out.setP (.slice (some ⟨tb, 0, none⟩) ts.length c) (.int .i64 (i4 : Nat)) (.int .i64 (k' : Nat)) (.int .i64 (s.o : Nat)) (.int .i64 (s.l : Nat))
    have hkq := kp_setP w5 (W.heap.size + 1) (.slice (some ⟨tb, 0, none⟩) ts.length c) (.int .i64 (i4 : Nat)) (.int .i64 (k' : Nat)) (.int .i64 (s.o : Nat)) (.int .i64 (s.l : Nat))
    have hB := HB.out.trans (hkq.below (B := W.heap.size) (by omega) HB.out.size)
    have c0 := hA.cell 0
    have c1 := hA.cell 1
    have c2 := hA.cell 2
    have c3 := hA.cell 3
    have c4 := hA.cell 4
    simp only [List.getElem?_cons_zero, List.getElem?_cons_succ] at c0 c1 c2 c3 c4
    refine bodyPost_ret (v := .tuple #[.agg #[.slice (some ⟨tb, 0, none⟩) ts.length c, .int .i64 (i4 : Nat), .int .i64 (k' : Nat), .int .i64 (s.o : Nat), .int .i64 (s.l : Nat)], .slice none 0 0]) ?_ rfl ⟨i4, k', [], _, HGF.out, rfl, RdA.nil _ _, hB⟩
    simp [results, Tryz.results33, go_sem, c0, c1, c2, c3, c4]
   ·have h6' : ((acc.length : Int) == 32) = false := by simp; omega
    have hal : acc.length ≠ 32 := h6
    obtain ⟨g, hg⟩ : ∃ g, g = wr.heap.size := ⟨_, rfl⟩
    have hb3 : Below wr.heap.size wr (wr.alloc (.cells #[.string ⟨#[]⟩, .string ⟨#[]⟩] 42)) := (Below.refl _ _).alloc (Nat.le_refl _) _
    have HX : Hid (Arr (wr.alloc (.cells #[.string ⟨#[]⟩, .string ⟨#[]⟩] 42)) 42 g [.string ⟨#[]⟩, .string ⟨#[]⟩]) := by rw [hg]; exact Arr.new' _ _ _ _ rfl
    have HOB : Hid (∀ b, (Value.slice q acc.length cc).ownBlock = some b → b < g) := by rw [hg]; exact HR.out.blk
    have HG2 : Hid (W.heap.size + 2 ≤ g) := by rw [hg]; exact HQ.out.lt
    have HNM := hiD (rname_any (c := c) (k := k4) (s := ⟨i4, s.o, s.l⟩) HO.out (HT.out.later hb3) HS4.out ⟨HL4.out.1, fun a _ => HL4.out.2 a⟩)
    go_upto_region 6 with (fail)
    clear p0 z0 p1 z1 p2 z2 p3 z3 p4 z4
    rw [← hg]
    have HQ := hiD (HQ.out.later hb3)
    have HR := hiD (HR.out.later hb3)
    have HT := hiD (HT.out.later hb3)
    have HA := hiD (HA.out.later hb3)
    have HB := hiD (HB.out.trans (hb3.mono HB.out.size))
    generalize wr.alloc (.cells #[.string ⟨#[]⟩, .string ⟨#[]⟩] 42) = w3 at HX HNM HA HQ HR HT HB ⊢
    clear hb3 hg h6
    obtain ⟨p0, z0, p1, z1, p2, z2, p3, z3, p4, z4⟩ := HA.out.all5
    go_wp2_with fail
    refine HNM.out.mono ?_
    rintro r w4 ⟨i5, k5, x1, hg5, rfl, b4⟩
    have HQ := hiD (HQ.out.later b4)
    have HR := hiD (HR.out.later b4)
    have HT := hiD (HT.out.later b4)
    have HX := hiD (HX.out.later b4)
    have HA := hiD (HA.out.later b4)
    have HB := hiD (HB.out.trans (b4.mono HB.out.size))
    have HG5 : Hid (Go1 ts k5 i5 s.o s.l x1 (nameF ts ⟨i4, s.o, s.l⟩)) := by
     have h := hg5
     rw [st_0 HK4.out] at h
     exact h
    clear hg5 b4 HNM
    have hgn1 : ¬ g = W.heap.size := by have := HG2.out; omega
    have hgn2 : ¬ W.heap.size = g := by have := HG2.out; omega
    clear p0 z0 p1 z1 p2 z2 p3 z3 p4 z4
    obtain ⟨p0, z0, p1, z1, p2, z2, p3, z3, p4, z4⟩ := HA.out.all5
    obtain ⟨xa0, ya0, xa1, ya1⟩ := HX.out.all2
    go_upto_region 7 with (fail)
    clear p0 z0 p1 z1 p2 z2 p3 z3 p4 z4
    clear xa0 ya0 xa1 ya1
    have hkp := kp_setP w4 (W.heap.size) (.slice (some ⟨tb, 0, none⟩) ts.length c) (.int .i64 (i5 : Nat)) (.int .i64 (k5 : Nat)) (.int .i64 (s.o : Nat)) (.int .i64 (s.l : Nat))
    have HA := hiD (HA.out.setP (.slice (some ⟨tb, 0, none⟩) ts.length c) (.int .i64 (i5 : Nat)) (.int .i64 (k5 : Nat)) (.int .i64 (s.o : Nat)) (.int .i64 (s.l : Nat)))
    have HQ := hiD (hkp.arr HQ.out (by first | (have := HG2.out; have := HZ.out; omega)))
    have HR := hiD (HR.out.kp hkp (by first | (have := HG2.out; have := HZ.out; omega)))
    have HT := hiD (HT.out.kp hkp (by first | (have := HG2.out; have := HZ.out; omega)))
    have HX := hiD (hkp.arr HX.out (by first | (have := HG2.out; have := HZ.out; omega)))
    have HB := hiD (HB.out.trans (hkp.below (B := W.heap.size) (by omega) HB.out.size))
    clear hkp
    generalize (((((w4.setCell ⟨W.heap.size, 0, none⟩ (.slice (some ⟨tb, 0, none⟩) ts.length c)).setCell ⟨W.heap.size, 1, none⟩ (.int .i64 (i5 : Nat))).setCell ⟨W.heap.size, 2, none⟩ (.int .i64 (k5 : Nat))).setCell ⟨W.heap.size, 3, none⟩ (.int .i64 (s.o : Nat))).setCell ⟨W.heap.size, 4, none⟩ (.int .i64 (s.l : Nat))) = w5 at HA HQ HR HT HX HB ⊢
    have hkp := (Kp.of (pb := g) (Below.refl w5.heap.size w5)).set 0 (.string (bstr x1))
    have HX : Hid (Arr (w5.setCell ⟨g, 0, none⟩ (.string (bstr x1))) 42 g [.string (bstr x1), .string ⟨#[]⟩]) := HX.out.set 0 (.string (bstr x1))
    have HA := hiD (hkp.arr HA.out (by have := HG2.out; omega))
    have HQ := hiD (hkp.arr HQ.out (by have := HG2.out; omega))
    have HT := hiD (HT.out.kp hkp (by have := HZ.out; have := HG2.out; omega))
    have HR := hiD (HR.out.apart hkp HOB.out)
    have HB := hiD (HB.out.trans (hkp.below (B := W.heap.size) (by have := HG2.out; omega) HB.out.size))
    clear hkp
    generalize w5.setCell ⟨g, 0, none⟩ (.string (bstr x1)) = w6 at HX HA HQ HT HR HB ⊢
    have HIS := hiD (ris_any (s := ⟨i5, s.o, s.l⟩) (c := c) (k := k5) HO.out.1 HT.out HG5.out.1 ⟨#[35]⟩ [35] rfl (by decide))
    obtain ⟨d, hd⟩ : ∃ d, d = (decide (k5 = 0) && decide (txt ts i5 = [35])) := ⟨_, rfl⟩
    have HD := hiD hd
    rw [show (decide (k5 = 0) && decide (txt ts (⟨i5, s.o, s.l⟩ : PS).i = [35])) = d from hd.symm] at HIS
    clear hd
    obtain ⟨p0, z0, p1, z1, p2, z2, p3, z3, p4, z4⟩ := HA.out.all5
    go_wp2_with fail
    refine HIS.out.mono ?_
    rintro r w7 ⟨rfl, b7⟩
    clear p0 z0 p1 z1 p2 z2 p3 z3 p4 z4
    have HQ := hiD (HQ.out.later b7)
    have HR := hiD (HR.out.later b7)
    have HT := hiD (HT.out.later b7)
    have HX := hiD (HX.out.later b7)
    have HA := hiD (HA.out.later b7)
    have HB := hiD (HB.out.trans (b7.mono HB.out.size))
    clear b7 HIS
    cases d with
    | false =>
     have hd := HD.out
     simp only [Bool.false_eq, Bool.and_eq_false_iff, decide_eq_false_iff_not] at hd
     have HGA := hiD (allowed_go0 HG5.out (fun h => hd.elim (fun h1 => h1 h.1) (fun h2 => h2 h.2)))
     clear hd
     obtain ⟨xa0, ya0, xa1, ya1⟩ := HX.out.all2
     have hb9 : Below w7.heap.size w7 (w7.alloc (.cells #[.string (bstr x1), .string (bstr ([] : List UInt8))] 42)) := (Below.refl _ _).alloc (Nat.le_refl _) _
     have HQ := hiD (HQ.out.later hb9)
     have HR := hiD (HR.out.later hb9)
     have HT := hiD (HT.out.later hb9)
     have HX := hiD (HX.out.later hb9)
     have HA := hiD (HA.out.later hb9)
     have HB := hiD (HB.out.trans (hb9.mono HB.out.size))
     have HY : Hid (Arr (w7.alloc (.cells #[.string (bstr x1), .string (bstr ([] : List UInt8))] 42)) 42 w7.heap.size [.string (bstr (x1, ([] : List UInt8)).1), .string (bstr (x1, ([] : List UInt8)).2)]) := Arr.new' _ _ _ _ rfl
     have HAC : Hid (acc.length + 1 ≤ 1000000) := by show _ ≤ _; omega
     have HBS : Hid (W.heap.size + 2 ≤ (w7.alloc (.cells #[.string (bstr x1), .string (bstr ([] : List UInt8))] 42)).heap.size) := Nat.le_trans HG2.out (Nat.le_of_lt HX.out.lt)
     clear hb9
     go_wp2_with (at_builtin; refine app_al (e := (x1, ([] : List UInt8))) rfl _ _ rfl rfl HR.out rfl HY.out HAC.out HBS.out ?_)
     intro v10 w10 r10 g10 o10
     have hlo : ∀ b, (Value.slice q acc.length cc).ownBlock = some b → W.heap.size + 2 ≤ b ∧ b < g := fun b hb => ⟨o10 b hb, HOB.out b hb⟩
     have HA : Hid (Arr w10 56 W.heap.size [.slice (some ⟨tb, 0, none⟩) ts.length c, .int .i64 (i5 : Nat), .int .i64 (k5 : Nat), .int .i64 (s.o : Nat), .int .i64 (s.l : Nat)]) := (g10.block _ HA.out.lt (fun e => by have := (hlo _ e.symm).1; omega)).trans HA.out
     have HQ : Hid (Arr w10 56 (W.heap.size + 1) [.slice none 0 0, .int .i64 0, .int .i64 0, .int .i64 0, .int .i64 0]) := (g10.block _ HQ.out.lt (fun e => by have := (hlo _ e.symm).1; omega)).trans HQ.out
     have HT : Hid (RT w10 tb ts) := by
      have hb := (Below.refl W.heap.size (w7.alloc (.cells #[.string (bstr x1), .string (bstr ([] : List UInt8))] 42))).grown g10 (Nat.le_trans (Nat.le_add_right _ 2) HBS.out) (fun k hk => Nat.le_trans (Nat.le_add_right _ 2) (o10 k hk))
      exact ⟨Nat.lt_of_lt_of_le HT.out.1 hb.size, HT.out.2.1, fun i hi j hj => (hb.cell (p := ⟨tb, i * 3 + j, none⟩) HZ.out).trans (HT.out.2.2 i hi j hj)⟩
     have HB := hiD (HB.out.grown g10 (Nat.le_trans (Nat.le_add_right _ 2) HBS.out) (fun k hk => Nat.le_trans (Nat.le_add_right _ 2) (o10 k hk)))
     have HR := hiD r10
     obtain ⟨q10, c10, hv10⟩ := r10.form
     rw [List.length_append, List.length_singleton] at hv10
     subst hv10
     clear r10 g10 o10 hlo
     have HL2 := hiD HGA.out.2.1
     have HH2 := hiD HGA.out.1
     have HIS := hiD (ris_any (s := ⟨i5, s.o, s.l⟩) (c := c) (k := k5) HO.out.1 HT.out HH2.out ⟨#[124]⟩ [124] rfl (by decide))
     obtain ⟨d2, hd2⟩ : ∃ d, d = (decide (k5 = 0) && decide (txt ts i5 = [124])) := ⟨_, rfl⟩
     have HD2 := hiD hd2
     rw [show (decide (k5 = 0) && decide (txt ts (⟨i5, s.o, s.l⟩ : PS).i = [124])) = d2 from hd2.symm] at HIS
     clear hd2 xa0 xa1 ya0 ya1
     obtain ⟨p0, z0, p1, z1, p2, z2, p3, z3, p4, z4⟩ := HA.out.all5
     go_wp2_with fail
     refine HIS.out.mono ?_
     rintro r w11 ⟨rfl, b11⟩
     clear p0 z0 p1 z1 p2 z2 p3 z3 p4 z4
     have HQ := hiD (HQ.out.later b11)
     have HR := hiD (HR.out.later b11)
     have HT := hiD (HT.out.later b11)
     have HA := hiD (HA.out.later b11)
     have HB := hiD (HB.out.trans (b11.mono HB.out.size))
     clear b11 HIS
     cases d2 with
     | true =>
      have hd := HD2.out
      simp only [Bool.true_eq, Bool.and_eq_true, decide_eq_true_eq] at hd
      have HEN : Hid (typesR ts s = typesF ts n (acc ++ [(x1, ([] : List UInt8))]) ⟨i5 + 1, s.o, s.l⟩) := HE.out.trans (types_next HGA.out (by omega) hd.1 hd.2)
      have HSN : Hid (i5 + 1 < ts.length) := HO.out.1.step (by rw [hd.2]; decide)
      have HKN := hiD hd.1
      clear hd
      have hzi0 : (0 : Int) ≤ i5 := by omega
      have hzi1 : (i5 : Int) ≤ 100000 := by have := HH2.out; have := HT.out.2.1; omega
      obtain ⟨p0, z0, p1, z1, p2, z2, p3, z3, p4, z4⟩ := HA.out.all5
      go_wp2_with fail
      clear p0 z0 p1 z1 p2 z2 p3 z3 p4 z4
      have hkp := (Kp.of (pb := W.heap.size) (Below.refl w11.heap.size w11)).set 1 (.int .i64 ((i5 : Int) + 1))
      have HA : Hid (Arr (w11.setCell ⟨W.heap.size, 1, none⟩ (.int .i64 ((i5 : Int) + 1))) 56 W.heap.size [.slice (some ⟨tb, 0, none⟩) ts.length c, .int .i64 (i5 + 1 : Nat), .int .i64 (k5 : Nat), .int .i64 (s.o : Nat), .int .i64 (s.l : Nat)]) := by
       have h := HA.out.set 1 (.int .i64 ((i5 : Int) + 1))
       rw [show ((i5 + 1 : Nat) : Int) = (i5 : Int) + 1 from by simp]
       exact h
      have HQ := hiD (hkp.arr HQ.out (by have := HZ.out; omega))
      have HR := hiD (HR.out.kp hkp (by have := HZ.out; omega))
      have HT := hiD (HT.out.kp hkp (by have := HZ.out; omega))
      have HB := hiD (HB.out.trans (hkp.below (B := W.heap.size) (by omega) HB.out.size))
      clear hkp
      generalize w11.setCell ⟨W.heap.size, 1, none⟩ (.int .i64 ((i5 : Int) + 1)) = w12 at HA HB HQ HR HT ⊢
      go_roundw
      case rel => exact ⟨n, acc ++ [(x1, ([] : List UInt8))], i5 + 1, k5, by rw [List.length_append, List.length_singleton]; omega, by rw [List.length_append, List.length_singleton]; omega, q10, c10, by rw [List.length_append, List.length_singleton], by rw [List.length_append, List.length_singleton]; exact HR.out, HA.out, HQ.out, HT.out, HB.out, HSN.out, HL2.out, .inl ⟨HKN.out, HK0.out, HEN.out⟩⟩
      case measure => simp; omega
     | false =>
      have hd := HD2.out
      simp only [Bool.false_eq, Bool.and_eq_false_iff, decide_eq_false_iff_not] at hd
      have HGF : Hid (Go1 ts k5 i5 s.o s.l (acc ++ [(x1, ([] : List UInt8))]) (st k s.i (typesR ts s))) := by
       show Go1 _ _ _ _ _ _ _
       rw [st_0 HK0.out, HE.out]
       exact types_go HGA.out (by omega) (fun h => hd.elim (fun h1 => h1 h.1) (fun h2 => h2 h.2))
      have HRD := hiD HR.out.rd
      clear hd
      obtain ⟨p0, z0, p1, z1, p2, z2, p3, z3, p4, z4⟩ := HA.out.all5
      obtain ⟨u0, v0, u1, v1, u2, v2, u3, v3, u4, v4⟩ := HQ.out.all5
      go_wp2_with fail
      have hA := HQ.out.setP (.slice (some ⟨tb, 0, none⟩) ts.length c) (.int .i64 (i5 : Nat)) (.int .i64 (k5 : Nat)) (.int .i64 (s.o : Nat)) (.int .i64 (s.l : Nat))
      have hkq := kp_setP w11 (W.heap.size + 1) (.slice (some ⟨tb, 0, none⟩) ts.length c) (.int .i64 (i5 : Nat)) (.int .i64 (k5 : Nat)) (.int .i64 (s.o : Nat)) (.int .i64 (s.l : Nat))
      have hB := HB.out.trans (hkq.below (B := W.heap.size) (by omega) HB.out.size)
      have c0 := hA.cell 0
      have c1 := hA.cell 1
      have c2 := hA.cell 2
      have c3 := hA.cell 3
      have c4 := hA.cell 4
      simp only [List.getElem?_cons_zero, List.getElem?_cons_succ] at c0 c1 c2 c3 c4
      refine bodyPost_ret (v := .tuple #[.agg #[.slice (some ⟨tb, 0, none⟩) ts.length c, .int .i64 (i5 : Nat), .int .i64 (k5 : Nat), .int .i64 (s.o : Nat), .int .i64 (s.l : Nat)], .slice q10 (acc.length + 1) c10]) ?_ rfl ⟨i5, k5, acc ++ [(x1, ([] : List UInt8))], _, HGF.out, rfl, ((RdA.low HRD.out (Nat.le_refl _)).kp hkq (by omega)).low (by omega), hB⟩
      simp [results, Tryz.results33, go_sem, c0, c1, c2, c3, c4]
    | true =>
     have hd := HD.out
     simp only [Bool.true_eq, Bool.and_eq_true, decide_eq_true_eq] at hd
     have HK5 := hiD hd.1
     have HT5 := hiD hd.2
     have HS6 : Hid (i5 + 1 < ts.length) := HO.out.1.step (by rw [hd.2]; decide)
     clear hd
     have hzi0 : (0 : Int) ≤ i5 := by omega
     have hzi1 : (i5 : Int) ≤ 100000 := by have := HS6.out; have := HT.out.2.1; omega
     obtain ⟨p0, z0, p1, z1, p2, z2, p3, z3, p4, z4⟩ := HA.out.all5
     go_upto_region 9 with (fail)
     clear p0 z0 p1 z1 p2 z2 p3 z3 p4 z4
     have hkp := (Kp.of (pb := W.heap.size) (Below.refl w7.heap.size w7)).set 1 (.int .i64 ((i5 : Int) + 1))
     have HA : Hid (Arr (w7.setCell ⟨W.heap.size, 1, none⟩ (.int .i64 ((i5 : Int) + 1))) 56 W.heap.size [.slice (some ⟨tb, 0, none⟩) ts.length c, .int .i64 (i5 + 1 : Nat), .int .i64 (k5 : Nat), .int .i64 (s.o : Nat), .int .i64 (s.l : Nat)]) := by
      have h := HA.out.set 1 (.int .i64 ((i5 : Int) + 1))
      rw [show ((i5 + 1 : Nat) : Int) = (i5 : Int) + 1 from by simp]
      exact h
     have HQ := hiD (hkp.arr HQ.out (by first | (have := HG2.out; have := HZ.out; omega)))
     have HR := hiD (HR.out.kp hkp (by first | (have := HG2.out; have := HZ.out; omega)))
     have HT := hiD (HT.out.kp hkp (by first | (have := HG2.out; have := HZ.out; omega)))
     have HX := hiD (hkp.arr HX.out (by first | (have := HG2.out; have := HZ.out; omega)))
     have HB := hiD (HB.out.trans (hkp.below (B := W.heap.size) (by omega) HB.out.size))
     clear hkp
     generalize w7.setCell ⟨W.heap.size, 1, none⟩ (.int .i64 ((i5 : Int) + 1)) = w8 at HA HB HQ HR HT HX ⊢
     have HNM := hiD (rname_any (c := c) (k := k5) (s := ⟨i5 + 1, s.o, s.l⟩) HO.out HT.out HS6.out ⟨HG5.out.2.1.1, fun a _ => HG5.out.2.1.2 a⟩)
     obtain ⟨p0, z0, p1, z1, p2, z2, p3, z3, p4, z4⟩ := HA.out.all5
     go_wp2_with fail
     refine HNM.out.mono ?_
     rintro r w9 ⟨i6, k6, x2, hg6, rfl, b9⟩
     have HQ := hiD (HQ.out.later b9)
     have HR := hiD (HR.out.later b9)
     have HT := hiD (HT.out.later b9)
     have HX := hiD (HX.out.later b9)
     have HA := hiD (HA.out.later b9)
     have HB := hiD (HB.out.trans (b9.mono HB.out.size))
     have HGA := hiD (allowed_go1 HG5.out HK5.out HT5.out hg6)
     clear hg6 b9 HNM
     clear p0 z0 p1 z1 p2 z2 p3 z3 p4 z4
     obtain ⟨p0, z0, p1, z1, p2, z2, p3, z3, p4, z4⟩ := HA.out.all5
     obtain ⟨xa0, ya0, xa1, ya1⟩ := HX.out.all2
     go_upto_region 10 with (fail)
     clear p0 z0 p1 z1 p2 z2 p3 z3 p4 z4
     clear xa0 ya0 xa1 ya1
     have hkp := kp_setP w9 (W.heap.size) (.slice (some ⟨tb, 0, none⟩) ts.length c) (.int .i64 (i6 : Nat)) (.int .i64 (k6 : Nat)) (.int .i64 (s.o : Nat)) (.int .i64 (s.l : Nat))
     have HA := hiD (HA.out.setP (.slice (some ⟨tb, 0, none⟩) ts.length c) (.int .i64 (i6 : Nat)) (.int .i64 (k6 : Nat)) (.int .i64 (s.o : Nat)) (.int .i64 (s.l : Nat)))
     have HQ := hiD (hkp.arr HQ.out (by first | (have := HG2.out; have := HZ.out; omega)))
     have HR := hiD (HR.out.kp hkp (by first | (have := HG2.out; have := HZ.out; omega)))
     have HT := hiD (HT.out.kp hkp (by first | (have := HG2.out; have := HZ.out; omega)))
     have HX := hiD (hkp.arr HX.out (by first | (have := HG2.out; have := HZ.out; omega)))
     have HB := hiD (HB.out.trans (hkp.below (B := W.heap.size) (by omega) HB.out.size))
     clear hkp
     generalize (((((w9.setCell ⟨W.heap.size, 0, none⟩ (.slice (some ⟨tb, 0, none⟩) ts.length c)).setCell ⟨W.heap.size, 1, none⟩ (.int .i64 (i6 : Nat))).setCell ⟨W.heap.size, 2, none⟩ (.int .i64 (k6 : Nat))).setCell ⟨W.heap.size, 3, none⟩ (.int .i64 (s.o : Nat))).setCell ⟨W.heap.size, 4, none⟩ (.int .i64 (s.l : Nat))) = w10 at HA HQ HR HT HX HB ⊢
     have hkp := (Kp.of (pb := g) (Below.refl w10.heap.size w10)).set 1 (.string (bstr x2))
     have HX : Hid (Arr (w10.setCell ⟨g, 1, none⟩ (.string (bstr x2))) 42 g [.string (bstr x1), .string (bstr x2)]) := HX.out.set 1 (.string (bstr x2))
     have HA := hiD (hkp.arr HA.out (by have := HG2.out; omega))
     have HQ := hiD (hkp.arr HQ.out (by have := HG2.out; omega))
     have HT := hiD (HT.out.kp hkp (by have := HZ.out; have := HG2.out; omega))
     have HR := hiD (HR.out.apart hkp HOB.out)
     have HB := hiD (HB.out.trans (hkp.below (B := W.heap.size) (by have := HG2.out; omega) HB.out.size))
     clear hkp
     generalize w10.setCell ⟨g, 1, none⟩ (.string (bstr x2)) = w13 at HX HA HQ HT HR HB ⊢
     obtain ⟨xa0, ya0, xa1, ya1⟩ := HX.out.all2
     have hb9 : Below w13.heap.size w13 (w13.alloc (.cells #[.string (bstr x1), .string (bstr x2)] 42)) := (Below.refl _ _).alloc (Nat.le_refl _) _
     have HQ := hiD (HQ.out.later hb9)
     have HR := hiD (HR.out.later hb9)
     have HT := hiD (HT.out.later hb9)
     have HX := hiD (HX.out.later hb9)
     have HA := hiD (HA.out.later hb9)
     have HB := hiD (HB.out.trans (hb9.mono HB.out.size))
     have HY : Hid (Arr (w13.alloc (.cells #[.string (bstr x1), .string (bstr x2)] 42)) 42 w13.heap.size [.string (bstr (x1, x2).1), .string (bstr (x1, x2).2)]) := Arr.new' _ _ _ _ rfl
     have HAC : Hid (acc.length + 1 ≤ 1000000) := by show _ ≤ _; omega
     have HBS : Hid (W.heap.size + 2 ≤ (w13.alloc (.cells #[.string (bstr x1), .string (bstr x2)] 42)).heap.size) := Nat.le_trans HG2.out (Nat.le_of_lt HX.out.lt)
     clear hb9
     go_wp2_with (at_builtin; refine app_al (e := (x1, x2)) rfl _ _ rfl rfl HR.out rfl HY.out HAC.out HBS.out ?_)
     intro v10 w10 r10 g10 o10
     have hlo : ∀ b, (Value.slice q acc.length cc).ownBlock = some b → W.heap.size + 2 ≤ b ∧ b < g := fun b hb => ⟨o10 b hb, HOB.out b hb⟩
     have HA : Hid (Arr w10 56 W.heap.size [.slice (some ⟨tb, 0, none⟩) ts.length c, .int .i64 (i6 : Nat), .int .i64 (k6 : Nat), .int .i64 (s.o : Nat), .int .i64 (s.l : Nat)]) := (g10.block _ HA.out.lt (fun e => by have := (hlo _ e.symm).1; omega)).trans HA.out
     have HQ : Hid (Arr w10 56 (W.heap.size + 1) [.slice none 0 0, .int .i64 0, .int .i64 0, .int .i64 0, .int .i64 0]) := (g10.block _ HQ.out.lt (fun e => by have := (hlo _ e.symm).1; omega)).trans HQ.out
     have HT : Hid (RT w10 tb ts) := by
      have hb := (Below.refl W.heap.size (w13.alloc (.cells #[.string (bstr x1), .string (bstr x2)] 42))).grown g10 (Nat.le_trans (Nat.le_add_right _ 2) HBS.out) (fun k hk => Nat.le_trans (Nat.le_add_right _ 2) (o10 k hk))
      exact ⟨Nat.lt_of_lt_of_le HT.out.1 hb.size, HT.out.2.1, fun i hi j hj => (hb.cell (p := ⟨tb, i * 3 + j, none⟩) HZ.out).trans (HT.out.2.2 i hi j hj)⟩
     have HB := hiD (HB.out.grown g10 (Nat.le_trans (Nat.le_add_right _ 2) HBS.out) (fun k hk => Nat.le_trans (Nat.le_add_right _ 2) (o10 k hk)))
     have HR := hiD r10
     obtain ⟨q10, c10, hv10⟩ := r10.form
     rw [List.length_append, List.length_singleton] at hv10
     subst hv10
     clear r10 g10 o10 hlo
     have HL2 := hiD HGA.out.2.1
     have HH2 := hiD HGA.out.1
     have HIS := hiD (ris_any (s := ⟨i6, s.o, s.l⟩) (c := c) (k := k6) HO.out.1 HT.out HH2.out ⟨#[124]⟩ [124] rfl (by decide))
     obtain ⟨d2, hd2⟩ : ∃ d, d = (decide (k6 = 0) && decide (txt ts i6 = [124])) := ⟨_, rfl⟩
     have HD2 := hiD hd2
     rw [show (decide (k6 = 0) && decide (txt ts (⟨i6, s.o, s.l⟩ : PS).i = [124])) = d2 from hd2.symm] at HIS
     clear hd2 xa0 xa1 ya0 ya1
     obtain ⟨p0, z0, p1, z1, p2, z2, p3, z3, p4, z4⟩ := HA.out.all5
     go_wp2_with fail
     refine HIS.out.mono ?_
     rintro r w11 ⟨rfl, b11⟩
     clear p0 z0 p1 z1 p2 z2 p3 z3 p4 z4
     have HQ := hiD (HQ.out.later b11)
     have HR := hiD (HR.out.later b11)
     have HT := hiD (HT.out.later b11)
     have HA := hiD (HA.out.later b11)
     have HB := hiD (HB.out.trans (b11.mono HB.out.size))
     clear b11 HIS
     cases d2 with
     | true =>
      have hd := HD2.out
      simp only [Bool.true_eq, Bool.and_eq_true, decide_eq_true_eq] at hd
      have HEN : Hid (typesR ts s = typesF ts n (acc ++ [(x1, x2)]) ⟨i6 + 1, s.o, s.l⟩) := HE.out.trans (types_next HGA.out (by omega) hd.1 hd.2)
      have HSN : Hid (i6 + 1 < ts.length) := HO.out.1.step (by rw [hd.2]; decide)
      have HKN := hiD hd.1
      clear hd
      have hzi0 : (0 : Int) ≤ i6 := by omega
      have hzi1 : (i6 : Int) ≤ 100000 := by have := HH2.out; have := HT.out.2.1; omega
      obtain ⟨p0, z0, p1, z1, p2, z2, p3, z3, p4, z4⟩ := HA.out.all5
      go_wp2_with fail
      clear p0 z0 p1 z1 p2 z2 p3 z3 p4 z4
      have hkp := (Kp.of (pb := W.heap.size) (Below.refl w11.heap.size w11)).set 1 (.int .i64 ((i6 : Int) + 1))
      have HA : Hid (Arr (w11.setCell ⟨W.heap.size, 1, none⟩ (.int .i64 ((i6 : Int) + 1))) 56 W.heap.size [.slice (some ⟨tb, 0, none⟩) ts.length c, .int .i64 (i6 + 1 : Nat), .int .i64 (k6 : Nat), .int .i64 (s.o : Nat), .int .i64 (s.l : Nat)]) := by
       have h := HA.out.set 1 (.int .i64 ((i6 : Int) + 1))
       rw [show ((i6 + 1 : Nat) : Int) = (i6 : Int) + 1 from by simp]
       exact h
      have HQ := hiD (hkp.arr HQ.out (by have := HZ.out; omega))
      have HR := hiD (HR.out.kp hkp (by have := HZ.out; omega))
      have HT := hiD (HT.out.kp hkp (by have := HZ.out; omega))
      have HB := hiD (HB.out.trans (hkp.below (B := W.heap.size) (by omega) HB.out.size))
      clear hkp
      generalize w11.setCell ⟨W.heap.size, 1, none⟩ (.int .i64 ((i6 : Int) + 1)) = w12 at HA HB HQ HR HT ⊢
      go_roundw
      case rel => exact ⟨n, acc ++ [(x1, x2)], i6 + 1, k6, by rw [List.length_append, List.length_singleton]; omega, by rw [List.length_append, List.length_singleton]; omega, q10, c10, by rw [List.length_append, List.length_singleton], by rw [List.length_append, List.length_singleton]; exact HR.out, HA.out, HQ.out, HT.out, HB.out, HSN.out, HL2.out, .inl ⟨HKN.out, HK0.out, HEN.out⟩⟩
      case measure => simp; omega
     | false =>
      have hd := HD2.out
      simp only [Bool.false_eq, Bool.and_eq_false_iff, decide_eq_false_iff_not] at hd
      have HGF : Hid (Go1 ts k6 i6 s.o s.l (acc ++ [(x1, x2)]) (st k s.i (typesR ts s))) := by
       show Go1 _ _ _ _ _ _ _
       rw [st_0 HK0.out, HE.out]
       exact types_go HGA.out (by omega) (fun h => hd.elim (fun h1 => h1 h.1) (fun h2 => h2 h.2))
      have HRD := hiD HR.out.rd
      clear hd
      obtain ⟨p0, z0, p1, z1, p2, z2, p3, z3, p4, z4⟩ := HA.out.all5
      obtain ⟨u0, v0, u1, v1, u2, v2, u3, v3, u4, v4⟩ := HQ.out.all5
      go_wp2_with fail
      have hA := HQ.out.setP (.slice (some ⟨tb, 0, none⟩) ts.length c) (.int .i64 (i6 : Nat)) (.int .i64 (k6 : Nat)) (.int .i64 (s.o : Nat)) (.int .i64 (s.l : Nat))
      have hkq := kp_setP w11 (W.heap.size + 1) (.slice (some ⟨tb, 0, none⟩) ts.length c) (.int .i64 (i6 : Nat)) (.int .i64 (k6 : Nat)) (.int .i64 (s.o : Nat)) (.int .i64 (s.l : Nat))
      have hB := HB.out.trans (hkq.below (B := W.heap.size) (by omega) HB.out.size)
      have c0 := hA.cell 0
      have c1 := hA.cell 1
      have c2 := hA.cell 2
      have c3 := hA.cell 3
      have c4 := hA.cell 4
      simp only [List.getElem?_cons_zero, List.getElem?_cons_succ] at c0 c1 c2 c3 c4
      refine bodyPost_ret (v := .tuple #[.agg #[.slice (some ⟨tb, 0, none⟩) ts.length c, .int .i64 (i6 : Nat), .int .i64 (k6 : Nat), .int .i64 (s.o : Nat), .int .i64 (s.l : Nat)], .slice q10 (acc.length + 1) c10]) ?_ rfl ⟨i6, k6, acc ++ [(x1, x2)], _, HGF.out, rfl, ((RdA.low HRD.out (Nat.le_refl _)).kp hkq (by omega)).low (by omega), hB⟩
      simp [results, Tryz.results33, go_sem, c0, c1, c2, c3, c4]
  ·have hk5 : ((k4 : Int) == 0) = false := by
    have : ¬ (k4 : Int) = 0 := by omega
    simpa using this
   have HGF : Hid (Go1 ts k4 i4 s.o s.l ([] : List AlB) (st k s.i (typesR ts s))) := ⟨HS4.out, HL4.out, .inr ⟨hk4, hr⟩⟩
   clear hk4 hr
   obtain ⟨w3, hw3⟩ : ∃ w, w = wr := ⟨_, rfl⟩
   subst hw3
   obtain ⟨p0, z0, p1, z1, p2, z2, p3, z3, p4, z4⟩ := HA.out.all5
   obtain ⟨u0, v0, u1, v1, u2, v2, u3, v3, u4, v4⟩ := HQ.out.all5
   go_wp2_with fail
   have hA := HQ.out.setP (.slice (some ⟨tb, 0, none⟩) ts.length c) (.int .i64 (i4 : Nat)) (.int .i64 (k4 : Nat)) (.int .i64 (s.o : Nat)) (.int .i64 (s.l : Nat))
   have hkq := kp_setP w3 (W.heap.size + 1) (.slice (some ⟨tb, 0, none⟩) ts.length c) (.int .i64 (i4 : Nat)) (.int .i64 (k4 : Nat)) (.int .i64 (s.o : Nat)) (.int .i64 (s.l : Nat))
   have hB := HB.out.trans (hkq.below (B := W.heap.size) (by omega) HB.out.size)
   have c0 := hA.cell 0
   have c1 := hA.cell 1
   have c2 := hA.cell 2
   have c3 := hA.cell 3
   have c4 := hA.cell 4
   simp only [List.getElem?_cons_zero, List.getElem?_cons_succ] at c0 c1 c2 c3 c4
   refine bodyPost_ret (v := .tuple #[.agg #[.slice (some ⟨tb, 0, none⟩) ts.length c, .int .i64 (i4 : Nat), .int .i64 (k4 : Nat), .int .i64 (s.o : Nat), .int .i64 (s.l : Nat)], .slice none 0 0]) ?_ rfl ⟨i4, k4, [], _, HGF.out, rfl, RdA.nil _ _, hB⟩
   simp [results, Tryz.results33, go_sem, c0, c1, c2, c3, c4]
end
def finK (ts : List Tok) (k i : Nat) : Nat := if k = 0 then (if (ts.getD i tok0).1 = 3 then 0 else 6) else k
def finO (ts : List Tok) (k i : Nat) : Int := if finK ts k i = 0 then 0 else offs ts i
theorem cell_kp {w w' : World} {g b : Nat} (hk : Kp g w w') (hb : b < w.heap.size) (hne : b ≠ g) (n : Nat) : w'.cell? ⟨b, n, none⟩ = w.cell? ⟨b, n, none⟩ := World.cell?_of_block (hk.2.2.2.2 b hb hne)
theorem fin_a {ts : List Tok} {k i : Nat} (hk : k = 0) (h3 : (ts.getD i tok0).1 = 3) : finK ts k i = 0 ∧ finO ts k i = 0 := by
 have h1 : finK ts k i = 0 := by unfold finK; rw [if_pos hk, if_pos h3]
 exact ⟨h1, by unfold finO; rw [if_pos h1]⟩
theorem fin_b {ts : List Tok} {k i : Nat} (hk : k = 0) (h3 : ¬ (ts.getD i tok0).1 = 3) : finK ts k i = 6 ∧ finO ts k i = offs ts i := by
 have h1 : finK ts k i = 6 := by unfold finK; rw [if_pos hk, if_neg h3]
 exact ⟨h1, by unfold finO; rw [if_neg (by rw [h1]; decide)]⟩
theorem fin_c {ts : List Tok} {k i : Nat} (hk : ¬ k = 0) : finK ts k i = k ∧ finO ts k i = offs ts i := by
 have h1 : finK ts k i = k := by unfold finK; rw [if_neg hk]
 exact ⟨h1, by unfold finO; rw [if_neg (by rw [h1]; exact hk)]⟩
theorem fin_read {α : Type} {rule : List Tok → PS → PR α} {l : List UInt8} (h0 : (tokS l).2.1 = 0) {k i o m : Nat} {x : α} (h : Go1 (tokS l).1 k i o m x (rule (tokS l).1 ps0)) : readF rule l = if finK (tokS l).1 k i = 0 then .ok x else .bad (finK (tokS l).1 k i) (offT (tokS l).1 i) := by
 obtain ⟨h1, h2, ⟨h3, h4⟩ | ⟨h3, h4⟩⟩ := h
 ·unfold finK
  rw [if_pos h3]
  by_cases he : ((tokS l).1.getD i tok0).1 = 3
  ·rw [if_pos he, if_pos rfl]
   exact readF_ok h0 h4 he
  ·rw [if_neg he, if_neg (by decide)]
   exact readF_more h0 h4 he
 ·unfold finK
  rw [if_neg h3, if_neg h3]
  exact readF_bad h0 h4
theorem consT_texts {t : Tok} {r : Toks} {n : Nat} (ht : t.2.1.length ≤ n) (hr : ∀ u ∈ r.1, u.2.1.length ≤ n) : ∀ u ∈ (consT t r).1, u.2.1.length ≤ n := fun u hu => by
 rcases consT_mem hu with rfl | h
 ·exact ht
 ·exact hr u h
theorem tokF_texts : ∀ (n i : Nat) (l : List UInt8) (M : Nat), l.length ≤ M → 2 ≤ M → ∀ t ∈ (tokF n i l).1, t.2.1.length ≤ M
 | 0, i, l, M, _, _ => fun t h => by simp [tokF] at h
 | n + 1, i, [], M, _, _ => fun t h => by simp [tokF] at h; subst h; show ([] : List UInt8).length ≤ M; simp
 | n + 1, i, c :: r, M, hM, h2 => by
  simp only [List.length_cons] at hM
  unfold tokF
  split
  ·split
   ·refine consT_texts ?_ (tokF_texts n _ _ M (by rw [List.length_drop, List.length_cons]; omega) h2)
    exact Nat.le_trans (List.takeWhile_sublist _).length_le (by simpa using hM)
   ·intro t h; cases h
  ·split
   ·exact tokF_texts n _ _ M (by omega) h2
   ·split
    ·exact tokF_texts n _ _ M (by rw [List.length_drop, List.length_cons]; omega) h2
    ·split
     ·exact consT_texts h2 (tokF_texts n _ _ M (by rw [List.length_drop]; omega) h2)
     ·split
      ·exact consT_texts (show 1 ≤ M by omega) (tokF_texts n _ _ M (by omega) h2)
      ·intro t h; cases h
theorem tokS_okB {l : List UInt8} (h0 : (tokS l).2.1 = 0) (hl : l.length ≤ 65536) : OkB (tokS l).1 := by
 refine ⟨tokF_ok _ _ _ (Nat.lt_succ_self _) h0, fun i => ?_⟩
 unfold txt
 rw [List.getD_eq_getElem?_getD]
 cases h : (tokS l).1[i]? with
 | none => exact Nat.zero_le _
 | some t => exact tokF_texts _ 0 l 100000 (by omega) (by decide) t (List.mem_of_getElem? h)
section
variable {W : World} {tb c k : Nat} {ts : List Tok} {s : PS}
set_option maxRecDepth 100000 in
set_option maxHeartbeats 4000000 in
theorem rfin_any (h : RT W tb ts) (hi : s.i < ts.length) : Calls Tryz.prog 17 #[.agg #[.slice (some ⟨tb, 0, none⟩) ts.length c, .int .i64 (s.i : Nat), .int .i64 (k : Nat), .int .i64 (s.o : Nat), .int .i64 (s.l : Nat)]] W fun e w' => e = .returned (.tuple #[.int .i64 (finK ts k s.i : Nat), .int .i64 (finO ts k s.i)]) ∧ Below W.heap.size W w' := by
 have hb1 : Below W.heap.size W (W.alloc (.cells #[.slice (some ⟨tb, 0, none⟩) ts.length c, .int .i64 (s.i : Nat), .int .i64 (k : Nat), .int .i64 (s.o : Nat), .int .i64 (s.l : Nat)] 56)) := (Below.refl _ _).alloc (Nat.le_refl _) _
 have HB := hiD hb1
 have HA : Hid (Arr (W.alloc (.cells #[.slice (some ⟨tb, 0, none⟩) ts.length c, .int .i64 (s.i : Nat), .int .i64 (k : Nat), .int .i64 (s.o : Nat), .int .i64 (s.l : Nat)] 56)) 56 W.heap.size [.slice (some ⟨tb, 0, none⟩) ts.length c, .int .i64 (s.i : Nat), .int .i64 (k : Nat), .int .i64 (s.o : Nat), .int .i64 (s.l : Nat)]) := Arr.new' _ _ _ _ rfl
 have HZ : Hid (tb < W.heap.size) := h.1
 have hT := h.later hb1
 have hz0 : (0 : Int) ≤ s.i := by omega
 have hz2 : (s.i : Int) < ts.length := by omega
 have t0 : (W.alloc (.cells #[.slice (some ⟨tb, 0, none⟩) ts.length c, .int .i64 (s.i : Nat), .int .i64 (k : Nat), .int .i64 (s.o : Nat), .int .i64 (s.l : Nat)] 56)).cell? ⟨tb, s.i * 3, none⟩ = some (.int .i64 (ts.getD s.i tok0).1) := hT.2.2 s.i hi 0 (by decide)
 have t2 : (W.alloc (.cells #[.slice (some ⟨tb, 0, none⟩) ts.length c, .int .i64 (s.i : Nat), .int .i64 (k : Nat), .int .i64 (s.o : Nat), .int .i64 (s.l : Nat)] 56)).cell? ⟨tb, s.i * 3 + 2, none⟩ = some (.int .i64 (offs ts s.i)) := hT.2.2 s.i hi 2 (by decide)
 obtain ⟨kd, hkd⟩ : ∃ x, x = (ts.getD s.i tok0).1 := ⟨_, rfl⟩
 obtain ⟨of, hof⟩ : ∃ x, x = offs ts s.i := ⟨_, rfl⟩
 rw [← hkd] at t0
 rw [← hof] at t2
 have HT := hiD t2
 have HKD := hiD hkd
 have HOF := hiD hof
 clear h hi hb1 hT hkd hof
 by_cases hk : k = 0
 ·have hk5 : ((k : Int) == 0) = true := by simp [hk]
  by_cases h3 : kd = 3
  ·have h3' : (kd != 3) = false := by rw [h3]; rfl
   have HK := hiD (fin_a (ts := ts) (i := s.i) hk (HKD.out.symm.trans h3))
   clear h3 hk t2
   go_enter Tryz.func17, Tryz.ntmps17
   obtain ⟨x0, y0, x1, y1, x2, y2, x3, y3, x4, y4⟩ := HA.out.all5
   go_wp2_with fail
   refine bodyPost_ret (results_tmp2 rfl _ _ _) rfl ⟨?_, HB.out⟩
   rw [HK.out.1, HK.out.2]
   rfl
  ·have h3' : (kd != 3) = true := bne_iff_ne.2 h3
   have HK : Hid (finK ts k s.i = 6 ∧ finO ts k s.i = of) := by
    have h := fin_b (ts := ts) (i := s.i) hk (fun h => h3 (HKD.out.trans h))
    exact ⟨h.1, h.2.trans HOF.out.symm⟩
   have HK0 := hiD hk
   have HBD := hiD (rbad_any (c := c) (k := k) (tb := tb) (ts := ts) (s := s) (W := (W.alloc (.cells #[.slice (some ⟨tb, 0, none⟩) ts.length c, .int .i64 (s.i : Nat), .int .i64 (k : Nat), .int .i64 (s.o : Nat), .int .i64 (s.l : Nat)] 56))) 6)
   clear h3 hk t2
   go_enter Tryz.func17, Tryz.ntmps17
   obtain ⟨x0, y0, x1, y1, x2, y2, x3, y3, x4, y4⟩ := HA.out.all5
   go_wp2_with fail
   clear x0 y0 x1 y1 x2 y2 x3 y3 x4 y4
   clear t0
   refine HBD.out.mono ?_
   rintro r w3 ⟨k', hk', rfl, b3⟩
   have HK6 : Hid (k' = 6) := hk'.trans (if_pos HK0.out)
   have hk6 : ((k' : Int) == 0) = false := by rw [HK6.out]; rfl
   have HA := hiD (HA.out.later b3)
   have HT : Hid (w3.cell? ⟨tb, s.i * 3 + 2, none⟩ = some (.int .i64 of)) := (b3.cell (p := ⟨tb, s.i * 3 + 2, none⟩) (Nat.lt_of_lt_of_le HZ.out HB.out.size)).trans HT.out
   have HB := hiD (HB.out.trans (b3.mono HB.out.size))
   clear b3 hk' HBD
   obtain ⟨x0, y0, x1, y1, x2, y2, x3, y3, x4, y4⟩ := HA.out.all5
   go_upto_region 3 with (fail)
   clear x0 y0 x1 y1 x2 y2 x3 y3 x4 y4
   have hkp := kp_setP w3 W.heap.size (.slice (some ⟨tb, 0, none⟩) ts.length c) (.int .i64 (s.i : Nat)) (.int .i64 (k' : Nat)) (.int .i64 (s.o : Nat)) (.int .i64 (s.l : Nat))
   have HT : Hid ((((((w3.setCell ⟨W.heap.size, 0, none⟩ (.slice (some ⟨tb, 0, none⟩) ts.length c)).setCell ⟨W.heap.size, 1, none⟩ (.int .i64 (s.i : Nat))).setCell ⟨W.heap.size, 2, none⟩ (.int .i64 (k' : Nat))).setCell ⟨W.heap.size, 3, none⟩ (.int .i64 (s.o : Nat))).setCell ⟨W.heap.size, 4, none⟩ (.int .i64 (s.l : Nat))).cell? ⟨tb, s.i * 3 + 2, none⟩ = some (.int .i64 of)) := (cell_kp hkp (Nat.lt_of_lt_of_le HZ.out HB.out.size) (by have := HZ.out; omega) _).trans HT.out
   have HA : Hid (Arr (((((w3.setCell ⟨W.heap.size, 0, none⟩ (.slice (some ⟨tb, 0, none⟩) ts.length c)).setCell ⟨W.heap.size, 1, none⟩ (.int .i64 (s.i : Nat))).setCell ⟨W.heap.size, 2, none⟩ (.int .i64 (k' : Nat))).setCell ⟨W.heap.size, 3, none⟩ (.int .i64 (s.o : Nat))).setCell ⟨W.heap.size, 4, none⟩ (.int .i64 (s.l : Nat))) 56 W.heap.size [.slice (some ⟨tb, 0, none⟩) ts.length c, .int .i64 (s.i : Nat), .int .i64 (k' : Nat), .int .i64 (s.o : Nat), .int .i64 (s.l : Nat)]) := HA.out.setP _ _ _ _ _
   have HB := hiD (HB.out.trans (hkp.below (B := W.heap.size) (Nat.le_refl _) HB.out.size))
   clear hkp
   generalize (((((w3.setCell ⟨W.heap.size, 0, none⟩ (.slice (some ⟨tb, 0, none⟩) ts.length c)).setCell ⟨W.heap.size, 1, none⟩ (.int .i64 (s.i : Nat))).setCell ⟨W.heap.size, 2, none⟩ (.int .i64 (k' : Nat))).setCell ⟨W.heap.size, 3, none⟩ (.int .i64 (s.o : Nat))).setCell ⟨W.heap.size, 4, none⟩ (.int .i64 (s.l : Nat))) = w4 at HT HA HB ⊢
   obtain ⟨x0, y0, x1, y1, x2, y2, x3, y3, x4, y4⟩ := HA.out.all5
   go_upto_region 5 with (fail)
   clear x0 y0 x1 y1 x2 y2 x3 y3 x4 y4
   have hb7 : Below w4.heap.size w4 w4.drew := (Below.refl _ _).drew
   have HB := hiD (HB.out.trans (hb7.mono HB.out.size))
   refine wp_region_held_drew (S := fun W' => Arr W' 56 W.heap.size [.slice (some ⟨tb, 0, none⟩) ts.length c, .int .i64 (s.i : Nat), .int .i64 (k' : Nat), .int .i64 (s.o : Nat), .int .i64 (s.l : Nat)] ∧ W'.cell? ⟨tb, s.i * 3 + 2, none⟩ = some (.int .i64 of)) (by kernel_rfl) ⟨HA.out.later hb7, HT.out⟩ (fun hHeld => ?_)
   try simp only [Act.put]
   generalize w4.drew = w9 at hHeld HB ⊢
   clear hb7
   refine wpAnyH_take (i := 0) (oi := ⟨some 22, _, _, _, _, _⟩) (v := .pointer (some ⟨W.heap.size, 2, none⟩)) rfl (by kernel_rfl) (by kernel_rfl) (by kernel_rfl) (fun _ _ _ h => h) (.inl ⟨by rfl, fun w' hSw => ?_⟩) hHeld ?_
   focus (skip; clear hHeld; go_simp)
   try simp only [Act.put, pz0, pz1, pz2]
   refine wpAnyH_take (i := 1) (oi := ⟨some 23, _, _, _, _, _⟩) (v := .int .i64 (k' : Nat)) rfl (by kernel_rfl) (by kernel_rfl) (by kernel_rfl) (fun _ _ _ h => h) (.inl ⟨by rfl, fun w' hSw => ?_⟩) hHeld ?_
   focus (obtain ⟨q0, _, q1, _, q2, _, q3, _, q4, _⟩ := hSw.1.all5; clear hHeld; go_simp)
   try simp only [Act.put, pz0, pz1, pz2]
   refine wpAnyH_take (i := 2) (oi := ⟨some 24, _, _, _, _, _⟩) (v := .pointer (some ⟨W.heap.size, 0, none⟩)) rfl (by kernel_rfl) (by kernel_rfl) (by kernel_rfl) (fun _ _ _ h => h) (.inl ⟨by rfl, fun w' hSw => ?_⟩) hHeld ?_
   focus (skip; clear hHeld; go_simp)
   try simp only [Act.put, pz0, pz1, pz2]
   refine wpAnyH_take (i := 3) (oi := ⟨some 25, _, _, _, _, _⟩) (v := .slice (some ⟨tb, 0, none⟩) ts.length c) rfl (by kernel_rfl) (by kernel_rfl) (by kernel_rfl) (fun _ _ _ h => h) (.inl ⟨by rfl, fun w' hSw => ?_⟩) hHeld ?_
   focus (obtain ⟨q0, _, q1, _, q2, _, q3, _, q4, _⟩ := hSw.1.all5; clear hHeld; go_simp)
   try simp only [Act.put, pz0, pz1, pz2]
   refine wpAnyH_take (i := 4) (oi := ⟨some 26, _, _, _, _, _⟩) (v := .pointer (some ⟨W.heap.size, 1, none⟩)) rfl (by kernel_rfl) (by kernel_rfl) (by kernel_rfl) (fun _ _ _ h => h) (.inl ⟨by rfl, fun w' hSw => ?_⟩) hHeld ?_
   focus (skip; clear hHeld; go_simp)
   try simp only [Act.put, pz0, pz1, pz2]
   refine wpAnyH_take (i := 5) (oi := ⟨some 27, _, _, _, _, _⟩) (v := .int .i64 (s.i : Nat)) rfl (by kernel_rfl) (by kernel_rfl) (by kernel_rfl) (fun _ _ _ h => h) (.inl ⟨by rfl, fun w' hSw => ?_⟩) hHeld ?_
   focus (obtain ⟨q0, _, q1, _, q2, _, q3, _, q4, _⟩ := hSw.1.all5; clear hHeld; go_simp)
   try simp only [Act.put, pz0, pz1, pz2]
   refine wpAnyH_take (i := 6) (oi := ⟨some 28, _, _, _, _, _⟩) (v := .pointer (some ⟨tb, s.i * 3, none⟩)) rfl (by kernel_rfl) (by kernel_rfl) (by kernel_rfl) (fun _ _ _ h => h) (.inl ⟨by rfl, fun w' hSw => ?_⟩) hHeld ?_
   focus (skip; clear hHeld; go_simp)
   try simp only [Act.put, pz0, pz1, pz2]
   refine wpAnyH_take (i := 7) (oi := ⟨some 29, _, _, _, _, _⟩) (v := .pointer (some ⟨tb, s.i * 3 + 2, none⟩)) rfl (by kernel_rfl) (by kernel_rfl) (by kernel_rfl) (fun _ _ _ h => h) (.inl ⟨by rfl, fun w' hSw => ?_⟩) hHeld ?_
   focus (skip; clear hHeld; go_simp)
   try simp only [Act.put, pz0, pz1, pz2]
   refine wpAnyH_take (i := 8) (oi := ⟨some 30, _, _, _, _, _⟩) (v := .int .i64 of) rfl (by kernel_rfl) (by kernel_rfl) (by kernel_rfl) (fun _ _ _ h => h) (.inl ⟨by rfl, fun w' hSw => ?_⟩) hHeld ?_
   focus (have q := hSw.2; clear hHeld; go_simp)
   try simp only [Act.put, pz0, pz1, pz2]
   refine wpAnyH_take (i := 9) (oi := ⟨some 2, _, _, _, _, _⟩) (v := .int .i64 (k' : Nat)) rfl (by kernel_rfl) (by kernel_rfl) (by kernel_rfl) (fun _ _ _ h => h) (.inl ⟨by rfl, fun w' hSw => ?_⟩) hHeld ?_
   focus (skip; clear hHeld; go_simp)
   try simp only [Act.put, pz0, pz1, pz2]
   refine wpAnyH_take (i := 10) (oi := ⟨some 3, _, _, _, _, _⟩) (v := .int .i64 of) rfl (by kernel_rfl) (by kernel_rfl) (by kernel_rfl) (fun _ _ _ h => h) (.inl ⟨by rfl, fun w' hSw => ?_⟩) hHeld ?_
   focus (skip; clear hHeld; go_simp)
   try simp only [Act.put, pz0, pz1, pz2]
   refine wpAnyH_done (by kernel_rfl) ?_ _
   go_wp2_with fail
   refine bodyPost_ret (results_tmp2 rfl _ _ _) rfl ⟨?_, HB.out⟩
   rw [HK.out.1, HK.out.2, ← HK6.out]
   rfl
 ·have hk5 : ((k : Int) == 0) = false := by
   have : ¬ (k : Int) = 0 := by omega
   simpa using this
  have HK : Hid (finK ts k s.i = k ∧ finO ts k s.i = of) := by
   have h := fin_c (ts := ts) (i := s.i) hk
   exact ⟨h.1, h.2.trans HOF.out.symm⟩
  clear hk t0 t2
  go_enter Tryz.func17, Tryz.ntmps17
  obtain ⟨x0, y0, x1, y1, x2, y2, x3, y3, x4, y4⟩ := HA.out.all5
  go_upto_region 5 with (fail)
  clear x0 y0 x1 y1 x2 y2 x3 y3 x4 y4
  generalize (W.alloc (.cells #[.slice (some ⟨tb, 0, none⟩) ts.length c, .int .i64 (s.i : Nat), .int .i64 (k : Nat), .int .i64 (s.o : Nat), .int .i64 (s.l : Nat)] 56)) = w4 at HT HA HB ⊢
  have hb7 : Below w4.heap.size w4 w4.drew := (Below.refl _ _).drew
  have HB := hiD (HB.out.trans (hb7.mono HB.out.size))
  refine wp_region_held_drew (S := fun W' => Arr W' 56 W.heap.size [.slice (some ⟨tb, 0, none⟩) ts.length c, .int .i64 (s.i : Nat), .int .i64 (k : Nat), .int .i64 (s.o : Nat), .int .i64 (s.l : Nat)] ∧ W'.cell? ⟨tb, s.i * 3 + 2, none⟩ = some (.int .i64 of)) (by kernel_rfl) ⟨HA.out.later hb7, HT.out⟩ (fun hHeld => ?_)
  try simp only [Act.put]
  generalize w4.drew = w9 at hHeld HB ⊢
  clear hb7
  refine wpAnyH_take (i := 0) (oi := ⟨some 22, _, _, _, _, _⟩) (v := .pointer (some ⟨W.heap.size, 2, none⟩)) rfl (by kernel_rfl) (by kernel_rfl) (by kernel_rfl) (fun _ _ _ h => h) (.inl ⟨by rfl, fun w' hSw => ?_⟩) hHeld ?_
  focus (skip; clear hHeld; go_simp)
  try simp only [Act.put, pz0, pz1, pz2]
  refine wpAnyH_take (i := 1) (oi := ⟨some 23, _, _, _, _, _⟩) (v := .int .i64 (k : Nat)) rfl (by kernel_rfl) (by kernel_rfl) (by kernel_rfl) (fun _ _ _ h => h) (.inl ⟨by rfl, fun w' hSw => ?_⟩) hHeld ?_
  focus (obtain ⟨q0, _, q1, _, q2, _, q3, _, q4, _⟩ := hSw.1.all5; clear hHeld; go_simp)
  try simp only [Act.put, pz0, pz1, pz2]
  refine wpAnyH_take (i := 2) (oi := ⟨some 24, _, _, _, _, _⟩) (v := .pointer (some ⟨W.heap.size, 0, none⟩)) rfl (by kernel_rfl) (by kernel_rfl) (by kernel_rfl) (fun _ _ _ h => h) (.inl ⟨by rfl, fun w' hSw => ?_⟩) hHeld ?_
  focus (skip; clear hHeld; go_simp)
  try simp only [Act.put, pz0, pz1, pz2]
  refine wpAnyH_take (i := 3) (oi := ⟨some 25, _, _, _, _, _⟩) (v := .slice (some ⟨tb, 0, none⟩) ts.length c) rfl (by kernel_rfl) (by kernel_rfl) (by kernel_rfl) (fun _ _ _ h => h) (.inl ⟨by rfl, fun w' hSw => ?_⟩) hHeld ?_
  focus (obtain ⟨q0, _, q1, _, q2, _, q3, _, q4, _⟩ := hSw.1.all5; clear hHeld; go_simp)
  try simp only [Act.put, pz0, pz1, pz2]
  refine wpAnyH_take (i := 4) (oi := ⟨some 26, _, _, _, _, _⟩) (v := .pointer (some ⟨W.heap.size, 1, none⟩)) rfl (by kernel_rfl) (by kernel_rfl) (by kernel_rfl) (fun _ _ _ h => h) (.inl ⟨by rfl, fun w' hSw => ?_⟩) hHeld ?_
  focus (skip; clear hHeld; go_simp)
  try simp only [Act.put, pz0, pz1, pz2]
  refine wpAnyH_take (i := 5) (oi := ⟨some 27, _, _, _, _, _⟩) (v := .int .i64 (s.i : Nat)) rfl (by kernel_rfl) (by kernel_rfl) (by kernel_rfl) (fun _ _ _ h => h) (.inl ⟨by rfl, fun w' hSw => ?_⟩) hHeld ?_
  focus (obtain ⟨q0, _, q1, _, q2, _, q3, _, q4, _⟩ := hSw.1.all5; clear hHeld; go_simp)
  try simp only [Act.put, pz0, pz1, pz2]
  refine wpAnyH_take (i := 6) (oi := ⟨some 28, _, _, _, _, _⟩) (v := .pointer (some ⟨tb, s.i * 3, none⟩)) rfl (by kernel_rfl) (by kernel_rfl) (by kernel_rfl) (fun _ _ _ h => h) (.inl ⟨by rfl, fun w' hSw => ?_⟩) hHeld ?_
  focus (skip; clear hHeld; go_simp)
  try simp only [Act.put, pz0, pz1, pz2]
  refine wpAnyH_take (i := 7) (oi := ⟨some 29, _, _, _, _, _⟩) (v := .pointer (some ⟨tb, s.i * 3 + 2, none⟩)) rfl (by kernel_rfl) (by kernel_rfl) (by kernel_rfl) (fun _ _ _ h => h) (.inl ⟨by rfl, fun w' hSw => ?_⟩) hHeld ?_
  focus (skip; clear hHeld; go_simp)
  try simp only [Act.put, pz0, pz1, pz2]
  refine wpAnyH_take (i := 8) (oi := ⟨some 30, _, _, _, _, _⟩) (v := .int .i64 of) rfl (by kernel_rfl) (by kernel_rfl) (by kernel_rfl) (fun _ _ _ h => h) (.inl ⟨by rfl, fun w' hSw => ?_⟩) hHeld ?_
  focus (have q := hSw.2; clear hHeld; go_simp)
  try simp only [Act.put, pz0, pz1, pz2]
  refine wpAnyH_take (i := 9) (oi := ⟨some 2, _, _, _, _, _⟩) (v := .int .i64 (k : Nat)) rfl (by kernel_rfl) (by kernel_rfl) (by kernel_rfl) (fun _ _ _ h => h) (.inl ⟨by rfl, fun w' hSw => ?_⟩) hHeld ?_
  focus (skip; clear hHeld; go_simp)
  try simp only [Act.put, pz0, pz1, pz2]
  refine wpAnyH_take (i := 10) (oi := ⟨some 3, _, _, _, _, _⟩) (v := .int .i64 of) rfl (by kernel_rfl) (by kernel_rfl) (by kernel_rfl) (fun _ _ _ h => h) (.inl ⟨by rfl, fun w' hSw => ?_⟩) hHeld ?_
  focus (skip; clear hHeld; go_simp)
  try simp only [Act.put, pz0, pz1, pz2]
  refine wpAnyH_done (by kernel_rfl) ?_ _
  go_wp2_with fail
  refine bodyPost_ret (results_tmp2 rfl _ _ _) rfl ⟨?_, HB.out⟩
  rw [HK.out.1, HK.out.2]
  rfl
end
end Go.Proofs.YtkildckeikedhaaGreatDoor
