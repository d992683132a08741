/-
  The reference's unit.
-/
import Derived.Test.YtkildckeikedhaaGreatDoorMr10
import Derived.Test.YtkildckeikedhaaGreatDoorMr4
import Derived.Test.YtkildckeikedhaaGreatDoorMr8
namespace Go.Proofs.YtkildckeikedhaaGreatDoor
open Go.ChangeShapes Go.WideShapes Go.ChangeAt Go.RowKit
set_option linter.unusedVariables false

def GE (tb c : Nat) (ts : List Tok) (o : Nat) (r : PR Ex) (W : World) (e : Ending) (w' : World) : Prop := ∃ i' k' l' x v, Go1 ts k' i' o l' x r ∧ e = .returned (.tuple #[.agg #[.slice (some ⟨tb, 0, none⟩) ts.length c, .int .i64 (i' : Nat), .int .i64 (k' : Nat), .int .i64 (o : Nat), .int .i64 (l' : Nat)], v]) ∧ VE W.heap.size x w' v ∧ Below W.heap.size W w'
theorem unit_leaf0 {ts : List Tok} {U : Option (PS → PR Ex)} {k i : Nat} {s : PS} {x : List UInt8} (hp : ¬ txt ts s.i = [40]) (hl : isName (bstr (txt ts s.i)) = true → s.l < 32) (h : Go1 ts k i s.o (s.l + 1) x (nameF ts ⟨s.i, s.o, s.l + 1⟩)) (ha : ¬ (k = 0 ∧ txt ts i = [45, 62])) : Go1 ts k i s.o (s.l + 1) (.mk 1 [] x []) (unitW ts U s) := by
 obtain ⟨h1, h2, h3⟩ := h
 refine ⟨h1, h2, ?_⟩
 rcases h3 with ⟨h3, h4⟩ | ⟨h3, h4⟩
 ·obtain ⟨hn, he⟩ := name_some h4
  have hx : x = txt ts s.i := by unfold nameF at h4; split at h4; cases h4; rfl; cases h4
  have hn' : isName (bstr (txt ts s.i)) = true := hx ▸ hn
  have hi : i = s.i + 1 := congrArg PS.i he
  refine .inl ⟨h3, ?_⟩
  rw [unitW_leaf hp hn' (hl hn'), if_neg (fun h => ha ⟨h3, by rw [hi]; exact h⟩), hi, hx]
 ·refine .inr ⟨h3, ?_⟩
  unfold nameF at h4
  split at h4
  ·cases h4
  ·rename_i hn
   cases h4
   exact unitW_no hp (by simpa using hn)
theorem unit_leaf1 {ts : List Tok} {U : Option (PS → PR Ex)} {k i k2 i2 : Nat} {s : PS} {x y : List UInt8} (hp : ¬ txt ts s.i = [40]) (hl : isName (bstr (txt ts s.i)) = true → s.l < 32) (h : Go1 ts k i s.o (s.l + 1) x (nameF ts ⟨s.i, s.o, s.l + 1⟩)) (hk : k = 0) (ht : txt ts i = [45, 62]) (h2 : Go1 ts k2 i2 s.o (s.l + 1) y (st k (i + 1) (nameF ts ⟨i + 1, s.o, s.l + 1⟩))) : Go1 ts k2 i2 s.o (s.l + 1) (.mk 2 x y []) (unitW ts U s) := by
 rw [st_0 hk] at h2
 obtain ⟨g1, g2, g3⟩ := h2
 obtain ⟨_, _, ⟨_, h4⟩ | ⟨h4, _⟩⟩ := h
 ·obtain ⟨hn, he⟩ := name_some h4
  have hx : x = txt ts s.i := by unfold nameF at h4; split at h4; cases h4; rfl; cases h4
  have hn' : isName (bstr (txt ts s.i)) = true := hx ▸ hn
  have hi : i = s.i + 1 := congrArg PS.i he
  subst hi
  refine ⟨g1, g2, ?_⟩
  rw [unitW_leaf hp hn' (hl hn'), if_pos ht]
  rcases g3 with ⟨g3, g4⟩ | ⟨g3, g4⟩
  ·exact .inl ⟨g3, by rw [show nameF ts ⟨s.i + 2, s.o, s.l + 1⟩ = _ from g4, PR.then_ok, hx]⟩
  ·exact .inr ⟨g3, by rw [show nameF ts ⟨s.i + 2, s.o, s.l + 1⟩ = _ from g4]; rfl⟩
 ·exact absurd hk h4
theorem unit_paren {ts : List Tok} {U : PS → PR Ex} {k i k2 i2 l : Nat} {s : PS} {x : Ex} (hp : txt ts s.i = [40]) (h : Go1 ts k i (s.o + 1) l x (U ⟨s.i + 1, s.o + 1, s.l⟩)) (h2 : Go1 ts k2 i2 (s.o + 1) l () (st k i (wantF ts [41] ⟨i, s.o + 1, l⟩))) : Go1 ts k2 i2 s.o l x (unitW ts (some U) s) := by
 obtain ⟨g1, g2, g3⟩ := h2
 refine ⟨g1, g2, ?_⟩
 have e : unitW ts (some U) s = (U ⟨s.i + 1, s.o + 1, s.l⟩).then fun e s1 => (wantF ts [41] s1).then fun _ s2 => .ok e { s2 with o := s2.o - 1 } := if_pos hp
 rw [e, h.then]
 rcases g3 with ⟨g3, g4⟩ | ⟨g3, g4⟩
 ·refine .inl ⟨g3, ?_⟩
  by_cases hk : k = 0
  ·rw [st_0 hk] at g4 ⊢
   rw [g4, PR.then_ok]
   rfl
  ·rw [st_n hk] at g4; cases g4
 ·refine .inr ⟨g3, ?_⟩
  by_cases hk : k = 0
  ·rw [st_0 hk] at g4 ⊢
   rw [g4]; rfl
  ·rw [st_n hk] at g4 ⊢
   cases g4
   rfl
theorem go1_stuck {α β : Type} {ts : List Tok} {k i o l k0 i0 : Nat} {x : α} {y : β} (h : Go1 ts k i o l x (.bad k0 i0 : PR α)) : Go1 ts k i o l y (.bad k0 i0 : PR β) := by
 obtain ⟨h1, h2, ⟨_, h3⟩ | ⟨h3, h4⟩⟩ := h
 ·cases h3
 ·exact ⟨h1, h2, .inr ⟨h3, by cases h4; rfl⟩⟩
section
variable {W : World} {tb c k : Nat} {ts : List Tok} {s : PS}
set_option maxRecDepth 100000 in
set_option maxHeartbeats 8000000 in
theorem runit_any {U : Option (PS → PR Ex)} (ho : OkB ts) (h : RT W tb ts) (hi : s.i < ts.length) (hl : Lk k s.l) (hl2 : s.l ≤ 32) (hso : s.o ≤ 14) (hU0 : U = none → s.o = 14)
  (hU1 : ∀ u, U = some u → s.o < 14 ∧ ∀ W', RT W' tb ts → s.i + 1 < ts.length → Calls Tryz.prog 34 #[.agg #[.slice (some ⟨tb, 0, none⟩) ts.length c, .int .i64 (s.i + 1 : Nat), .int .i64 (k : Nat), .int .i64 (s.o + 1 : Nat), .int .i64 (s.l : Nat)]] W' (GE tb c ts (s.o + 1) (st k (s.i + 1) (u ⟨s.i + 1, s.o + 1, s.l⟩)) W')) :
  Calls Tryz.prog 54 #[.agg #[.slice (some ⟨tb, 0, none⟩) ts.length c, .int .i64 (s.i : Nat), .int .i64 (k : Nat), .int .i64 (s.o : Nat), .int .i64 (s.l : Nat)]] W (GE tb c ts s.o (st k s.i (unitW ts U s)) W) := by
 have HZ : Hid (tb < W.heap.size) := h.1
 have hb4 : Below W.heap.size W ((((W.alloc (.cells #[.slice (some ⟨tb, 0, none⟩) ts.length c, .int .i64 (s.i : Nat), .int .i64 (k : Nat), .int .i64 (s.o : Nat), .int .i64 (s.l : Nat)] 56)).alloc (.cells #[.slice none 0 0, .int .i64 0, .int .i64 0, .int .i64 0, .int .i64 0] 56)).alloc (.cells #[.int .i64 0, .string ⟨#[]⟩, .string ⟨#[]⟩, .slice none 0 0] 46)).alloc (.cells #[.int .i64 1, .string ⟨#[]⟩, .string ⟨#[]⟩, .slice none 0 0] 46)) := ((((Below.refl _ _).alloc (Nat.le_refl _) _).alloc (by simp) _).alloc (by simp; omega) _).alloc (by simp; omega) _
 have HB := hiD hb4
 have HA : Hid (Arr ((((W.alloc (.cells #[.slice (some ⟨tb, 0, none⟩) ts.length c, .int .i64 (s.i : Nat), .int .i64 (k : Nat), .int .i64 (s.o : Nat), .int .i64 (s.l : Nat)] 56)).alloc (.cells #[.slice none 0 0, .int .i64 0, .int .i64 0, .int .i64 0, .int .i64 0] 56)).alloc (.cells #[.int .i64 0, .string ⟨#[]⟩, .string ⟨#[]⟩, .slice none 0 0] 46)).alloc (.cells #[.int .i64 1, .string ⟨#[]⟩, .string ⟨#[]⟩, .slice none 0 0] 46)) 56 (W.heap.size) [.slice (some ⟨tb, 0, none⟩) ts.length c, .int .i64 (s.i : Nat), .int .i64 (k : Nat), .int .i64 (s.o : Nat), .int .i64 (s.l : Nat)]) := ((Arr.new' _ _ _ _ rfl).alloc _).alloc _ |>.alloc _
 have HQ : Hid (Arr ((((W.alloc (.cells #[.slice (some ⟨tb, 0, none⟩) ts.length c, .int .i64 (s.i : Nat), .int .i64 (k : Nat), .int .i64 (s.o : Nat), .int .i64 (s.l : Nat)] 56)).alloc (.cells #[.slice none 0 0, .int .i64 0, .int .i64 0, .int .i64 0, .int .i64 0] 56)).alloc (.cells #[.int .i64 0, .string ⟨#[]⟩, .string ⟨#[]⟩, .slice none 0 0] 46)).alloc (.cells #[.int .i64 1, .string ⟨#[]⟩, .string ⟨#[]⟩, .slice none 0 0] 46)) 56 (W.heap.size + 1) [.slice none 0 0, .int .i64 0, .int .i64 0, .int .i64 0, .int .i64 0]) := ((Arr.new2 _ _ _ _ _ rfl).alloc _).alloc _
 have HR : Hid (Arr ((((W.alloc (.cells #[.slice (some ⟨tb, 0, none⟩) ts.length c, .int .i64 (s.i : Nat), .int .i64 (k : Nat), .int .i64 (s.o : Nat), .int .i64 (s.l : Nat)] 56)).alloc (.cells #[.slice none 0 0, .int .i64 0, .int .i64 0, .int .i64 0, .int .i64 0] 56)).alloc (.cells #[.int .i64 0, .string ⟨#[]⟩, .string ⟨#[]⟩, .slice none 0 0] 46)).alloc (.cells #[.int .i64 1, .string ⟨#[]⟩, .string ⟨#[]⟩, .slice none 0 0] 46)) 46 (W.heap.size + 1 + 1) [.int .i64 0, .string ⟨#[]⟩, .string ⟨#[]⟩, .slice none 0 0]) := (Arr.new3 _ _ _ _ _ _ rfl).alloc _
 have HE : Hid (Arr ((((W.alloc (.cells #[.slice (some ⟨tb, 0, none⟩) ts.length c, .int .i64 (s.i : Nat), .int .i64 (k : Nat), .int .i64 (s.o : Nat), .int .i64 (s.l : Nat)] 56)).alloc (.cells #[.slice none 0 0, .int .i64 0, .int .i64 0, .int .i64 0, .int .i64 0] 56)).alloc (.cells #[.int .i64 0, .string ⟨#[]⟩, .string ⟨#[]⟩, .slice none 0 0] 46)).alloc (.cells #[.int .i64 1, .string ⟨#[]⟩, .string ⟨#[]⟩, .slice none 0 0] 46)) 46 (W.heap.size + 1 + 1 + 1) [.int .i64 1, .string ⟨#[]⟩, .string ⟨#[]⟩, .slice none 0 0]) := by
  have h := Arr.new' (((W.alloc (.cells #[.slice (some ⟨tb, 0, none⟩) ts.length c, .int .i64 (s.i : Nat), .int .i64 (k : Nat), .int .i64 (s.o : Nat), .int .i64 (s.l : Nat)] 56)).alloc (.cells #[.slice none 0 0, .int .i64 0, .int .i64 0, .int .i64 0, .int .i64 0] 56)).alloc (.cells #[.int .i64 0, .string ⟨#[]⟩, .string ⟨#[]⟩, .slice none 0 0] 46)) 46 #[.int .i64 1, .string ⟨#[]⟩, .string ⟨#[]⟩, .slice none 0 0] [.int .i64 1, .string ⟨#[]⟩, .string ⟨#[]⟩, .slice none 0 0] rfl
  rw [show (((W.alloc (.cells #[.slice (some ⟨tb, 0, none⟩) ts.length c, .int .i64 (s.i : Nat), .int .i64 (k : Nat), .int .i64 (s.o : Nat), .int .i64 (s.l : Nat)] 56)).alloc (.cells #[.slice none 0 0, .int .i64 0, .int .i64 0, .int .i64 0, .int .i64 0] 56)).alloc (.cells #[.int .i64 0, .string ⟨#[]⟩, .string ⟨#[]⟩, .slice none 0 0] 46)).heap.size = W.heap.size + 1 + 1 + 1 from by simp] at h
  exact h
 have HT : Hid (RT ((((W.alloc (.cells #[.slice (some ⟨tb, 0, none⟩) ts.length c, .int .i64 (s.i : Nat), .int .i64 (k : Nat), .int .i64 (s.o : Nat), .int .i64 (s.l : Nat)] 56)).alloc (.cells #[.slice none 0 0, .int .i64 0, .int .i64 0, .int .i64 0, .int .i64 0] 56)).alloc (.cells #[.int .i64 0, .string ⟨#[]⟩, .string ⟨#[]⟩, .slice none 0 0] 46)).alloc (.cells #[.int .i64 1, .string ⟨#[]⟩, .string ⟨#[]⟩, .slice none 0 0] 46)) tb ts) := ⟨Nat.lt_of_lt_of_le h.1 hb4.size, h.2.1, fun i hi j hj => (hb4.cell (p := ⟨tb, i * 3 + j, none⟩) h.1).trans (h.2.2 i hi j hj)⟩
 have HO := hiD ho
 have HH := hiD hi
 have HL := hiD hl
 have HL32 := hiD hl2
 have HU0 := hiD hU0
 have HU1 := hiD hU1
 have HSO := hiD hso
 have HTS : Hid (ts.length ≤ 100000) := h.2.1
 clear hb4 h hi hl ho hl2 hU0 hU1 hso
 go_enter Tryz.func54, Tryz.ntmps54
 go_upto_region 2 with (fail)
 generalize ((((W.alloc (.cells #[.slice (some ⟨tb, 0, none⟩) ts.length c, .int .i64 (s.i : Nat), .int .i64 (k : Nat), .int .i64 (s.o : Nat), .int .i64 (s.l : Nat)] 56)).alloc (.cells #[.slice none 0 0, .int .i64 0, .int .i64 0, .int .i64 0, .int .i64 0] 56)).alloc (.cells #[.int .i64 0, .string ⟨#[]⟩, .string ⟨#[]⟩, .slice none 0 0] 46)).alloc (.cells #[.int .i64 1, .string ⟨#[]⟩, .string ⟨#[]⟩, .slice none 0 0] 46)) = w1 at HA HQ HR HE HT HB ⊢
 have HIS := hiD (ris_any (s := s) (c := c) (k := k) HO.out.1 HT.out HH.out ⟨#[40]⟩ [40] rfl (by decide))
 obtain ⟨d, hd⟩ : ∃ d, d = (decide (k = 0) && decide (txt ts s.i = [40])) := ⟨_, rfl⟩
 have HD := hiD hd
 rw [← hd] at HIS
 clear hd
 obtain ⟨p0, z0, p1, z1, p2, z2, p3, z3, p4, z4⟩ := HA.out.all5
 go_wp2_with fail
 refine HIS.out.mono ?_
 rintro r w2 ⟨rfl, b2⟩
 clear p0 z0 p1 z1 p2 z2 p3 z3 p4 z4
 have HQ := hiD (HQ.out.later b2)
 have HR := hiD (HR.out.later b2)
 have HE := hiD (HE.out.later b2)
 have HT := hiD (HT.out.later b2)
 have HA := hiD (HA.out.later b2)
 have HB := hiD (HB.out.trans (b2.mono HB.out.size))
 clear b2 HIS
 cases d with
 | true =>
  have hd := HD.out
  simp only [Bool.true_eq, Bool.and_eq_true, decide_eq_true_eq] at hd
  have HK0 := hiD hd.1
  have HT0 := hiD hd.2
  clear hd
  by_cases h14 : s.o = 14
  ·have ho5 : ((s.o : Int) == 14) = true := by rw [h14]; rfl
   have HVE : Hid (VE (W.heap.size + 4) (.mk 1 [] [] []) w2 (.agg #[.int .i64 1, .string ⟨#[]⟩, .string ⟨#[]⟩, .slice none 0 0])) := VE.leaf _ _ 1 [] []
   have HG7 : Hid (∀ k', k' = (if k = 0 then 7 else k) → Go1 ts k' s.i s.o s.l (Ex.mk 1 [] [] []) (st k s.i (unitW ts U s))) := fun k' hk' => by
    rw [if_pos HK0.out] at hk'
    have hU : U = none := by
     cases hu : U with
     | none => rfl
     | some u => exact absurd (HU1.out u hu).1 (by omega)
    rw [hk', st_0 HK0.out, unitW_group HT0.out, hU]
    exact ⟨HH.out, ⟨HL.out.1, fun h => by cases h⟩, .inr ⟨by decide, rfl⟩⟩
   clear h14
   obtain ⟨p0, z0, p1, z1, p2, z2, p3, z3, p4, z4⟩ := HA.out.all5
   obtain ⟨ea0, eb0, ea1, eb1, ea2, eb2, ea3, eb3⟩ := HE.out.all4
   go_upto_region 4 with (fail)
   clear p0 z0 p1 z1 p2 z2 p3 z3 p4 z4
   clear ea0 eb0 ea1 eb1 ea2 eb2 ea3 eb3
   clear ho5
   have hb7 : Below w2.heap.size w2 w2.drew := (Below.refl _ _).drew
   have HA := hiD (HA.out.later hb7)
   have HQ := hiD (HQ.out.later hb7)
   have HR := hiD (HR.out.later hb7)
   have HE := hiD (HE.out.later hb7)
   have HB := hiD (HB.out.trans (hb7.mono HB.out.size))
   have HVE := hiD (HVE.out.later hb7)
   refine wp_region_held_drew (S := fun W' => Arr W' 56 (W.heap.size) [.slice (some ⟨tb, 0, none⟩) ts.length c, .int .i64 (s.i : Nat), .int .i64 (k : Nat), .int .i64 (s.o : Nat), .int .i64 (s.l : Nat)] ∧ Arr W' 46 (W.heap.size + 1 + 1 + 1) [.int .i64 1, .string ⟨#[]⟩, .string ⟨#[]⟩, .slice none 0 0]) (by kernel_rfl) ⟨HA.out, HE.out⟩ (fun hHeld => ?_)
   try simp only [Act.put]
   clear hb7
   generalize w2.drew = wa at hHeld HA HQ HR HE HB HVE ⊢
   refine wpAnyH_take (i := 0) (oi := ⟨some 11, _, _, _, _, _⟩) (v := .agg #[.slice (some ⟨tb, 0, none⟩) ts.length c, .int .i64 (s.i : Nat), .int .i64 (k : Nat), .int .i64 (s.o : Nat), .int .i64 (s.l : Nat)]) rfl (by kernel_rfl) (by kernel_rfl) (by kernel_rfl) (fun _ _ _ h => h) (.inl ⟨by rfl, fun w' hSw => ?_⟩) hHeld ?_
   focus (obtain ⟨q0, _, q1, _, q2, _, q3, _, q4, _⟩ := hSw.1.all5; clear hHeld; go_simp)
   try simp only [Act.put, pz0, pz1, pz2]
   refine wpAnyH_take (i := 2) (oi := ⟨some 13, _, _, _, _, _⟩) (v := .agg #[.int .i64 1, .string ⟨#[]⟩, .string ⟨#[]⟩, .slice none 0 0]) rfl (by kernel_rfl) (by kernel_rfl) (by kernel_rfl) (fun _ _ _ h => h) (.inl ⟨by rfl, fun w' hSw => ?_⟩) hHeld ?_
   focus (obtain ⟨q0, _, q1, _, q2, _, q3, _⟩ := hSw.2.all4; clear hHeld; go_simp)
   try simp only [Act.put, pz0, pz1, pz2]
   refine wpAnyH_ready (rs := [1]) (by kernel_rfl) (by simp) ?_
   refine AllReadyH.cons (o := ⟨some 12, _, _, _, _, _⟩) rfl (fun K' hK' => ?_) AllReadyH.nil
   refine stepw_call (R := fun v w' => ∃ k', k' = (if k = 0 then 7 else k) ∧ v = .agg #[.slice (some ⟨tb, 0, none⟩) ts.length c, .int .i64 (s.i : Nat), .int .i64 (k' : Nat), .int .i64 (s.o : Nat), .int .i64 (s.l : Nat)] ∧ Below wa.heap.size wa w') (by rfl) ?_ ((rbad_any (c := c) (k := k) (tb := tb) (ts := ts) (s := s) (W := wa) 7).mono fun r w' ⟨k', h1, h2, h3⟩ => ⟨_, h2, k', h1, rfl, h3⟩) ?_
   focus go_simp
   rintro v wn ⟨k', hk', rfl, bn⟩
   have hkn := And.intro (hHeld.1.later bn) (hHeld.2.later bn)
   clear hHeld
   have HQ := hiD (HQ.out.later bn)
   have HR := hiD (HR.out.later bn)
   have HB := hiD (HB.out.trans (bn.mono HB.out.size))
   have HVE := hiD (HVE.out.later bn)
   have HK' := hiD hk'
   clear bn hk'
   refine hK'.out _ _ hkn (fun hHeld => ?_)
   clear hK' K' hkn
   try simp only [Act.put, pz0, pz1, pz2]
   refine wpAnyH_ready (rs := [3]) (by kernel_rfl) (by simp) ?_
   refine AllReadyH.cons (o := ⟨none, _, _, _, _, _⟩) rfl (fun K' hK' => ?_) AllReadyH.nil
   obtain ⟨u0, v0, u1, v1, u2, v2, u3, v3, u4, v4⟩ := HQ.out.all5
   have hkn := And.intro (hHeld.1.off5 (b := W.heap.size + 1) (by simp only [ne_eq]; omega) (.slice (some ⟨tb, 0, none⟩) ts.length c) (.int .i64 (s.i : Nat)) (.int .i64 (k' : Nat)) (.int .i64 (s.o : Nat)) (.int .i64 (s.l : Nat))) (hHeld.2.off5 (b := W.heap.size + 1) (by simp only [ne_eq]; omega) (.slice (some ⟨tb, 0, none⟩) ts.length c) (.int .i64 (s.i : Nat)) (.int .i64 (k' : Nat)) (.int .i64 (s.o : Nat)) (.int .i64 (s.l : Nat)))
   clear hHeld
   go_simp
   clear u0 v0 u1 v1 u2 v2 u3 v3 u4 v4
   refine hK'.out _ _ hkn (fun hHeld => ?_)
   clear hK' K' hkn
   try simp only [Act.put, pz0, pz1, pz2]
   have hkp := kp_setP wn (W.heap.size + 1) (.slice (some ⟨tb, 0, none⟩) ts.length c) (.int .i64 (s.i : Nat)) (.int .i64 (k' : Nat)) (.int .i64 (s.o : Nat)) (.int .i64 (s.l : Nat))
   have HQ := hiD (HQ.out.setP (.slice (some ⟨tb, 0, none⟩) ts.length c) (.int .i64 (s.i : Nat)) (.int .i64 (k' : Nat)) (.int .i64 (s.o : Nat)) (.int .i64 (s.l : Nat)))
   have HR := hiD (hkp.arr HR.out (by omega))
   have HVE := hiD (HVE.out.kp hkp (by omega))
   have HB := hiD (HB.out.trans (hkp.below (B := W.heap.size) (by omega) HB.out.size))
   clear hkp
   generalize (((((wn.setCell ⟨W.heap.size + 1, 0, none⟩ (.slice (some ⟨tb, 0, none⟩) ts.length c)).setCell ⟨W.heap.size + 1, 1, none⟩ (.int .i64 (s.i : Nat))).setCell ⟨W.heap.size + 1, 2, none⟩ (.int .i64 (k' : Nat))).setCell ⟨W.heap.size + 1, 3, none⟩ (.int .i64 (s.o : Nat))).setCell ⟨W.heap.size + 1, 4, none⟩ (.int .i64 (s.l : Nat))) = wb at hHeld HQ HR HB HVE ⊢
   refine wpAnyH_ready (rs := [4]) (by kernel_rfl) (by simp) ?_
   refine AllReadyH.cons (o := ⟨none, _, _, _, _, _⟩) rfl (fun K' hK' => ?_) AllReadyH.nil
   obtain ⟨u0, v0, u1, v1, u2, v2, u3, v3⟩ := HR.out.all4
   have hkn := And.intro (hHeld.1.off4 (b := W.heap.size + 1 + 1) (by simp only [ne_eq]; omega) (.int .i64 1) (.string ⟨#[]⟩) (.string ⟨#[]⟩) (.slice none 0 0)) (hHeld.2.off4 (b := W.heap.size + 1 + 1) (by simp only [ne_eq]; omega) (.int .i64 1) (.string ⟨#[]⟩) (.string ⟨#[]⟩) (.slice none 0 0))
   clear hHeld
   go_simp
   clear u0 v0 u1 v1 u2 v2 u3 v3
   refine hK'.out _ _ hkn (fun hHeld => ?_)
   clear hK' K' hkn
   try simp only [Act.put, pz0, pz1, pz2]
   have hkp := kp_set4 wb (W.heap.size + 1 + 1) (.int .i64 1) (.string ⟨#[]⟩) (.string ⟨#[]⟩) (.slice none 0 0)
   have HR := hiD (HR.out.set4 (.int .i64 1) (.string ⟨#[]⟩) (.string ⟨#[]⟩) (.slice none 0 0))
   have HQ := hiD (hkp.arr HQ.out (by omega))
   have HVE := hiD (HVE.out.kp hkp (by omega))
   have HB := hiD (HB.out.trans (hkp.below (B := W.heap.size) (by omega) HB.out.size))
   clear hkp
   generalize ((((wb.setCell ⟨W.heap.size + 1 + 1, 0, none⟩ (.int .i64 1)).setCell ⟨W.heap.size + 1 + 1, 1, none⟩ (.string ⟨#[]⟩)).setCell ⟨W.heap.size + 1 + 1, 2, none⟩ (.string ⟨#[]⟩)).setCell ⟨W.heap.size + 1 + 1, 3, none⟩ (.slice none 0 0)) = wc at hHeld HQ HR HB HVE ⊢
   refine wpAnyH_done (by kernel_rfl) ?_ _
   go_wp2_with fail
   clear hHeld
   have c0 := HQ.out.cell 0
   have c1 := HQ.out.cell 1
   have c2 := HQ.out.cell 2
   have c3 := HQ.out.cell 3
   have c4 := HQ.out.cell 4
   have d0 := HR.out.cell 0
   have d1 := HR.out.cell 1
   have d2 := HR.out.cell 2
   have d3 := HR.out.cell 3
   simp only [List.getElem?_cons_zero, List.getElem?_cons_succ] at c0 c1 c2 c3 c4 d0 d1 d2 d3
   refine bodyPost_ret (v := .tuple #[.agg #[.slice (some ⟨tb, 0, none⟩) ts.length c, .int .i64 (s.i : Nat), .int .i64 (k' : Nat), .int .i64 (s.o : Nat), .int .i64 (s.l : Nat)], .agg #[.int .i64 1, .string ⟨#[]⟩, .string ⟨#[]⟩, .slice none 0 0]]) ?_ rfl ⟨s.i, k', s.l, _, _, HG7.out k' HK'.out, rfl, HVE.out.low (by omega), HB.out⟩
   simp [results, Tryz.results54, go_sem, c0, c1, c2, c3, c4, d0, d1, d2, d3]
  ·have ho5 : ((s.o : Int) == 14) = false := beq_eq_false_iff_ne.2 (by omega)
   obtain ⟨u, hu⟩ : ∃ u, U = some u := by
    cases hu : U with
    | none => exact absurd (HU0.out hu) h14
    | some u => exact ⟨u, rfl⟩
   obtain ⟨-, hUC⟩ := HU1.out u hu
   have HS1 : Hid (s.i + 1 < ts.length) := HO.out.1.step (by rw [HT0.out]; simp)
   have HUC := hiD hUC
   have HUE := hiD hu
   have hzi0 : (0 : Int) ≤ s.i := by omega
   have hzi1 : (s.i : Int) ≤ 100000 := by have := HS1.out; have := HTS.out; omega
   have hzo0 : (0 : Int) ≤ s.o := by omega
   have hzo1 : (s.o : Int) ≤ 100 := by have := HSO.out; omega
   clear h14 hUC hu
   obtain ⟨p0, z0, p1, z1, p2, z2, p3, z3, p4, z4⟩ := HA.out.all5
   go_upto_region 6 with (fail)
   clear p0 z0 p1 z1 p2 z2 p3 z3 p4 z4
   clear ho5
   have hkp := (Kp.of (pb := W.heap.size) (Below.refl w2.heap.size w2)).set 1 (.int .i64 ((s.i : Int) + 1))
   have HA : Hid (Arr (w2.setCell ⟨W.heap.size, 1, none⟩ (.int .i64 ((s.i : Int) + 1))) 56 (W.heap.size) [.slice (some ⟨tb, 0, none⟩) ts.length c, .int .i64 (s.i + 1 : Nat), .int .i64 (k : Nat), .int .i64 (s.o : Nat), .int .i64 (s.l : Nat)]) := by
    have h := HA.out.set 1 (.int .i64 ((s.i : Int) + 1))
    rw [show ((s.i + 1 : Nat) : Int) = (s.i : Int) + 1 from by simp]
    exact h
   have HQ := hiD (hkp.arr HQ.out (by omega))
   have HR := hiD (hkp.arr HR.out (by omega))
   have HE := hiD (hkp.arr HE.out (by omega))
   have HT := hiD (HT.out.kp hkp (by first | omega | (have := HZ.out; omega)))
   have HB := hiD (HB.out.trans (hkp.below (B := W.heap.size) (by omega) HB.out.size))
   clear hkp
   generalize (w2.setCell ⟨W.heap.size, 1, none⟩ (.int .i64 ((s.i : Int) + 1))) = w3 at HA HQ HR HE HT HB ⊢
   obtain ⟨i1, hi1⟩ : ∃ x, x = s.i + 1 := ⟨_, rfl⟩
   have HI1 := hiD hi1
   rw [← hi1] at HA HUC HS1
   clear hi1
   obtain ⟨p0, z0, p1, z1, p2, z2, p3, z3, p4, z4⟩ := HA.out.all5
   go_upto_region 7 with (fail)
   clear p0 z0 p1 z1 p2 z2 p3 z3 p4 z4
   have hkp := (Kp.of (pb := W.heap.size) (Below.refl w3.heap.size w3)).set 3 (.int .i64 ((s.o : Int) + 1))
   have HA : Hid (Arr (w3.setCell ⟨W.heap.size, 3, none⟩ (.int .i64 ((s.o : Int) + 1))) 56 (W.heap.size) [.slice (some ⟨tb, 0, none⟩) ts.length c, .int .i64 (i1 : Nat), .int .i64 (k : Nat), .int .i64 (s.o + 1 : Nat), .int .i64 (s.l : Nat)]) := by
    have h := HA.out.set 3 (.int .i64 ((s.o : Int) + 1))
    rw [show ((s.o + 1 : Nat) : Int) = (s.o : Int) + 1 from by simp]
    exact h
   have HQ := hiD (hkp.arr HQ.out (by omega))
   have HR := hiD (hkp.arr HR.out (by omega))
   have HE := hiD (hkp.arr HE.out (by omega))
   have HT := hiD (HT.out.kp hkp (by first | omega | (have := HZ.out; omega)))
   have HB := hiD (HB.out.trans (hkp.below (B := W.heap.size) (by omega) HB.out.size))
   clear hkp
   generalize (w3.setCell ⟨W.heap.size, 3, none⟩ (.int .i64 ((s.o : Int) + 1))) = w4 at HA HQ HR HE HT HB ⊢
   obtain ⟨o1, ho1⟩ : ∃ x, x = s.o + 1 := ⟨_, rfl⟩
   have HO1 := hiD ho1
   rw [← ho1] at HA HUC
   clear ho1
   have HXC := hiD (HUC.out w4 HT.out HS1.out)
   obtain ⟨p0, z0, p1, z1, p2, z2, p3, z3, p4, z4⟩ := HA.out.all5
   go_wp2_with fail
   refine HXC.out.mono ?_
   rintro r w5 ⟨i5, k5, l5, x5, v5, hg5, rfl, hv5, b5⟩
   have HG5 := hiD hg5
   have HLE : Hid (W.heap.size + 4 ≤ w4.heap.size) := HE.out.lt
   clear p0 z0 p1 z1 p2 z2 p3 z3 p4 z4
   have HQ := hiD (HQ.out.later b5)
   have HR := hiD (HR.out.later b5)
   have HE := hiD (HE.out.later b5)
   have HT := hiD (HT.out.later b5)
   have HA := hiD (HA.out.later b5)
   have HB := hiD (HB.out.trans (b5.mono HB.out.size))
   obtain ⟨mk, mv, mn, ms⟩ := x5
   have HVE : Hid (VE (W.heap.size + 4) (.mk mk mv mn ms) w5 v5) := VE.low hv5 HLE.out
   obtain ⟨q4, cq, rfl⟩ := VE.form hv5
   clear hg5 b5 hv5 HXC
   obtain ⟨p0, z0, p1, z1, p2, z2, p3, z3, p4, z4⟩ := HA.out.all5
   obtain ⟨ea0, eb0, ea1, eb1, ea2, eb2, ea3, eb3⟩ := HE.out.all4
   go_upto_region 8 with (fail)
   clear p0 z0 p1 z1 p2 z2 p3 z3 p4 z4
   clear ea0 eb0 ea1 eb1 ea2 eb2 ea3 eb3
   have hkp := kp_setP w5 (W.heap.size) (.slice (some ⟨tb, 0, none⟩) ts.length c) (.int .i64 (i5 : Nat)) (.int .i64 (k5 : Nat)) (.int .i64 (o1 : Nat)) (.int .i64 (l5 : Nat))
   have HA := hiD (HA.out.setP (.slice (some ⟨tb, 0, none⟩) ts.length c) (.int .i64 (i5 : Nat)) (.int .i64 (k5 : Nat)) (.int .i64 (o1 : Nat)) (.int .i64 (l5 : Nat)))
   have HQ := hiD (hkp.arr HQ.out (by omega))
   have HR := hiD (hkp.arr HR.out (by omega))
   have HE := hiD (hkp.arr HE.out (by omega))
   have HT := hiD (HT.out.kp hkp (by first | omega | (have := HZ.out; omega)))
   have HVE := hiD (HVE.out.kp hkp (by first | omega | (have := HZ.out; omega)))
   have HB := hiD (HB.out.trans (hkp.below (B := W.heap.size) (Nat.le_refl _) HB.out.size))
   clear hkp
   generalize (((((w5.setCell ⟨W.heap.size, 0, none⟩ (.slice (some ⟨tb, 0, none⟩) ts.length c)).setCell ⟨W.heap.size, 1, none⟩ (.int .i64 (i5 : Nat))).setCell ⟨W.heap.size, 2, none⟩ (.int .i64 (k5 : Nat))).setCell ⟨W.heap.size, 3, none⟩ (.int .i64 (o1 : Nat))).setCell ⟨W.heap.size, 4, none⟩ (.int .i64 (l5 : Nat))) = w6 at HA HQ HR HE HT HVE HB ⊢
   have hkp := kp_set4 w6 (W.heap.size + 1 + 1 + 1) (.int .i64 mk) (.string (bstr mv)) (.string (bstr mn)) (.slice q4 ms.length cq)
   have HE := hiD (HE.out.set4 (.int .i64 mk) (.string (bstr mv)) (.string (bstr mn)) (.slice q4 ms.length cq))
   have HA := hiD (hkp.arr HA.out (by omega))
   have HQ := hiD (hkp.arr HQ.out (by omega))
   have HR := hiD (hkp.arr HR.out (by omega))
   have HT := hiD (HT.out.kp hkp (by first | omega | (have := HZ.out; omega)))
   have HVE := hiD (HVE.out.kp hkp (by first | omega | (have := HZ.out; omega)))
   have HB := hiD (HB.out.trans (hkp.below (B := W.heap.size) (by omega) HB.out.size))
   clear hkp
   generalize ((((w6.setCell ⟨W.heap.size + 1 + 1 + 1, 0, none⟩ (.int .i64 mk)).setCell ⟨W.heap.size + 1 + 1 + 1, 1, none⟩ (.string (bstr mv))).setCell ⟨W.heap.size + 1 + 1 + 1, 2, none⟩ (.string (bstr mn))).setCell ⟨W.heap.size + 1 + 1 + 1, 3, none⟩ (.slice q4 ms.length cq)) = w7 at HE HA HQ HR HT HVE HB ⊢
   have HMU := hiD (rmust_any (c := c) (k := k5) (s := ⟨i5, o1, l5⟩) HO.out.1 HT.out HG5.out.1 HG5.out.2.1 ⟨#[41]⟩ [41] rfl (by decide))
   obtain ⟨p0, z0, p1, z1, p2, z2, p3, z3, p4, z4⟩ := HA.out.all5
   go_wp2_with fail
   refine HMU.out.mono ?_
   rintro r w8 ⟨i8, k8, hg8, rfl, b8⟩
   have HGF : Hid (Go1 ts k8 i8 s.o l5 (.mk mk mv mn ms) (st k s.i (unitW ts U s))) := by
    show Go1 _ _ _ _ _ _ _
    have h := HG5.out
    have h2 := hg8
    rw [st_0 HK0.out, HI1.out, HO1.out] at h
    rw [HO1.out] at h2
    rw [st_0 HK0.out, HUE.out]
    exact unit_paren HT0.out h h2
   clear p0 z0 p1 z1 p2 z2 p3 z3 p4 z4
   have HQ := hiD (HQ.out.later b8)
   have HR := hiD (HR.out.later b8)
   have HE := hiD (HE.out.later b8)
   have HT := hiD (HT.out.later b8)
   have HA := hiD (HA.out.later b8)
   have HVE := hiD (HVE.out.later b8)
   have HB := hiD (HB.out.trans (b8.mono HB.out.size))
   clear hg8 b8 HMU
   obtain ⟨p0, z0, p1, z1, p2, z2, p3, z3, p4, z4⟩ := HA.out.all5
   go_upto_region 9 with (fail)
   clear p0 z0 p1 z1 p2 z2 p3 z3 p4 z4
   have hkp := kp_setP w8 (W.heap.size) (.slice (some ⟨tb, 0, none⟩) ts.length c) (.int .i64 (i8 : Nat)) (.int .i64 (k8 : Nat)) (.int .i64 (o1 : Nat)) (.int .i64 (l5 : Nat))
   have HA := hiD (HA.out.setP (.slice (some ⟨tb, 0, none⟩) ts.length c) (.int .i64 (i8 : Nat)) (.int .i64 (k8 : Nat)) (.int .i64 (o1 : Nat)) (.int .i64 (l5 : Nat)))
   have HQ := hiD (hkp.arr HQ.out (by omega))
   have HR := hiD (hkp.arr HR.out (by omega))
   have HE := hiD (hkp.arr HE.out (by omega))
   have HT := hiD (HT.out.kp hkp (by first | omega | (have := HZ.out; omega)))
   have HVE := hiD (HVE.out.kp hkp (by first | omega | (have := HZ.out; omega)))
   have HB := hiD (HB.out.trans (hkp.below (B := W.heap.size) (Nat.le_refl _) HB.out.size))
   clear hkp
   generalize (((((w8.setCell ⟨W.heap.size, 0, none⟩ (.slice (some ⟨tb, 0, none⟩) ts.length c)).setCell ⟨W.heap.size, 1, none⟩ (.int .i64 (i8 : Nat))).setCell ⟨W.heap.size, 2, none⟩ (.int .i64 (k8 : Nat))).setCell ⟨W.heap.size, 3, none⟩ (.int .i64 (o1 : Nat))).setCell ⟨W.heap.size, 4, none⟩ (.int .i64 (l5 : Nat))) = w9 at HA HQ HR HE HT HVE HB ⊢
   obtain ⟨p0, z0, p1, z1, p2, z2, p3, z3, p4, z4⟩ := HA.out.all5
   have hoo : (o1 : Int) - 1 = s.o := by have := HO1.out; omega
   have hoo0 : (1 : Int) ≤ o1 := by have := HO1.out; omega
   have hoo1 : (o1 : Int) ≤ 1000 := by have := HO1.out; have := HSO.out; omega
   go_upto_region 10 with (fail)
   clear p0 z0 p1 z1 p2 z2 p3 z3 p4 z4
   have hkp := (Kp.of (pb := W.heap.size) (Below.refl w9.heap.size w9)).set 3 (.int .i64 (s.o : Nat))
   have HA : Hid (Arr (w9.setCell ⟨W.heap.size, 3, none⟩ (.int .i64 (s.o : Nat))) 56 W.heap.size [.slice (some ⟨tb, 0, none⟩) ts.length c, .int .i64 (i8 : Nat), .int .i64 (k8 : Nat), .int .i64 (s.o : Nat), .int .i64 (l5 : Nat)]) := HA.out.set 3 _
   have HQ := hiD (hkp.arr HQ.out (by omega))
   have HR := hiD (hkp.arr HR.out (by omega))
   have HE := hiD (hkp.arr HE.out (by omega))
   have HT := hiD (HT.out.kp hkp (by first | omega | (have := HZ.out; omega)))
   have HVE := hiD (HVE.out.kp hkp (by first | omega | (have := HZ.out; omega)))
   have HB := hiD (HB.out.trans (hkp.below (B := W.heap.size) (Nat.le_refl _) HB.out.size))
   clear hkp hoo hoo0 hoo1
   generalize w9.setCell ⟨W.heap.size, 3, none⟩ (.int .i64 (s.o : Nat)) = w10 at HA HQ HR HE HT HB HVE ⊢
   have hb7 : Below w10.heap.size w10 w10.drew := (Below.refl _ _).drew
   have HA := hiD (HA.out.later hb7)
   have HQ := hiD (HQ.out.later hb7)
   have HR := hiD (HR.out.later hb7)
   have HE := hiD (HE.out.later hb7)
   have HB := hiD (HB.out.trans (hb7.mono HB.out.size))
   have HVE := hiD (HVE.out.later hb7)
   refine wp_region_held_drew (S := fun W' => Arr W' 56 (W.heap.size) [.slice (some ⟨tb, 0, none⟩) ts.length c, .int .i64 (i8 : Nat), .int .i64 (k8 : Nat), .int .i64 (s.o : Nat), .int .i64 (l5 : Nat)] ∧ Arr W' 46 (W.heap.size + 1 + 1 + 1) [.int .i64 mk, .string (bstr mv), .string (bstr mn), .slice q4 ms.length cq]) (by kernel_rfl) ⟨HA.out, HE.out⟩ (fun hHeld => ?_)
   try simp only [Act.put]
   clear hb7
   generalize w10.drew = wa at hHeld HA HQ HR HE HB HVE ⊢
   refine wpAnyH_take (i := 0) (oi := ⟨some 33, _, _, _, _, _⟩) (v := .agg #[.slice (some ⟨tb, 0, none⟩) ts.length c, .int .i64 (i8 : Nat), .int .i64 (k8 : Nat), .int .i64 (s.o : Nat), .int .i64 (l5 : Nat)]) rfl (by kernel_rfl) (by kernel_rfl) (by kernel_rfl) (fun _ _ _ h => h) (.inl ⟨by rfl, fun w' hSw => ?_⟩) hHeld ?_
   focus (obtain ⟨q0, _, q1, _, q2, _, q3, _, q4, _⟩ := hSw.1.all5; clear hHeld; go_simp)
   try simp only [Act.put, pz0, pz1, pz2]
   refine wpAnyH_take (i := 1) (oi := ⟨some 34, _, _, _, _, _⟩) (v := .agg #[.int .i64 mk, .string (bstr mv), .string (bstr mn), .slice q4 ms.length cq]) rfl (by kernel_rfl) (by kernel_rfl) (by kernel_rfl) (fun _ _ _ h => h) (.inl ⟨by rfl, fun w' hSw => ?_⟩) hHeld ?_
   focus (obtain ⟨q0, _, q1, _, q2, _, q3, _⟩ := hSw.2.all4; clear hHeld; go_simp)
   try simp only [Act.put, pz0, pz1, pz2]
   refine wpAnyH_ready (rs := [2]) (by kernel_rfl) (by simp) ?_
   refine AllReadyH.cons (o := ⟨none, _, _, _, _, _⟩) rfl (fun K' hK' => ?_) AllReadyH.nil
   obtain ⟨u0, v0, u1, v1, u2, v2, u3, v3, u4, v4⟩ := HQ.out.all5
   have hkn := And.intro (hHeld.1.off5 (b := W.heap.size + 1) (by simp only [ne_eq]; omega) (.slice (some ⟨tb, 0, none⟩) ts.length c) (.int .i64 (i8 : Nat)) (.int .i64 (k8 : Nat)) (.int .i64 (s.o : Nat)) (.int .i64 (l5 : Nat))) (hHeld.2.off5 (b := W.heap.size + 1) (by simp only [ne_eq]; omega) (.slice (some ⟨tb, 0, none⟩) ts.length c) (.int .i64 (i8 : Nat)) (.int .i64 (k8 : Nat)) (.int .i64 (s.o : Nat)) (.int .i64 (l5 : Nat)))
   clear hHeld
   go_simp
   clear u0 v0 u1 v1 u2 v2 u3 v3 u4 v4
   refine hK'.out _ _ hkn (fun hHeld => ?_)
   clear hK' K' hkn
   try simp only [Act.put, pz0, pz1, pz2]
   have hkp := kp_setP wa (W.heap.size + 1) (.slice (some ⟨tb, 0, none⟩) ts.length c) (.int .i64 (i8 : Nat)) (.int .i64 (k8 : Nat)) (.int .i64 (s.o : Nat)) (.int .i64 (l5 : Nat))
   have HQ := hiD (HQ.out.setP (.slice (some ⟨tb, 0, none⟩) ts.length c) (.int .i64 (i8 : Nat)) (.int .i64 (k8 : Nat)) (.int .i64 (s.o : Nat)) (.int .i64 (l5 : Nat)))
   have HR := hiD (hkp.arr HR.out (by omega))
   have HVE := hiD (HVE.out.kp hkp (by omega))
   have HB := hiD (HB.out.trans (hkp.below (B := W.heap.size) (by omega) HB.out.size))
   clear hkp
   generalize (((((wa.setCell ⟨W.heap.size + 1, 0, none⟩ (.slice (some ⟨tb, 0, none⟩) ts.length c)).setCell ⟨W.heap.size + 1, 1, none⟩ (.int .i64 (i8 : Nat))).setCell ⟨W.heap.size + 1, 2, none⟩ (.int .i64 (k8 : Nat))).setCell ⟨W.heap.size + 1, 3, none⟩ (.int .i64 (s.o : Nat))).setCell ⟨W.heap.size + 1, 4, none⟩ (.int .i64 (l5 : Nat))) = wb at hHeld HQ HR HB HVE ⊢
   refine wpAnyH_ready (rs := [3]) (by kernel_rfl) (by simp) ?_
   refine AllReadyH.cons (o := ⟨none, _, _, _, _, _⟩) rfl (fun K' hK' => ?_) AllReadyH.nil
   obtain ⟨u0, v0, u1, v1, u2, v2, u3, v3⟩ := HR.out.all4
   have hkn := And.intro (hHeld.1.off4 (b := W.heap.size + 1 + 1) (by simp only [ne_eq]; omega) (.int .i64 mk) (.string (bstr mv)) (.string (bstr mn)) (.slice q4 ms.length cq)) (hHeld.2.off4 (b := W.heap.size + 1 + 1) (by simp only [ne_eq]; omega) (.int .i64 mk) (.string (bstr mv)) (.string (bstr mn)) (.slice q4 ms.length cq))
   clear hHeld
   go_simp
   clear u0 v0 u1 v1 u2 v2 u3 v3
   refine hK'.out _ _ hkn (fun hHeld => ?_)
   clear hK' K' hkn
   try simp only [Act.put, pz0, pz1, pz2]
   have hkp := kp_set4 wb (W.heap.size + 1 + 1) (.int .i64 mk) (.string (bstr mv)) (.string (bstr mn)) (.slice q4 ms.length cq)
   have HR := hiD (HR.out.set4 (.int .i64 mk) (.string (bstr mv)) (.string (bstr mn)) (.slice q4 ms.length cq))
   have HQ := hiD (hkp.arr HQ.out (by omega))
   have HVE := hiD (HVE.out.kp hkp (by omega))
   have HB := hiD (HB.out.trans (hkp.below (B := W.heap.size) (by omega) HB.out.size))
   clear hkp
   generalize ((((wb.setCell ⟨W.heap.size + 1 + 1, 0, none⟩ (.int .i64 mk)).setCell ⟨W.heap.size + 1 + 1, 1, none⟩ (.string (bstr mv))).setCell ⟨W.heap.size + 1 + 1, 2, none⟩ (.string (bstr mn))).setCell ⟨W.heap.size + 1 + 1, 3, none⟩ (.slice q4 ms.length cq)) = wc at hHeld HQ HR HB HVE ⊢
   refine wpAnyH_done (by kernel_rfl) ?_ _
   go_wp2_with fail
   clear hHeld
   have c0 := HQ.out.cell 0
   have c1 := HQ.out.cell 1
   have c2 := HQ.out.cell 2
   have c3 := HQ.out.cell 3
   have c4 := HQ.out.cell 4
   have d0 := HR.out.cell 0
   have d1 := HR.out.cell 1
   have d2 := HR.out.cell 2
   have d3 := HR.out.cell 3
   simp only [List.getElem?_cons_zero, List.getElem?_cons_succ] at c0 c1 c2 c3 c4 d0 d1 d2 d3
   refine bodyPost_ret (v := .tuple #[.agg #[.slice (some ⟨tb, 0, none⟩) ts.length c, .int .i64 (i8 : Nat), .int .i64 (k8 : Nat), .int .i64 (s.o : Nat), .int .i64 (l5 : Nat)], .agg #[.int .i64 mk, .string (bstr mv), .string (bstr mn), .slice q4 ms.length cq]]) ?_ rfl ⟨i8, k8, l5, _, _, HGF.out, rfl, HVE.out.low (by omega), HB.out⟩
   simp [results, Tryz.results54, go_sem, c0, c1, c2, c3, c4, d0, d1, d2, d3]
 | false =>
  have hd := HD.out
  simp only [Bool.false_eq, Bool.and_eq_false_iff, decide_eq_false_iff_not] at hd
  have HNP : Hid (k = 0 → ¬ txt ts s.i = [40]) := fun h => hd.resolve_left (fun h1 => h1 h)
  clear hd
  by_cases hk : k = 0
  ·have hk5 : ((k : Int) == 0) = true := by simp [hk]
   have HK0 := hiD hk
   by_cases h32 : s.l = 32
   ·have hl5 : ((s.l : Int) == 32) = true := by rw [h32]; rfl
    have HL3 := hiD h32
    have hz0 : (0 : Int) ≤ s.i := by omega
    have hz2 : (s.i : Int) < ts.length := by have := HH.out; omega
    have t0 : w2.cell? ⟨tb, s.i * 3, none⟩ = some (.int .i64 (ts.getD s.i tok0).1) := HT.out.2.2 s.i HH.out 0 (by decide)
    have t1 : w2.cell? ⟨tb, s.i * 3 + 1, none⟩ = some (.string (bstr (txt ts s.i))) := HT.out.2.2 s.i HH.out 1 (by decide)
    obtain ⟨kd, hkd⟩ : ∃ x, x = (ts.getD s.i tok0).1 := ⟨_, rfl⟩
    obtain ⟨tx, htx⟩ : ∃ x, x = bstr (txt ts s.i) := ⟨_, rfl⟩
    have HKD := hiD hkd
    have HTX := hiD htx
    rw [← hkd] at t0
    rw [← htx] at t1
    clear hkd htx hk h32
    by_cases h1 : kd = 1
    ·have h1' : (kd == 1) = true := by rw [h1]; rfl
     have HNC := hiD (risName_any tx (by rw [HTX.out, bstr_size]; exact Nat.le_trans (HO.out.2 s.i) (by decide)) w2)
     clear h1
     obtain ⟨p0, z0, p1, z1, p2, z2, p3, z3, p4, z4⟩ := HA.out.all5
     go_wp2_with fail
     refine HNC.out.mono ?_
     rintro r wz ⟨rfl, hwz⟩
     obtain rfl := hwz
     clear p0 z0 p1 z1 p2 z2 p3 z3 p4 z4
     clear HNC t0 t1 h1' hl5 hk5
     obtain ⟨d3, hd3⟩ : ∃ d, d = isName tx := ⟨_, rfl⟩
     rw [← hd3]
     cases d3 with
     | true =>
      have HNM : Hid (isName (bstr (txt ts s.i)) = true) := by show _ = _; rw [← HTX.out]; exact hd3.symm
      have HVE : Hid (VE (W.heap.size + 4) (.mk 1 [] [] []) w2 (.agg #[.int .i64 1, .string ⟨#[]⟩, .string ⟨#[]⟩, .slice none 0 0])) := VE.leaf _ _ 1 [] []
      have HG15 : Hid (∀ k', k' = (if k = 0 then 15 else k) → Go1 ts k' s.i s.o s.l (Ex.mk 1 [] [] []) (st k s.i (unitW ts U s))) := fun k' hk' => by
       rw [if_pos HK0.out] at hk'
       rw [hk', st_0 HK0.out, unitW_many (HNP.out HK0.out) HNM.out (by have := HL3.out; omega)]
       exact ⟨HH.out, ⟨HL.out.1, fun h => by cases h⟩, .inr ⟨by decide, rfl⟩⟩
      clear hd3
      obtain ⟨p0, z0, p1, z1, p2, z2, p3, z3, p4, z4⟩ := HA.out.all5
      obtain ⟨ea0, eb0, ea1, eb1, ea2, eb2, ea3, eb3⟩ := HE.out.all4
      go_upto_region 12 with (fail)
      clear p0 z0 p1 z1 p2 z2 p3 z3 p4 z4
      clear ea0 eb0 ea1 eb1 ea2 eb2 ea3 eb3
      have hb7 : Below w2.heap.size w2 w2.drew := (Below.refl _ _).drew
      have HA := hiD (HA.out.later hb7)
      have HQ := hiD (HQ.out.later hb7)
      have HR := hiD (HR.out.later hb7)
      have HE := hiD (HE.out.later hb7)
      have HB := hiD (HB.out.trans (hb7.mono HB.out.size))
      have HVE := hiD (HVE.out.later hb7)
      refine wp_region_held_drew (S := fun W' => Arr W' 56 (W.heap.size) [.slice (some ⟨tb, 0, none⟩) ts.length c, .int .i64 (s.i : Nat), .int .i64 (k : Nat), .int .i64 (s.o : Nat), .int .i64 (s.l : Nat)] ∧ Arr W' 46 (W.heap.size + 1 + 1 + 1) [.int .i64 1, .string ⟨#[]⟩, .string ⟨#[]⟩, .slice none 0 0]) (by kernel_rfl) ⟨HA.out, HE.out⟩ (fun hHeld => ?_)
      try simp only [Act.put]
      clear hb7
      generalize w2.drew = wa at hHeld HA HQ HR HE HB HVE ⊢
      refine wpAnyH_take (i := 0) (oi := ⟨some 63, _, _, _, _, _⟩) (v := .agg #[.slice (some ⟨tb, 0, none⟩) ts.length c, .int .i64 (s.i : Nat), .int .i64 (k : Nat), .int .i64 (s.o : Nat), .int .i64 (s.l : Nat)]) rfl (by kernel_rfl) (by kernel_rfl) (by kernel_rfl) (fun _ _ _ h => h) (.inl ⟨by rfl, fun w' hSw => ?_⟩) hHeld ?_
      focus (obtain ⟨q0, _, q1, _, q2, _, q3, _, q4, _⟩ := hSw.1.all5; clear hHeld; go_simp)
      try simp only [Act.put, pz0, pz1, pz2]
      refine wpAnyH_take (i := 2) (oi := ⟨some 65, _, _, _, _, _⟩) (v := .agg #[.int .i64 1, .string ⟨#[]⟩, .string ⟨#[]⟩, .slice none 0 0]) rfl (by kernel_rfl) (by kernel_rfl) (by kernel_rfl) (fun _ _ _ h => h) (.inl ⟨by rfl, fun w' hSw => ?_⟩) hHeld ?_
      focus (obtain ⟨q0, _, q1, _, q2, _, q3, _⟩ := hSw.2.all4; clear hHeld; go_simp)
      try simp only [Act.put, pz0, pz1, pz2]
      refine wpAnyH_ready (rs := [1]) (by kernel_rfl) (by simp) ?_
      refine AllReadyH.cons (o := ⟨some 64, _, _, _, _, _⟩) rfl (fun K' hK' => ?_) AllReadyH.nil
      refine stepw_call (R := fun v w' => ∃ k', k' = (if k = 0 then 15 else k) ∧ v = .agg #[.slice (some ⟨tb, 0, none⟩) ts.length c, .int .i64 (s.i : Nat), .int .i64 (k' : Nat), .int .i64 (s.o : Nat), .int .i64 (s.l : Nat)] ∧ Below wa.heap.size wa w') (by rfl) ?_ ((rbad_any (c := c) (k := k) (tb := tb) (ts := ts) (s := s) (W := wa) 15).mono fun r w' ⟨k', h1, h2, h3⟩ => ⟨_, h2, k', h1, rfl, h3⟩) ?_
      focus go_simp
      rintro v wn ⟨k', hk', rfl, bn⟩
      have hkn := And.intro (hHeld.1.later bn) (hHeld.2.later bn)
      clear hHeld
      have HQ := hiD (HQ.out.later bn)
      have HR := hiD (HR.out.later bn)
      have HB := hiD (HB.out.trans (bn.mono HB.out.size))
      have HVE := hiD (HVE.out.later bn)
      have HK' := hiD hk'
      clear bn hk'
      refine hK'.out _ _ hkn (fun hHeld => ?_)
      clear hK' K' hkn
      try simp only [Act.put, pz0, pz1, pz2]
      refine wpAnyH_ready (rs := [3]) (by kernel_rfl) (by simp) ?_
      refine AllReadyH.cons (o := ⟨none, _, _, _, _, _⟩) rfl (fun K' hK' => ?_) AllReadyH.nil
      obtain ⟨u0, v0, u1, v1, u2, v2, u3, v3, u4, v4⟩ := HQ.out.all5
      have hkn := And.intro (hHeld.1.off5 (b := W.heap.size + 1) (by simp only [ne_eq]; omega) (.slice (some ⟨tb, 0, none⟩) ts.length c) (.int .i64 (s.i : Nat)) (.int .i64 (k' : Nat)) (.int .i64 (s.o : Nat)) (.int .i64 (s.l : Nat))) (hHeld.2.off5 (b := W.heap.size + 1) (by simp only [ne_eq]; omega) (.slice (some ⟨tb, 0, none⟩) ts.length c) (.int .i64 (s.i : Nat)) (.int .i64 (k' : Nat)) (.int .i64 (s.o : Nat)) (.int .i64 (s.l : Nat)))
      clear hHeld
      go_simp
      clear u0 v0 u1 v1 u2 v2 u3 v3 u4 v4
      refine hK'.out _ _ hkn (fun hHeld => ?_)
      clear hK' K' hkn
      try simp only [Act.put, pz0, pz1, pz2]
      have hkp := kp_setP wn (W.heap.size + 1) (.slice (some ⟨tb, 0, none⟩) ts.length c) (.int .i64 (s.i : Nat)) (.int .i64 (k' : Nat)) (.int .i64 (s.o : Nat)) (.int .i64 (s.l : Nat))
      have HQ := hiD (HQ.out.setP (.slice (some ⟨tb, 0, none⟩) ts.length c) (.int .i64 (s.i : Nat)) (.int .i64 (k' : Nat)) (.int .i64 (s.o : Nat)) (.int .i64 (s.l : Nat)))
      have HR := hiD (hkp.arr HR.out (by omega))
      have HVE := hiD (HVE.out.kp hkp (by omega))
      have HB := hiD (HB.out.trans (hkp.below (B := W.heap.size) (by omega) HB.out.size))
      clear hkp
      generalize (((((wn.setCell ⟨W.heap.size + 1, 0, none⟩ (.slice (some ⟨tb, 0, none⟩) ts.length c)).setCell ⟨W.heap.size + 1, 1, none⟩ (.int .i64 (s.i : Nat))).setCell ⟨W.heap.size + 1, 2, none⟩ (.int .i64 (k' : Nat))).setCell ⟨W.heap.size + 1, 3, none⟩ (.int .i64 (s.o : Nat))).setCell ⟨W.heap.size + 1, 4, none⟩ (.int .i64 (s.l : Nat))) = wb at hHeld HQ HR HB HVE ⊢
      refine wpAnyH_ready (rs := [4]) (by kernel_rfl) (by simp) ?_
      refine AllReadyH.cons (o := ⟨none, _, _, _, _, _⟩) rfl (fun K' hK' => ?_) AllReadyH.nil
      obtain ⟨u0, v0, u1, v1, u2, v2, u3, v3⟩ := HR.out.all4
      have hkn := And.intro (hHeld.1.off4 (b := W.heap.size + 1 + 1) (by simp only [ne_eq]; omega) (.int .i64 1) (.string ⟨#[]⟩) (.string ⟨#[]⟩) (.slice none 0 0)) (hHeld.2.off4 (b := W.heap.size + 1 + 1) (by simp only [ne_eq]; omega) (.int .i64 1) (.string ⟨#[]⟩) (.string ⟨#[]⟩) (.slice none 0 0))
      clear hHeld
      go_simp
      clear u0 v0 u1 v1 u2 v2 u3 v3
      refine hK'.out _ _ hkn (fun hHeld => ?_)
      clear hK' K' hkn
      try simp only [Act.put, pz0, pz1, pz2]
      have hkp := kp_set4 wb (W.heap.size + 1 + 1) (.int .i64 1) (.string ⟨#[]⟩) (.string ⟨#[]⟩) (.slice none 0 0)
      have HR := hiD (HR.out.set4 (.int .i64 1) (.string ⟨#[]⟩) (.string ⟨#[]⟩) (.slice none 0 0))
      have HQ := hiD (hkp.arr HQ.out (by omega))
      have HVE := hiD (HVE.out.kp hkp (by omega))
      have HB := hiD (HB.out.trans (hkp.below (B := W.heap.size) (by omega) HB.out.size))
      clear hkp
      generalize ((((wb.setCell ⟨W.heap.size + 1 + 1, 0, none⟩ (.int .i64 1)).setCell ⟨W.heap.size + 1 + 1, 1, none⟩ (.string ⟨#[]⟩)).setCell ⟨W.heap.size + 1 + 1, 2, none⟩ (.string ⟨#[]⟩)).setCell ⟨W.heap.size + 1 + 1, 3, none⟩ (.slice none 0 0)) = wc at hHeld HQ HR HB HVE ⊢
      refine wpAnyH_done (by kernel_rfl) ?_ _
      go_wp2_with fail
      clear hHeld
      have c0 := HQ.out.cell 0
      have c1 := HQ.out.cell 1
      have c2 := HQ.out.cell 2
      have c3 := HQ.out.cell 3
      have c4 := HQ.out.cell 4
      have d0 := HR.out.cell 0
      have d1 := HR.out.cell 1
      have d2 := HR.out.cell 2
      have d3 := HR.out.cell 3
      simp only [List.getElem?_cons_zero, List.getElem?_cons_succ] at c0 c1 c2 c3 c4 d0 d1 d2 d3
      refine bodyPost_ret (v := .tuple #[.agg #[.slice (some ⟨tb, 0, none⟩) ts.length c, .int .i64 (s.i : Nat), .int .i64 (k' : Nat), .int .i64 (s.o : Nat), .int .i64 (s.l : Nat)], .agg #[.int .i64 1, .string ⟨#[]⟩, .string ⟨#[]⟩, .slice none 0 0]]) ?_ rfl ⟨s.i, k', s.l, _, _, HG15.out k' HK'.out, rfl, HVE.out.low (by omega), HB.out⟩
      simp [results, Tryz.results54, go_sem, c0, c1, c2, c3, c4, d0, d1, d2, d3]
     | false =>
      have HNL : Hid (k = 0 → isName (bstr (txt ts s.i)) = true → s.l < 32) := fun _ hn => by rw [← HTX.out, ← hd3] at hn; cases hn
      clear hd3
      obtain ⟨p0, z0, p1, z1, p2, z2, p3, z3, p4, z4⟩ := HA.out.all5
      go_upto_region 13 with (fail)
      clear p0 z0 p1 z1 p2 z2 p3 z3 p4 z4
      have hzl0 : (0 : Int) ≤ s.l := by omega
      have hzl1 : (s.l : Int) ≤ 100 := by have := HL.out.1; omega
      obtain ⟨p0, z0, p1, z1, p2, z2, p3, z3, p4, z4⟩ := HA.out.all5
      go_upto_region 14 with (fail)
      clear p0 z0 p1 z1 p2 z2 p3 z3 p4 z4
      have hkp := (Kp.of (pb := W.heap.size) (Below.refl w2.heap.size w2)).set 4 (.int .i64 ((s.l : Int) + 1))
      have HA : Hid (Arr (w2.setCell ⟨W.heap.size, 4, none⟩ (.int .i64 ((s.l : Int) + 1))) 56 (W.heap.size) [.slice (some ⟨tb, 0, none⟩) ts.length c, .int .i64 (s.i : Nat), .int .i64 (k : Nat), .int .i64 (s.o : Nat), .int .i64 (s.l + 1 : Nat)]) := by
       have h := HA.out.set 4 (.int .i64 ((s.l : Int) + 1))
       rw [show ((s.l + 1 : Nat) : Int) = (s.l : Int) + 1 from by simp]
       exact h
      have HQ := hiD (hkp.arr HQ.out (by omega))
      have HR := hiD (hkp.arr HR.out (by omega))
      have HE := hiD (hkp.arr HE.out (by omega))
      have HT := hiD (HT.out.kp hkp (by first | omega | (have := HZ.out; omega)))
      have HB := hiD (HB.out.trans (hkp.below (B := W.heap.size) (by omega) HB.out.size))
      clear hkp
      generalize (w2.setCell ⟨W.heap.size, 4, none⟩ (.int .i64 ((s.l : Int) + 1))) = w3 at HA HQ HR HE HT HB ⊢
      obtain ⟨l1, hl1⟩ : ∃ l1, l1 = s.l + 1 := ⟨_, rfl⟩
      have HL1 := hiD hl1
      rw [← hl1] at HA
      clear hl1
      have HNM := hiD (rname_any (c := c) (k := k) (s := ⟨s.i, s.o, l1⟩) HO.out HT.out HH.out ⟨by have := HL32.out; have := HL1.out; show l1 ≤ 33; omega, fun a b => by have := HNL.out a b; have := HL1.out; show l1 ≤ 32; omega⟩)
      obtain ⟨p0, z0, p1, z1, p2, z2, p3, z3, p4, z4⟩ := HA.out.all5
      go_wp2_with fail
      refine HNM.out.mono ?_
      rintro r w4 ⟨i1, k1, x1, hg1, rfl, b4⟩
      have HG1 := hiD hg1
      clear p0 z0 p1 z1 p2 z2 p3 z3 p4 z4
      have HQ := hiD (HQ.out.later b4)
      have HR := hiD (HR.out.later b4)
      have HE := hiD (HE.out.later b4)
      have HT := hiD (HT.out.later b4)
      have HA := hiD (HA.out.later b4)
      have HB := hiD (HB.out.trans (b4.mono HB.out.size))
      clear hg1 b4 HNM
      obtain ⟨p0, z0, p1, z1, p2, z2, p3, z3, p4, z4⟩ := HA.out.all5
      obtain ⟨ea0, eb0, ea1, eb1, ea2, eb2, ea3, eb3⟩ := HE.out.all4
      go_upto_region 15 with (fail)
      clear p0 z0 p1 z1 p2 z2 p3 z3 p4 z4
      clear ea0 eb0 ea1 eb1 ea2 eb2 ea3 eb3
      have hkp := kp_setP w4 (W.heap.size) (.slice (some ⟨tb, 0, none⟩) ts.length c) (.int .i64 (i1 : Nat)) (.int .i64 (k1 : Nat)) (.int .i64 (s.o : Nat)) (.int .i64 (l1 : Nat))
      have HA := hiD (HA.out.setP (.slice (some ⟨tb, 0, none⟩) ts.length c) (.int .i64 (i1 : Nat)) (.int .i64 (k1 : Nat)) (.int .i64 (s.o : Nat)) (.int .i64 (l1 : Nat)))
      have HQ := hiD (hkp.arr HQ.out (by omega))
      have HR := hiD (hkp.arr HR.out (by omega))
      have HE := hiD (hkp.arr HE.out (by omega))
      have HT := hiD (HT.out.kp hkp (by first | omega | (have := HZ.out; omega)))
      have HB := hiD (HB.out.trans (hkp.below (B := W.heap.size) (Nat.le_refl _) HB.out.size))
      clear hkp
      generalize (((((w4.setCell ⟨W.heap.size, 0, none⟩ (.slice (some ⟨tb, 0, none⟩) ts.length c)).setCell ⟨W.heap.size, 1, none⟩ (.int .i64 (i1 : Nat))).setCell ⟨W.heap.size, 2, none⟩ (.int .i64 (k1 : Nat))).setCell ⟨W.heap.size, 3, none⟩ (.int .i64 (s.o : Nat))).setCell ⟨W.heap.size, 4, none⟩ (.int .i64 (l1 : Nat))) = w5 at HA HQ HR HE HT HB ⊢
      have hkp := (Kp.of (pb := W.heap.size + 1 + 1 + 1) (Below.refl w5.heap.size w5)).set 2 (.string (bstr x1))
      have HE : Hid (Arr (w5.setCell ⟨W.heap.size + 1 + 1 + 1, 2, none⟩ (.string (bstr x1))) 46 (W.heap.size + 1 + 1 + 1) [.int .i64 1, .string ⟨#[]⟩, .string (bstr x1), .slice none 0 0]) := HE.out.set 2 (.string (bstr x1))
      have HA := hiD (hkp.arr HA.out (by omega))
      have HQ := hiD (hkp.arr HQ.out (by omega))
      have HR := hiD (hkp.arr HR.out (by omega))
      have HT := hiD (HT.out.kp hkp (by first | omega | (have := HZ.out; omega)))
      have HB := hiD (HB.out.trans (hkp.below (B := W.heap.size) (by omega) HB.out.size))
      clear hkp
      generalize (w5.setCell ⟨W.heap.size + 1 + 1 + 1, 2, none⟩ (.string (bstr x1))) = w6 at HE HA HQ HR HT HB ⊢
      have HIS := hiD (ris_any (s := ⟨i1, s.o, l1⟩) (c := c) (k := k1) HO.out.1 HT.out HG1.out.1 ⟨#[45, 62]⟩ [45, 62] rfl (by decide))
      obtain ⟨d2, hd2⟩ : ∃ d, d = (decide (k1 = 0) && decide (txt ts i1 = [45, 62])) := ⟨_, rfl⟩
      have HD2 := hiD hd2
      rw [show (decide (k1 = 0) && decide (txt ts (⟨i1, s.o, l1⟩ : PS).i = [45, 62])) = d2 from hd2.symm] at HIS
      clear hd2
      obtain ⟨p0, z0, p1, z1, p2, z2, p3, z3, p4, z4⟩ := HA.out.all5
      go_wp2_with fail
      refine HIS.out.mono ?_
      rintro r w7 ⟨rfl, b7⟩
      clear p0 z0 p1 z1 p2 z2 p3 z3 p4 z4
      have HQ := hiD (HQ.out.later b7)
      have HR := hiD (HR.out.later b7)
      have HE := hiD (HE.out.later b7)
      have HT := hiD (HT.out.later b7)
      have HA := hiD (HA.out.later b7)
      have HB := hiD (HB.out.trans (b7.mono HB.out.size))
      clear b7 HIS
      cases d2 with
      | false =>
       have hd := HD2.out
       simp only [Bool.false_eq, Bool.and_eq_false_iff, decide_eq_false_iff_not] at hd
       have hd' : ¬ (k1 = 0 ∧ txt ts i1 = [45, 62]) := fun h => hd.elim (fun h1 => h1 h.1) (fun h2 => h2 h.2)
       have HGF : Hid (Go1 ts k1 i1 s.o l1 (.mk 1 [] x1 []) (st k s.i (unitW ts U s))) := by
        show Go1 _ _ _ _ _ _ _
        have h := HG1.out
        by_cases hk : k = 0
        ·rw [HL1.out] at h ⊢
         rw [st_0 hk] at h ⊢
         exact unit_leaf0 (HNP.out hk) (fun hn => HNL.out hk hn) h hd'
        ·rw [st_n hk] at h ⊢
         exact go1_stuck h
       have HVE : Hid (VE (W.heap.size + 4) (.mk 1 [] x1 []) w7 (.agg #[.int .i64 1, .string ⟨#[]⟩, .string (bstr x1), .slice none 0 0])) := VE.leaf _ _ 1 [] x1
       clear hd hd'
       obtain ⟨p0, z0, p1, z1, p2, z2, p3, z3, p4, z4⟩ := HA.out.all5
       obtain ⟨ea0, eb0, ea1, eb1, ea2, eb2, ea3, eb3⟩ := HE.out.all4
       go_upto_region 20 with (fail)
       clear p0 z0 p1 z1 p2 z2 p3 z3 p4 z4
       clear ea0 eb0 ea1 eb1 ea2 eb2 ea3 eb3
       have hb7 : Below w7.heap.size w7 w7.drew := (Below.refl _ _).drew
       have HA := hiD (HA.out.later hb7)
       have HQ := hiD (HQ.out.later hb7)
       have HR := hiD (HR.out.later hb7)
       have HE := hiD (HE.out.later hb7)
       have HB := hiD (HB.out.trans (hb7.mono HB.out.size))
       have HVE := hiD (HVE.out.later hb7)
       refine wp_region_held_drew (S := fun W' => Arr W' 56 (W.heap.size) [.slice (some ⟨tb, 0, none⟩) ts.length c, .int .i64 (i1 : Nat), .int .i64 (k1 : Nat), .int .i64 (s.o : Nat), .int .i64 (l1 : Nat)] ∧ Arr W' 46 (W.heap.size + 1 + 1 + 1) [.int .i64 1, .string ⟨#[]⟩, .string (bstr x1), .slice none 0 0]) (by kernel_rfl) ⟨HA.out, HE.out⟩ (fun hHeld => ?_)
       try simp only [Act.put]
       clear hb7
       generalize w7.drew = wa at hHeld HA HQ HR HE HB HVE ⊢
       refine wpAnyH_take (i := 0) (oi := ⟨some 92, _, _, _, _, _⟩) (v := .agg #[.slice (some ⟨tb, 0, none⟩) ts.length c, .int .i64 (i1 : Nat), .int .i64 (k1 : Nat), .int .i64 (s.o : Nat), .int .i64 (l1 : Nat)]) rfl (by kernel_rfl) (by kernel_rfl) (by kernel_rfl) (fun _ _ _ h => h) (.inl ⟨by rfl, fun w' hSw => ?_⟩) hHeld ?_
       focus (obtain ⟨q0, _, q1, _, q2, _, q3, _, q4, _⟩ := hSw.1.all5; clear hHeld; go_simp)
       try simp only [Act.put, pz0, pz1, pz2]
       refine wpAnyH_take (i := 1) (oi := ⟨some 93, _, _, _, _, _⟩) (v := .agg #[.int .i64 1, .string ⟨#[]⟩, .string (bstr x1), .slice none 0 0]) rfl (by kernel_rfl) (by kernel_rfl) (by kernel_rfl) (fun _ _ _ h => h) (.inl ⟨by rfl, fun w' hSw => ?_⟩) hHeld ?_
       focus (obtain ⟨q0, _, q1, _, q2, _, q3, _⟩ := hSw.2.all4; clear hHeld; go_simp)
       try simp only [Act.put, pz0, pz1, pz2]
       refine wpAnyH_ready (rs := [2]) (by kernel_rfl) (by simp) ?_
       refine AllReadyH.cons (o := ⟨none, _, _, _, _, _⟩) rfl (fun K' hK' => ?_) AllReadyH.nil
       obtain ⟨u0, v0, u1, v1, u2, v2, u3, v3, u4, v4⟩ := HQ.out.all5
       have hkn := And.intro (hHeld.1.off5 (b := W.heap.size + 1) (by simp only [ne_eq]; omega) (.slice (some ⟨tb, 0, none⟩) ts.length c) (.int .i64 (i1 : Nat)) (.int .i64 (k1 : Nat)) (.int .i64 (s.o : Nat)) (.int .i64 (l1 : Nat))) (hHeld.2.off5 (b := W.heap.size + 1) (by simp only [ne_eq]; omega) (.slice (some ⟨tb, 0, none⟩) ts.length c) (.int .i64 (i1 : Nat)) (.int .i64 (k1 : Nat)) (.int .i64 (s.o : Nat)) (.int .i64 (l1 : Nat)))
       clear hHeld
       go_simp
       clear u0 v0 u1 v1 u2 v2 u3 v3 u4 v4
       refine hK'.out _ _ hkn (fun hHeld => ?_)
       clear hK' K' hkn
       try simp only [Act.put, pz0, pz1, pz2]
       have hkp := kp_setP wa (W.heap.size + 1) (.slice (some ⟨tb, 0, none⟩) ts.length c) (.int .i64 (i1 : Nat)) (.int .i64 (k1 : Nat)) (.int .i64 (s.o : Nat)) (.int .i64 (l1 : Nat))
       have HQ := hiD (HQ.out.setP (.slice (some ⟨tb, 0, none⟩) ts.length c) (.int .i64 (i1 : Nat)) (.int .i64 (k1 : Nat)) (.int .i64 (s.o : Nat)) (.int .i64 (l1 : Nat)))
       have HR := hiD (hkp.arr HR.out (by omega))
       have HVE := hiD (HVE.out.kp hkp (by omega))
       have HB := hiD (HB.out.trans (hkp.below (B := W.heap.size) (by omega) HB.out.size))
       clear hkp
       generalize (((((wa.setCell ⟨W.heap.size + 1, 0, none⟩ (.slice (some ⟨tb, 0, none⟩) ts.length c)).setCell ⟨W.heap.size + 1, 1, none⟩ (.int .i64 (i1 : Nat))).setCell ⟨W.heap.size + 1, 2, none⟩ (.int .i64 (k1 : Nat))).setCell ⟨W.heap.size + 1, 3, none⟩ (.int .i64 (s.o : Nat))).setCell ⟨W.heap.size + 1, 4, none⟩ (.int .i64 (l1 : Nat))) = wb at hHeld HQ HR HB HVE ⊢
       refine wpAnyH_ready (rs := [3]) (by kernel_rfl) (by simp) ?_
       refine AllReadyH.cons (o := ⟨none, _, _, _, _, _⟩) rfl (fun K' hK' => ?_) AllReadyH.nil
       obtain ⟨u0, v0, u1, v1, u2, v2, u3, v3⟩ := HR.out.all4
       have hkn := And.intro (hHeld.1.off4 (b := W.heap.size + 1 + 1) (by simp only [ne_eq]; omega) (.int .i64 1) (.string ⟨#[]⟩) (.string (bstr x1)) (.slice none 0 0)) (hHeld.2.off4 (b := W.heap.size + 1 + 1) (by simp only [ne_eq]; omega) (.int .i64 1) (.string ⟨#[]⟩) (.string (bstr x1)) (.slice none 0 0))
       clear hHeld
       go_simp
       clear u0 v0 u1 v1 u2 v2 u3 v3
       refine hK'.out _ _ hkn (fun hHeld => ?_)
       clear hK' K' hkn
       try simp only [Act.put, pz0, pz1, pz2]
       have hkp := kp_set4 wb (W.heap.size + 1 + 1) (.int .i64 1) (.string ⟨#[]⟩) (.string (bstr x1)) (.slice none 0 0)
       have HR := hiD (HR.out.set4 (.int .i64 1) (.string ⟨#[]⟩) (.string (bstr x1)) (.slice none 0 0))
       have HQ := hiD (hkp.arr HQ.out (by omega))
       have HVE := hiD (HVE.out.kp hkp (by omega))
       have HB := hiD (HB.out.trans (hkp.below (B := W.heap.size) (by omega) HB.out.size))
       clear hkp
       generalize ((((wb.setCell ⟨W.heap.size + 1 + 1, 0, none⟩ (.int .i64 1)).setCell ⟨W.heap.size + 1 + 1, 1, none⟩ (.string ⟨#[]⟩)).setCell ⟨W.heap.size + 1 + 1, 2, none⟩ (.string (bstr x1))).setCell ⟨W.heap.size + 1 + 1, 3, none⟩ (.slice none 0 0)) = wc at hHeld HQ HR HB HVE ⊢
       refine wpAnyH_done (by kernel_rfl) ?_ _
       go_wp2_with fail
       clear hHeld
       have c0 := HQ.out.cell 0
       have c1 := HQ.out.cell 1
       have c2 := HQ.out.cell 2
       have c3 := HQ.out.cell 3
       have c4 := HQ.out.cell 4
       have d0 := HR.out.cell 0
       have d1 := HR.out.cell 1
       have d2 := HR.out.cell 2
       have d3 := HR.out.cell 3
       simp only [List.getElem?_cons_zero, List.getElem?_cons_succ] at c0 c1 c2 c3 c4 d0 d1 d2 d3
       refine bodyPost_ret (v := .tuple #[.agg #[.slice (some ⟨tb, 0, none⟩) ts.length c, .int .i64 (i1 : Nat), .int .i64 (k1 : Nat), .int .i64 (s.o : Nat), .int .i64 (l1 : Nat)], .agg #[.int .i64 1, .string ⟨#[]⟩, .string (bstr x1), .slice none 0 0]]) ?_ rfl ⟨i1, k1, l1, _, _, HGF.out, rfl, HVE.out.low (by omega), HB.out⟩
       simp [results, Tryz.results54, go_sem, c0, c1, c2, c3, c4, d0, d1, d2, d3]
      | true =>
       have hd := HD2.out
       simp only [Bool.true_eq, Bool.and_eq_true, decide_eq_true_eq] at hd
       have HK1 := hiD hd.1
       have HT1 := hiD hd.2
       have HS1 : Hid (i1 + 1 < ts.length) := HO.out.1.step (by rw [hd.2]; decide)
       clear hd
       have hzi0 : (0 : Int) ≤ i1 := by omega
       have hzi1 : (i1 : Int) ≤ 100000 := by have := HG1.out.1; have := HT.out.2.1; omega
       obtain ⟨ea0, eb0, ea1, eb1, ea2, eb2, ea3, eb3⟩ := HE.out.all4
       go_upto_region 17 with (fail)
       clear ea0 eb0 ea1 eb1 ea2 eb2 ea3 eb3
       have hkp := (Kp.of (pb := W.heap.size + 1 + 1 + 1) (Below.refl w7.heap.size w7)).set 0 (.int .i64 2)
       have HE : Hid (Arr (w7.setCell ⟨W.heap.size + 1 + 1 + 1, 0, none⟩ (.int .i64 2)) 46 (W.heap.size + 1 + 1 + 1) [.int .i64 2, .string ⟨#[]⟩, .string (bstr x1), .slice none 0 0]) := HE.out.set 0 (.int .i64 2)
       have HA := hiD (hkp.arr HA.out (by omega))
       have HQ := hiD (hkp.arr HQ.out (by omega))
       have HR := hiD (hkp.arr HR.out (by omega))
       have HT := hiD (HT.out.kp hkp (by first | omega | (have := HZ.out; omega)))
       have HB := hiD (HB.out.trans (hkp.below (B := W.heap.size) (by omega) HB.out.size))
       clear hkp
       generalize (w7.setCell ⟨W.heap.size + 1 + 1 + 1, 0, none⟩ (.int .i64 2)) = w8 at HE HA HQ HR HT HB ⊢
       obtain ⟨ea0, eb0, ea1, eb1, ea2, eb2, ea3, eb3⟩ := HE.out.all4
       go_upto_region 18 with (fail)
       clear ea0 eb0 ea1 eb1 ea2 eb2 ea3 eb3
       have hkp := (Kp.of (pb := W.heap.size + 1 + 1 + 1) (Below.refl w8.heap.size w8)).set 1 (.string (bstr x1))
       have HE : Hid (Arr (w8.setCell ⟨W.heap.size + 1 + 1 + 1, 1, none⟩ (.string (bstr x1))) 46 (W.heap.size + 1 + 1 + 1) [.int .i64 2, .string (bstr x1), .string (bstr x1), .slice none 0 0]) := HE.out.set 1 (.string (bstr x1))
       have HA := hiD (hkp.arr HA.out (by omega))
       have HQ := hiD (hkp.arr HQ.out (by omega))
       have HR := hiD (hkp.arr HR.out (by omega))
       have HT := hiD (HT.out.kp hkp (by first | omega | (have := HZ.out; omega)))
       have HB := hiD (HB.out.trans (hkp.below (B := W.heap.size) (by omega) HB.out.size))
       clear hkp
       generalize (w8.setCell ⟨W.heap.size + 1 + 1 + 1, 1, none⟩ (.string (bstr x1))) = w9 at HE HA HQ HR HT HB ⊢
       obtain ⟨p0, z0, p1, z1, p2, z2, p3, z3, p4, z4⟩ := HA.out.all5
       go_upto_region 19 with (fail)
       clear p0 z0 p1 z1 p2 z2 p3 z3 p4 z4
       have hkp := (Kp.of (pb := W.heap.size) (Below.refl w9.heap.size w9)).set 1 (.int .i64 ((i1 : Int) + 1))
       have HA : Hid (Arr (w9.setCell ⟨W.heap.size, 1, none⟩ (.int .i64 ((i1 : Int) + 1))) 56 (W.heap.size) [.slice (some ⟨tb, 0, none⟩) ts.length c, .int .i64 (i1 + 1 : Nat), .int .i64 (k1 : Nat), .int .i64 (s.o : Nat), .int .i64 (l1 : Nat)]) := by
        have h := HA.out.set 1 (.int .i64 ((i1 : Int) + 1))
        rw [show ((i1 + 1 : Nat) : Int) = (i1 : Int) + 1 from by simp]
        exact h
       have HQ := hiD (hkp.arr HQ.out (by omega))
       have HR := hiD (hkp.arr HR.out (by omega))
       have HE := hiD (hkp.arr HE.out (by omega))
       have HT := hiD (HT.out.kp hkp (by first | omega | (have := HZ.out; omega)))
       have HB := hiD (HB.out.trans (hkp.below (B := W.heap.size) (by omega) HB.out.size))
       clear hkp
       generalize (w9.setCell ⟨W.heap.size, 1, none⟩ (.int .i64 ((i1 : Int) + 1))) = w10 at HA HQ HR HE HT HB ⊢
       have HNM := hiD (rname_any (c := c) (k := k1) (s := ⟨i1 + 1, s.o, l1⟩) HO.out HT.out HS1.out ⟨HG1.out.2.1.1, fun a _ => HG1.out.2.1.2 a⟩)
       obtain ⟨p0, z0, p1, z1, p2, z2, p3, z3, p4, z4⟩ := HA.out.all5
       go_wp2_with fail
       refine HNM.out.mono ?_
       rintro r w11 ⟨i2, k2, x2, hg2, rfl, b11⟩
       have HGF : Hid (Go1 ts k2 i2 s.o l1 (.mk 2 x1 x2 []) (st k s.i (unitW ts U s))) := by
        show Go1 _ _ _ _ _ _ _
        have h := HG1.out
        by_cases hk : k = 0
        ·have h2 := hg2
         rw [HL1.out] at h h2 ⊢
         rw [st_0 hk] at h ⊢
         exact unit_leaf1 (HNP.out hk) (fun hn => HNL.out hk hn) h HK1.out HT1.out h2
        ·rw [st_n hk] at h
         obtain ⟨_, _, ⟨_, h3⟩ | ⟨h3, _⟩⟩ := h
         ·cases h3
         ·exact absurd HK1.out h3
       clear p0 z0 p1 z1 p2 z2 p3 z3 p4 z4
       have HQ := hiD (HQ.out.later b11)
       have HR := hiD (HR.out.later b11)
       have HE := hiD (HE.out.later b11)
       have HT := hiD (HT.out.later b11)
       have HA := hiD (HA.out.later b11)
       have HB := hiD (HB.out.trans (b11.mono HB.out.size))
       clear hg2 b11 HNM
       obtain ⟨p0, z0, p1, z1, p2, z2, p3, z3, p4, z4⟩ := HA.out.all5
       obtain ⟨ea0, eb0, ea1, eb1, ea2, eb2, ea3, eb3⟩ := HE.out.all4
       go_upto_region 20 with (fail)
       clear p0 z0 p1 z1 p2 z2 p3 z3 p4 z4
       clear ea0 eb0 ea1 eb1 ea2 eb2 ea3 eb3
       have hkp := kp_setP w11 (W.heap.size) (.slice (some ⟨tb, 0, none⟩) ts.length c) (.int .i64 (i2 : Nat)) (.int .i64 (k2 : Nat)) (.int .i64 (s.o : Nat)) (.int .i64 (l1 : Nat))
       have HA := hiD (HA.out.setP (.slice (some ⟨tb, 0, none⟩) ts.length c) (.int .i64 (i2 : Nat)) (.int .i64 (k2 : Nat)) (.int .i64 (s.o : Nat)) (.int .i64 (l1 : Nat)))
       have HQ := hiD (hkp.arr HQ.out (by omega))
       have HR := hiD (hkp.arr HR.out (by omega))
       have HE := hiD (hkp.arr HE.out (by omega))
       have HT := hiD (HT.out.kp hkp (by first | omega | (have := HZ.out; omega)))
       have HB := hiD (HB.out.trans (hkp.below (B := W.heap.size) (Nat.le_refl _) HB.out.size))
       clear hkp
       generalize (((((w11.setCell ⟨W.heap.size, 0, none⟩ (.slice (some ⟨tb, 0, none⟩) ts.length c)).setCell ⟨W.heap.size, 1, none⟩ (.int .i64 (i2 : Nat))).setCell ⟨W.heap.size, 2, none⟩ (.int .i64 (k2 : Nat))).setCell ⟨W.heap.size, 3, none⟩ (.int .i64 (s.o : Nat))).setCell ⟨W.heap.size, 4, none⟩ (.int .i64 (l1 : Nat))) = w12 at HA HQ HR HE HT HB ⊢
       have hkp := (Kp.of (pb := W.heap.size + 1 + 1 + 1) (Below.refl w12.heap.size w12)).set 2 (.string (bstr x2))
       have HE : Hid (Arr (w12.setCell ⟨W.heap.size + 1 + 1 + 1, 2, none⟩ (.string (bstr x2))) 46 (W.heap.size + 1 + 1 + 1) [.int .i64 2, .string (bstr x1), .string (bstr x2), .slice none 0 0]) := HE.out.set 2 (.string (bstr x2))
       have HA := hiD (hkp.arr HA.out (by omega))
       have HQ := hiD (hkp.arr HQ.out (by omega))
       have HR := hiD (hkp.arr HR.out (by omega))
       have HT := hiD (HT.out.kp hkp (by first | omega | (have := HZ.out; omega)))
       have HB := hiD (HB.out.trans (hkp.below (B := W.heap.size) (by omega) HB.out.size))
       clear hkp
       generalize (w12.setCell ⟨W.heap.size + 1 + 1 + 1, 2, none⟩ (.string (bstr x2))) = w13 at HE HA HQ HR HT HB ⊢
       have HVE : Hid (VE (W.heap.size + 4) (.mk 2 x1 x2 []) w13 (.agg #[.int .i64 2, .string (bstr x1), .string (bstr x2), .slice none 0 0])) := VE.leaf _ _ 2 x1 x2
       have hb7 : Below w13.heap.size w13 w13.drew := (Below.refl _ _).drew
       have HA := hiD (HA.out.later hb7)
       have HQ := hiD (HQ.out.later hb7)
       have HR := hiD (HR.out.later hb7)
       have HE := hiD (HE.out.later hb7)
       have HB := hiD (HB.out.trans (hb7.mono HB.out.size))
       have HVE := hiD (HVE.out.later hb7)
       refine wp_region_held_drew (S := fun W' => Arr W' 56 (W.heap.size) [.slice (some ⟨tb, 0, none⟩) ts.length c, .int .i64 (i2 : Nat), .int .i64 (k2 : Nat), .int .i64 (s.o : Nat), .int .i64 (l1 : Nat)] ∧ Arr W' 46 (W.heap.size + 1 + 1 + 1) [.int .i64 2, .string (bstr x1), .string (bstr x2), .slice none 0 0]) (by kernel_rfl) ⟨HA.out, HE.out⟩ (fun hHeld => ?_)
       try simp only [Act.put]
       clear hb7
       generalize w13.drew = wa at hHeld HA HQ HR HE HB HVE ⊢
       refine wpAnyH_take (i := 0) (oi := ⟨some 92, _, _, _, _, _⟩) (v := .agg #[.slice (some ⟨tb, 0, none⟩) ts.length c, .int .i64 (i2 : Nat), .int .i64 (k2 : Nat), .int .i64 (s.o : Nat), .int .i64 (l1 : Nat)]) rfl (by kernel_rfl) (by kernel_rfl) (by kernel_rfl) (fun _ _ _ h => h) (.inl ⟨by rfl, fun w' hSw => ?_⟩) hHeld ?_
       focus (obtain ⟨q0, _, q1, _, q2, _, q3, _, q4, _⟩ := hSw.1.all5; clear hHeld; go_simp)
       try simp only [Act.put, pz0, pz1, pz2]
       refine wpAnyH_take (i := 1) (oi := ⟨some 93, _, _, _, _, _⟩) (v := .agg #[.int .i64 2, .string (bstr x1), .string (bstr x2), .slice none 0 0]) rfl (by kernel_rfl) (by kernel_rfl) (by kernel_rfl) (fun _ _ _ h => h) (.inl ⟨by rfl, fun w' hSw => ?_⟩) hHeld ?_
       focus (obtain ⟨q0, _, q1, _, q2, _, q3, _⟩ := hSw.2.all4; clear hHeld; go_simp)
       try simp only [Act.put, pz0, pz1, pz2]
       refine wpAnyH_ready (rs := [2]) (by kernel_rfl) (by simp) ?_
       refine AllReadyH.cons (o := ⟨none, _, _, _, _, _⟩) rfl (fun K' hK' => ?_) AllReadyH.nil
       obtain ⟨u0, v0, u1, v1, u2, v2, u3, v3, u4, v4⟩ := HQ.out.all5
       have hkn := And.intro (hHeld.1.off5 (b := W.heap.size + 1) (by simp only [ne_eq]; omega) (.slice (some ⟨tb, 0, none⟩) ts.length c) (.int .i64 (i2 : Nat)) (.int .i64 (k2 : Nat)) (.int .i64 (s.o : Nat)) (.int .i64 (l1 : Nat))) (hHeld.2.off5 (b := W.heap.size + 1) (by simp only [ne_eq]; omega) (.slice (some ⟨tb, 0, none⟩) ts.length c) (.int .i64 (i2 : Nat)) (.int .i64 (k2 : Nat)) (.int .i64 (s.o : Nat)) (.int .i64 (l1 : Nat)))
       clear hHeld
       go_simp
       clear u0 v0 u1 v1 u2 v2 u3 v3 u4 v4
       refine hK'.out _ _ hkn (fun hHeld => ?_)
       clear hK' K' hkn
       try simp only [Act.put, pz0, pz1, pz2]
       have hkp := kp_setP wa (W.heap.size + 1) (.slice (some ⟨tb, 0, none⟩) ts.length c) (.int .i64 (i2 : Nat)) (.int .i64 (k2 : Nat)) (.int .i64 (s.o : Nat)) (.int .i64 (l1 : Nat))
       have HQ := hiD (HQ.out.setP (.slice (some ⟨tb, 0, none⟩) ts.length c) (.int .i64 (i2 : Nat)) (.int .i64 (k2 : Nat)) (.int .i64 (s.o : Nat)) (.int .i64 (l1 : Nat)))
       have HR := hiD (hkp.arr HR.out (by omega))
       have HVE := hiD (HVE.out.kp hkp (by omega))
       have HB := hiD (HB.out.trans (hkp.below (B := W.heap.size) (by omega) HB.out.size))
       clear hkp
       generalize (((((wa.setCell ⟨W.heap.size + 1, 0, none⟩ (.slice (some ⟨tb, 0, none⟩) ts.length c)).setCell ⟨W.heap.size + 1, 1, none⟩ (.int .i64 (i2 : Nat))).setCell ⟨W.heap.size + 1, 2, none⟩ (.int .i64 (k2 : Nat))).setCell ⟨W.heap.size + 1, 3, none⟩ (.int .i64 (s.o : Nat))).setCell ⟨W.heap.size + 1, 4, none⟩ (.int .i64 (l1 : Nat))) = wb at hHeld HQ HR HB HVE ⊢
       refine wpAnyH_ready (rs := [3]) (by kernel_rfl) (by simp) ?_
       refine AllReadyH.cons (o := ⟨none, _, _, _, _, _⟩) rfl (fun K' hK' => ?_) AllReadyH.nil
       obtain ⟨u0, v0, u1, v1, u2, v2, u3, v3⟩ := HR.out.all4
       have hkn := And.intro (hHeld.1.off4 (b := W.heap.size + 1 + 1) (by simp only [ne_eq]; omega) (.int .i64 2) (.string (bstr x1)) (.string (bstr x2)) (.slice none 0 0)) (hHeld.2.off4 (b := W.heap.size + 1 + 1) (by simp only [ne_eq]; omega) (.int .i64 2) (.string (bstr x1)) (.string (bstr x2)) (.slice none 0 0))
       clear hHeld
       go_simp
       clear u0 v0 u1 v1 u2 v2 u3 v3
       refine hK'.out _ _ hkn (fun hHeld => ?_)
       clear hK' K' hkn
       try simp only [Act.put, pz0, pz1, pz2]
       have hkp := kp_set4 wb (W.heap.size + 1 + 1) (.int .i64 2) (.string (bstr x1)) (.string (bstr x2)) (.slice none 0 0)
       have HR := hiD (HR.out.set4 (.int .i64 2) (.string (bstr x1)) (.string (bstr x2)) (.slice none 0 0))
       have HQ := hiD (hkp.arr HQ.out (by omega))
       have HVE := hiD (HVE.out.kp hkp (by omega))
       have HB := hiD (HB.out.trans (hkp.below (B := W.heap.size) (by omega) HB.out.size))
       clear hkp
       generalize ((((wb.setCell ⟨W.heap.size + 1 + 1, 0, none⟩ (.int .i64 2)).setCell ⟨W.heap.size + 1 + 1, 1, none⟩ (.string (bstr x1))).setCell ⟨W.heap.size + 1 + 1, 2, none⟩ (.string (bstr x2))).setCell ⟨W.heap.size + 1 + 1, 3, none⟩ (.slice none 0 0)) = wc at hHeld HQ HR HB HVE ⊢
       refine wpAnyH_done (by kernel_rfl) ?_ _
       go_wp2_with fail
       clear hHeld
       have c0 := HQ.out.cell 0
       have c1 := HQ.out.cell 1
       have c2 := HQ.out.cell 2
       have c3 := HQ.out.cell 3
       have c4 := HQ.out.cell 4
       have d0 := HR.out.cell 0
       have d1 := HR.out.cell 1
       have d2 := HR.out.cell 2
       have d3 := HR.out.cell 3
       simp only [List.getElem?_cons_zero, List.getElem?_cons_succ] at c0 c1 c2 c3 c4 d0 d1 d2 d3
       refine bodyPost_ret (v := .tuple #[.agg #[.slice (some ⟨tb, 0, none⟩) ts.length c, .int .i64 (i2 : Nat), .int .i64 (k2 : Nat), .int .i64 (s.o : Nat), .int .i64 (l1 : Nat)], .agg #[.int .i64 2, .string (bstr x1), .string (bstr x2), .slice none 0 0]]) ?_ rfl ⟨i2, k2, l1, _, _, HGF.out, rfl, HVE.out.low (by omega), HB.out⟩
       simp [results, Tryz.results54, go_sem, c0, c1, c2, c3, c4, d0, d1, d2, d3]
    ·have h1' : (kd == 1) = false := beq_eq_false_iff_ne.2 h1
     have HNL : Hid (k = 0 → isName (bstr (txt ts s.i)) = true → s.l < 32) := fun _ hn => absurd (HKD.out.trans (HO.out.1.nameKind HH.out hn)) h1
     clear h1
     obtain ⟨p0, z0, p1, z1, p2, z2, p3, z3, p4, z4⟩ := HA.out.all5
     go_upto_region 13 with (fail)
     clear p0 z0 p1 z1 p2 z2 p3 z3 p4 z4
     clear t0 t1 h1' hl5 hk5
     have hzl0 : (0 : Int) ≤ s.l := by omega
     have hzl1 : (s.l : Int) ≤ 100 := by have := HL.out.1; omega
     obtain ⟨p0, z0, p1, z1, p2, z2, p3, z3, p4, z4⟩ := HA.out.all5
     go_upto_region 14 with (fail)
     clear p0 z0 p1 z1 p2 z2 p3 z3 p4 z4
     have hkp := (Kp.of (pb := W.heap.size) (Below.refl w2.heap.size w2)).set 4 (.int .i64 ((s.l : Int) + 1))
     have HA : Hid (Arr (w2.setCell ⟨W.heap.size, 4, none⟩ (.int .i64 ((s.l : Int) + 1))) 56 (W.heap.size) [.slice (some ⟨tb, 0, none⟩) ts.length c, .int .i64 (s.i : Nat), .int .i64 (k : Nat), .int .i64 (s.o : Nat), .int .i64 (s.l + 1 : Nat)]) := by
      have h := HA.out.set 4 (.int .i64 ((s.l : Int) + 1))
      rw [show ((s.l + 1 : Nat) : Int) = (s.l : Int) + 1 from by simp]
      exact h
     have HQ := hiD (hkp.arr HQ.out (by omega))
     have HR := hiD (hkp.arr HR.out (by omega))
     have HE := hiD (hkp.arr HE.out (by omega))
     have HT := hiD (HT.out.kp hkp (by first | omega | (have := HZ.out; omega)))
     have HB := hiD (HB.out.trans (hkp.below (B := W.heap.size) (by omega) HB.out.size))
     clear hkp
     generalize (w2.setCell ⟨W.heap.size, 4, none⟩ (.int .i64 ((s.l : Int) + 1))) = w3 at HA HQ HR HE HT HB ⊢
     obtain ⟨l1, hl1⟩ : ∃ l1, l1 = s.l + 1 := ⟨_, rfl⟩
     have HL1 := hiD hl1
     rw [← hl1] at HA
     clear hl1
     have HNM := hiD (rname_any (c := c) (k := k) (s := ⟨s.i, s.o, l1⟩) HO.out HT.out HH.out ⟨by have := HL32.out; have := HL1.out; show l1 ≤ 33; omega, fun a b => by have := HNL.out a b; have := HL1.out; show l1 ≤ 32; omega⟩)
     obtain ⟨p0, z0, p1, z1, p2, z2, p3, z3, p4, z4⟩ := HA.out.all5
     go_wp2_with fail
     refine HNM.out.mono ?_
     rintro r w4 ⟨i1, k1, x1, hg1, rfl, b4⟩
     have HG1 := hiD hg1
     clear p0 z0 p1 z1 p2 z2 p3 z3 p4 z4
     have HQ := hiD (HQ.out.later b4)
     have HR := hiD (HR.out.later b4)
     have HE := hiD (HE.out.later b4)
     have HT := hiD (HT.out.later b4)
     have HA := hiD (HA.out.later b4)
     have HB := hiD (HB.out.trans (b4.mono HB.out.size))
     clear hg1 b4 HNM
     obtain ⟨p0, z0, p1, z1, p2, z2, p3, z3, p4, z4⟩ := HA.out.all5
     obtain ⟨ea0, eb0, ea1, eb1, ea2, eb2, ea3, eb3⟩ := HE.out.all4
     go_upto_region 15 with (fail)
     clear p0 z0 p1 z1 p2 z2 p3 z3 p4 z4
     clear ea0 eb0 ea1 eb1 ea2 eb2 ea3 eb3
     have hkp := kp_setP w4 (W.heap.size) (.slice (some ⟨tb, 0, none⟩) ts.length c) (.int .i64 (i1 : Nat)) (.int .i64 (k1 : Nat)) (.int .i64 (s.o : Nat)) (.int .i64 (l1 : Nat))
     have HA := hiD (HA.out.setP (.slice (some ⟨tb, 0, none⟩) ts.length c) (.int .i64 (i1 : Nat)) (.int .i64 (k1 : Nat)) (.int .i64 (s.o : Nat)) (.int .i64 (l1 : Nat)))
     have HQ := hiD (hkp.arr HQ.out (by omega))
     have HR := hiD (hkp.arr HR.out (by omega))
     have HE := hiD (hkp.arr HE.out (by omega))
     have HT := hiD (HT.out.kp hkp (by first | omega | (have := HZ.out; omega)))
     have HB := hiD (HB.out.trans (hkp.below (B := W.heap.size) (Nat.le_refl _) HB.out.size))
     clear hkp
     generalize (((((w4.setCell ⟨W.heap.size, 0, none⟩ (.slice (some ⟨tb, 0, none⟩) ts.length c)).setCell ⟨W.heap.size, 1, none⟩ (.int .i64 (i1 : Nat))).setCell ⟨W.heap.size, 2, none⟩ (.int .i64 (k1 : Nat))).setCell ⟨W.heap.size, 3, none⟩ (.int .i64 (s.o : Nat))).setCell ⟨W.heap.size, 4, none⟩ (.int .i64 (l1 : Nat))) = w5 at HA HQ HR HE HT HB ⊢
     have hkp := (Kp.of (pb := W.heap.size + 1 + 1 + 1) (Below.refl w5.heap.size w5)).set 2 (.string (bstr x1))
     have HE : Hid (Arr (w5.setCell ⟨W.heap.size + 1 + 1 + 1, 2, none⟩ (.string (bstr x1))) 46 (W.heap.size + 1 + 1 + 1) [.int .i64 1, .string ⟨#[]⟩, .string (bstr x1), .slice none 0 0]) := HE.out.set 2 (.string (bstr x1))
     have HA := hiD (hkp.arr HA.out (by omega))
     have HQ := hiD (hkp.arr HQ.out (by omega))
     have HR := hiD (hkp.arr HR.out (by omega))
     have HT := hiD (HT.out.kp hkp (by first | omega | (have := HZ.out; omega)))
     have HB := hiD (HB.out.trans (hkp.below (B := W.heap.size) (by omega) HB.out.size))
     clear hkp
     generalize (w5.setCell ⟨W.heap.size + 1 + 1 + 1, 2, none⟩ (.string (bstr x1))) = w6 at HE HA HQ HR HT HB ⊢
     have HIS := hiD (ris_any (s := ⟨i1, s.o, l1⟩) (c := c) (k := k1) HO.out.1 HT.out HG1.out.1 ⟨#[45, 62]⟩ [45, 62] rfl (by decide))
     obtain ⟨d2, hd2⟩ : ∃ d, d = (decide (k1 = 0) && decide (txt ts i1 = [45, 62])) := ⟨_, rfl⟩
     have HD2 := hiD hd2
     rw [show (decide (k1 = 0) && decide (txt ts (⟨i1, s.o, l1⟩ : PS).i = [45, 62])) = d2 from hd2.symm] at HIS
     clear hd2
     obtain ⟨p0, z0, p1, z1, p2, z2, p3, z3, p4, z4⟩ := HA.out.all5
     go_wp2_with fail
     refine HIS.out.mono ?_
     rintro r w7 ⟨rfl, b7⟩
     clear p0 z0 p1 z1 p2 z2 p3 z3 p4 z4
     have HQ := hiD (HQ.out.later b7)
     have HR := hiD (HR.out.later b7)
     have HE := hiD (HE.out.later b7)
     have HT := hiD (HT.out.later b7)
     have HA := hiD (HA.out.later b7)
     have HB := hiD (HB.out.trans (b7.mono HB.out.size))
     clear b7 HIS
     cases d2 with
     | false =>
      have hd := HD2.out
      simp only [Bool.false_eq, Bool.and_eq_false_iff, decide_eq_false_iff_not] at hd
      have hd' : ¬ (k1 = 0 ∧ txt ts i1 = [45, 62]) := fun h => hd.elim (fun h1 => h1 h.1) (fun h2 => h2 h.2)
      have HGF : Hid (Go1 ts k1 i1 s.o l1 (.mk 1 [] x1 []) (st k s.i (unitW ts U s))) := by
       show Go1 _ _ _ _ _ _ _
       have h := HG1.out
       by_cases hk : k = 0
       ·rw [HL1.out] at h ⊢
        rw [st_0 hk] at h ⊢
        exact unit_leaf0 (HNP.out hk) (fun hn => HNL.out hk hn) h hd'
       ·rw [st_n hk] at h ⊢
        exact go1_stuck h
      have HVE : Hid (VE (W.heap.size + 4) (.mk 1 [] x1 []) w7 (.agg #[.int .i64 1, .string ⟨#[]⟩, .string (bstr x1), .slice none 0 0])) := VE.leaf _ _ 1 [] x1
      clear hd hd'
      obtain ⟨p0, z0, p1, z1, p2, z2, p3, z3, p4, z4⟩ := HA.out.all5
      obtain ⟨ea0, eb0, ea1, eb1, ea2, eb2, ea3, eb3⟩ := HE.out.all4
      go_upto_region 20 with (fail)
      clear p0 z0 p1 z1 p2 z2 p3 z3 p4 z4
      clear ea0 eb0 ea1 eb1 ea2 eb2 ea3 eb3
      have hb7 : Below w7.heap.size w7 w7.drew := (Below.refl _ _).drew
      have HA := hiD (HA.out.later hb7)
      have HQ := hiD (HQ.out.later hb7)
      have HR := hiD (HR.out.later hb7)
      have HE := hiD (HE.out.later hb7)
      have HB := hiD (HB.out.trans (hb7.mono HB.out.size))
      have HVE := hiD (HVE.out.later hb7)
      refine wp_region_held_drew (S := fun W' => Arr W' 56 (W.heap.size) [.slice (some ⟨tb, 0, none⟩) ts.length c, .int .i64 (i1 : Nat), .int .i64 (k1 : Nat), .int .i64 (s.o : Nat), .int .i64 (l1 : Nat)] ∧ Arr W' 46 (W.heap.size + 1 + 1 + 1) [.int .i64 1, .string ⟨#[]⟩, .string (bstr x1), .slice none 0 0]) (by kernel_rfl) ⟨HA.out, HE.out⟩ (fun hHeld => ?_)
      try simp only [Act.put]
      clear hb7
      generalize w7.drew = wa at hHeld HA HQ HR HE HB HVE ⊢
      refine wpAnyH_take (i := 0) (oi := ⟨some 92, _, _, _, _, _⟩) (v := .agg #[.slice (some ⟨tb, 0, none⟩) ts.length c, .int .i64 (i1 : Nat), .int .i64 (k1 : Nat), .int .i64 (s.o : Nat), .int .i64 (l1 : Nat)]) rfl (by kernel_rfl) (by kernel_rfl) (by kernel_rfl) (fun _ _ _ h => h) (.inl ⟨by rfl, fun w' hSw => ?_⟩) hHeld ?_
      focus (obtain ⟨q0, _, q1, _, q2, _, q3, _, q4, _⟩ := hSw.1.all5; clear hHeld; go_simp)
      try simp only [Act.put, pz0, pz1, pz2]
      refine wpAnyH_take (i := 1) (oi := ⟨some 93, _, _, _, _, _⟩) (v := .agg #[.int .i64 1, .string ⟨#[]⟩, .string (bstr x1), .slice none 0 0]) rfl (by kernel_rfl) (by kernel_rfl) (by kernel_rfl) (fun _ _ _ h => h) (.inl ⟨by rfl, fun w' hSw => ?_⟩) hHeld ?_
      focus (obtain ⟨q0, _, q1, _, q2, _, q3, _⟩ := hSw.2.all4; clear hHeld; go_simp)
      try simp only [Act.put, pz0, pz1, pz2]
      refine wpAnyH_ready (rs := [2]) (by kernel_rfl) (by simp) ?_
      refine AllReadyH.cons (o := ⟨none, _, _, _, _, _⟩) rfl (fun K' hK' => ?_) AllReadyH.nil
      obtain ⟨u0, v0, u1, v1, u2, v2, u3, v3, u4, v4⟩ := HQ.out.all5
      have hkn := And.intro (hHeld.1.off5 (b := W.heap.size + 1) (by simp only [ne_eq]; omega) (.slice (some ⟨tb, 0, none⟩) ts.length c) (.int .i64 (i1 : Nat)) (.int .i64 (k1 : Nat)) (.int .i64 (s.o : Nat)) (.int .i64 (l1 : Nat))) (hHeld.2.off5 (b := W.heap.size + 1) (by simp only [ne_eq]; omega) (.slice (some ⟨tb, 0, none⟩) ts.length c) (.int .i64 (i1 : Nat)) (.int .i64 (k1 : Nat)) (.int .i64 (s.o : Nat)) (.int .i64 (l1 : Nat)))
      clear hHeld
      go_simp
      clear u0 v0 u1 v1 u2 v2 u3 v3 u4 v4
      refine hK'.out _ _ hkn (fun hHeld => ?_)
      clear hK' K' hkn
      try simp only [Act.put, pz0, pz1, pz2]
      have hkp := kp_setP wa (W.heap.size + 1) (.slice (some ⟨tb, 0, none⟩) ts.length c) (.int .i64 (i1 : Nat)) (.int .i64 (k1 : Nat)) (.int .i64 (s.o : Nat)) (.int .i64 (l1 : Nat))
      have HQ := hiD (HQ.out.setP (.slice (some ⟨tb, 0, none⟩) ts.length c) (.int .i64 (i1 : Nat)) (.int .i64 (k1 : Nat)) (.int .i64 (s.o : Nat)) (.int .i64 (l1 : Nat)))
      have HR := hiD (hkp.arr HR.out (by omega))
      have HVE := hiD (HVE.out.kp hkp (by omega))
      have HB := hiD (HB.out.trans (hkp.below (B := W.heap.size) (by omega) HB.out.size))
      clear hkp
      generalize (((((wa.setCell ⟨W.heap.size + 1, 0, none⟩ (.slice (some ⟨tb, 0, none⟩) ts.length c)).setCell ⟨W.heap.size + 1, 1, none⟩ (.int .i64 (i1 : Nat))).setCell ⟨W.heap.size + 1, 2, none⟩ (.int .i64 (k1 : Nat))).setCell ⟨W.heap.size + 1, 3, none⟩ (.int .i64 (s.o : Nat))).setCell ⟨W.heap.size + 1, 4, none⟩ (.int .i64 (l1 : Nat))) = wb at hHeld HQ HR HB HVE ⊢
      refine wpAnyH_ready (rs := [3]) (by kernel_rfl) (by simp) ?_
      refine AllReadyH.cons (o := ⟨none, _, _, _, _, _⟩) rfl (fun K' hK' => ?_) AllReadyH.nil
      obtain ⟨u0, v0, u1, v1, u2, v2, u3, v3⟩ := HR.out.all4
      have hkn := And.intro (hHeld.1.off4 (b := W.heap.size + 1 + 1) (by simp only [ne_eq]; omega) (.int .i64 1) (.string ⟨#[]⟩) (.string (bstr x1)) (.slice none 0 0)) (hHeld.2.off4 (b := W.heap.size + 1 + 1) (by simp only [ne_eq]; omega) (.int .i64 1) (.string ⟨#[]⟩) (.string (bstr x1)) (.slice none 0 0))
      clear hHeld
      go_simp
      clear u0 v0 u1 v1 u2 v2 u3 v3
      refine hK'.out _ _ hkn (fun hHeld => ?_)
      clear hK' K' hkn
      try simp only [Act.put, pz0, pz1, pz2]
      have hkp := kp_set4 wb (W.heap.size + 1 + 1) (.int .i64 1) (.string ⟨#[]⟩) (.string (bstr x1)) (.slice none 0 0)
      have HR := hiD (HR.out.set4 (.int .i64 1) (.string ⟨#[]⟩) (.string (bstr x1)) (.slice none 0 0))
      have HQ := hiD (hkp.arr HQ.out (by omega))
      have HVE := hiD (HVE.out.kp hkp (by omega))
      have HB := hiD (HB.out.trans (hkp.below (B := W.heap.size) (by omega) HB.out.size))
      clear hkp
      generalize ((((wb.setCell ⟨W.heap.size + 1 + 1, 0, none⟩ (.int .i64 1)).setCell ⟨W.heap.size + 1 + 1, 1, none⟩ (.string ⟨#[]⟩)).setCell ⟨W.heap.size + 1 + 1, 2, none⟩ (.string (bstr x1))).setCell ⟨W.heap.size + 1 + 1, 3, none⟩ (.slice none 0 0)) = wc at hHeld HQ HR HB HVE ⊢
      refine wpAnyH_done (by kernel_rfl) ?_ _
      go_wp2_with fail
      clear hHeld
      have c0 := HQ.out.cell 0
      have c1 := HQ.out.cell 1
      have c2 := HQ.out.cell 2
      have c3 := HQ.out.cell 3
      have c4 := HQ.out.cell 4
      have d0 := HR.out.cell 0
      have d1 := HR.out.cell 1
      have d2 := HR.out.cell 2
      have d3 := HR.out.cell 3
      simp only [List.getElem?_cons_zero, List.getElem?_cons_succ] at c0 c1 c2 c3 c4 d0 d1 d2 d3
      refine bodyPost_ret (v := .tuple #[.agg #[.slice (some ⟨tb, 0, none⟩) ts.length c, .int .i64 (i1 : Nat), .int .i64 (k1 : Nat), .int .i64 (s.o : Nat), .int .i64 (l1 : Nat)], .agg #[.int .i64 1, .string ⟨#[]⟩, .string (bstr x1), .slice none 0 0]]) ?_ rfl ⟨i1, k1, l1, _, _, HGF.out, rfl, HVE.out.low (by omega), HB.out⟩
      simp [results, Tryz.results54, go_sem, c0, c1, c2, c3, c4, d0, d1, d2, d3]
     | true =>
      have hd := HD2.out
      simp only [Bool.true_eq, Bool.and_eq_true, decide_eq_true_eq] at hd
      have HK1 := hiD hd.1
      have HT1 := hiD hd.2
      have HS1 : Hid (i1 + 1 < ts.length) := HO.out.1.step (by rw [hd.2]; decide)
      clear hd
      have hzi0 : (0 : Int) ≤ i1 := by omega
      have hzi1 : (i1 : Int) ≤ 100000 := by have := HG1.out.1; have := HT.out.2.1; omega
      obtain ⟨ea0, eb0, ea1, eb1, ea2, eb2, ea3, eb3⟩ := HE.out.all4
      go_upto_region 17 with (fail)
      clear ea0 eb0 ea1 eb1 ea2 eb2 ea3 eb3
      have hkp := (Kp.of (pb := W.heap.size + 1 + 1 + 1) (Below.refl w7.heap.size w7)).set 0 (.int .i64 2)
      have HE : Hid (Arr (w7.setCell ⟨W.heap.size + 1 + 1 + 1, 0, none⟩ (.int .i64 2)) 46 (W.heap.size + 1 + 1 + 1) [.int .i64 2, .string ⟨#[]⟩, .string (bstr x1), .slice none 0 0]) := HE.out.set 0 (.int .i64 2)
      have HA := hiD (hkp.arr HA.out (by omega))
      have HQ := hiD (hkp.arr HQ.out (by omega))
      have HR := hiD (hkp.arr HR.out (by omega))
      have HT := hiD (HT.out.kp hkp (by first | omega | (have := HZ.out; omega)))
      have HB := hiD (HB.out.trans (hkp.below (B := W.heap.size) (by omega) HB.out.size))
      clear hkp
      generalize (w7.setCell ⟨W.heap.size + 1 + 1 + 1, 0, none⟩ (.int .i64 2)) = w8 at HE HA HQ HR HT HB ⊢
      obtain ⟨ea0, eb0, ea1, eb1, ea2, eb2, ea3, eb3⟩ := HE.out.all4
      go_upto_region 18 with (fail)
      clear ea0 eb0 ea1 eb1 ea2 eb2 ea3 eb3
      have hkp := (Kp.of (pb := W.heap.size + 1 + 1 + 1) (Below.refl w8.heap.size w8)).set 1 (.string (bstr x1))
      have HE : Hid (Arr (w8.setCell ⟨W.heap.size + 1 + 1 + 1, 1, none⟩ (.string (bstr x1))) 46 (W.heap.size + 1 + 1 + 1) [.int .i64 2, .string (bstr x1), .string (bstr x1), .slice none 0 0]) := HE.out.set 1 (.string (bstr x1))
      have HA := hiD (hkp.arr HA.out (by omega))
      have HQ := hiD (hkp.arr HQ.out (by omega))
      have HR := hiD (hkp.arr HR.out (by omega))
      have HT := hiD (HT.out.kp hkp (by first | omega | (have := HZ.out; omega)))
      have HB := hiD (HB.out.trans (hkp.below (B := W.heap.size) (by omega) HB.out.size))
      clear hkp
      generalize (w8.setCell ⟨W.heap.size + 1 + 1 + 1, 1, none⟩ (.string (bstr x1))) = w9 at HE HA HQ HR HT HB ⊢
      obtain ⟨p0, z0, p1, z1, p2, z2, p3, z3, p4, z4⟩ := HA.out.all5
      go_upto_region 19 with (fail)
      clear p0 z0 p1 z1 p2 z2 p3 z3 p4 z4
      have hkp := (Kp.of (pb := W.heap.size) (Below.refl w9.heap.size w9)).set 1 (.int .i64 ((i1 : Int) + 1))
      have HA : Hid (Arr (w9.setCell ⟨W.heap.size, 1, none⟩ (.int .i64 ((i1 : Int) + 1))) 56 (W.heap.size) [.slice (some ⟨tb, 0, none⟩) ts.length c, .int .i64 (i1 + 1 : Nat), .int .i64 (k1 : Nat), .int .i64 (s.o : Nat), .int .i64 (l1 : Nat)]) := by
       have h := HA.out.set 1 (.int .i64 ((i1 : Int) + 1))
       rw [show ((i1 + 1 : Nat) : Int) = (i1 : Int) + 1 from by simp]
       exact h
      have HQ := hiD (hkp.arr HQ.out (by omega))
      have HR := hiD (hkp.arr HR.out (by omega))
      have HE := hiD (hkp.arr HE.out (by omega))
      have HT := hiD (HT.out.kp hkp (by first | omega | (have := HZ.out; omega)))
      have HB := hiD (HB.out.trans (hkp.below (B := W.heap.size) (by omega) HB.out.size))
      clear hkp
      generalize (w9.setCell ⟨W.heap.size, 1, none⟩ (.int .i64 ((i1 : Int) + 1))) = w10 at HA HQ HR HE HT HB ⊢
      have HNM := hiD (rname_any (c := c) (k := k1) (s := ⟨i1 + 1, s.o, l1⟩) HO.out HT.out HS1.out ⟨HG1.out.2.1.1, fun a _ => HG1.out.2.1.2 a⟩)
      obtain ⟨p0, z0, p1, z1, p2, z2, p3, z3, p4, z4⟩ := HA.out.all5
      go_wp2_with fail
      refine HNM.out.mono ?_
      rintro r w11 ⟨i2, k2, x2, hg2, rfl, b11⟩
      have HGF : Hid (Go1 ts k2 i2 s.o l1 (.mk 2 x1 x2 []) (st k s.i (unitW ts U s))) := by
       show Go1 _ _ _ _ _ _ _
       have h := HG1.out
       by_cases hk : k = 0
       ·have h2 := hg2
        rw [HL1.out] at h h2 ⊢
        rw [st_0 hk] at h ⊢
        exact unit_leaf1 (HNP.out hk) (fun hn => HNL.out hk hn) h HK1.out HT1.out h2
       ·rw [st_n hk] at h
        obtain ⟨_, _, ⟨_, h3⟩ | ⟨h3, _⟩⟩ := h
        ·cases h3
        ·exact absurd HK1.out h3
      clear p0 z0 p1 z1 p2 z2 p3 z3 p4 z4
      have HQ := hiD (HQ.out.later b11)
      have HR := hiD (HR.out.later b11)
      have HE := hiD (HE.out.later b11)
      have HT := hiD (HT.out.later b11)
      have HA := hiD (HA.out.later b11)
      have HB := hiD (HB.out.trans (b11.mono HB.out.size))
      clear hg2 b11 HNM
      obtain ⟨p0, z0, p1, z1, p2, z2, p3, z3, p4, z4⟩ := HA.out.all5
      obtain ⟨ea0, eb0, ea1, eb1, ea2, eb2, ea3, eb3⟩ := HE.out.all4
      go_upto_region 20 with (fail)
      clear p0 z0 p1 z1 p2 z2 p3 z3 p4 z4
      clear ea0 eb0 ea1 eb1 ea2 eb2 ea3 eb3
      have hkp := kp_setP w11 (W.heap.size) (.slice (some ⟨tb, 0, none⟩) ts.length c) (.int .i64 (i2 : Nat)) (.int .i64 (k2 : Nat)) (.int .i64 (s.o : Nat)) (.int .i64 (l1 : Nat))
      have HA := hiD (HA.out.setP (.slice (some ⟨tb, 0, none⟩) ts.length c) (.int .i64 (i2 : Nat)) (.int .i64 (k2 : Nat)) (.int .i64 (s.o : Nat)) (.int .i64 (l1 : Nat)))
      have HQ := hiD (hkp.arr HQ.out (by omega))
      have HR := hiD (hkp.arr HR.out (by omega))
      have HE := hiD (hkp.arr HE.out (by omega))
      have HT := hiD (HT.out.kp hkp (by first | omega | (have := HZ.out; omega)))
      have HB := hiD (HB.out.trans (hkp.below (B := W.heap.size) (Nat.le_refl _) HB.out.size))
      clear hkp
      generalize (((((w11.setCell ⟨W.heap.size, 0, none⟩ (.slice (some ⟨tb, 0, none⟩) ts.length c)).setCell ⟨W.heap.size, 1, none⟩ (.int .i64 (i2 : Nat))).setCell ⟨W.heap.size, 2, none⟩ (.int .i64 (k2 : Nat))).setCell ⟨W.heap.size, 3, none⟩ (.int .i64 (s.o : Nat))).setCell ⟨W.heap.size, 4, none⟩ (.int .i64 (l1 : Nat))) = w12 at HA HQ HR HE HT HB ⊢
      have hkp := (Kp.of (pb := W.heap.size + 1 + 1 + 1) (Below.refl w12.heap.size w12)).set 2 (.string (bstr x2))
      have HE : Hid (Arr (w12.setCell ⟨W.heap.size + 1 + 1 + 1, 2, none⟩ (.string (bstr x2))) 46 (W.heap.size + 1 + 1 + 1) [.int .i64 2, .string (bstr x1), .string (bstr x2), .slice none 0 0]) := HE.out.set 2 (.string (bstr x2))
      have HA := hiD (hkp.arr HA.out (by omega))
      have HQ := hiD (hkp.arr HQ.out (by omega))
      have HR := hiD (hkp.arr HR.out (by omega))
      have HT := hiD (HT.out.kp hkp (by first | omega | (have := HZ.out; omega)))
      have HB := hiD (HB.out.trans (hkp.below (B := W.heap.size) (by omega) HB.out.size))
      clear hkp
      generalize (w12.setCell ⟨W.heap.size + 1 + 1 + 1, 2, none⟩ (.string (bstr x2))) = w13 at HE HA HQ HR HT HB ⊢
      have HVE : Hid (VE (W.heap.size + 4) (.mk 2 x1 x2 []) w13 (.agg #[.int .i64 2, .string (bstr x1), .string (bstr x2), .slice none 0 0])) := VE.leaf _ _ 2 x1 x2
      have hb7 : Below w13.heap.size w13 w13.drew := (Below.refl _ _).drew
      have HA := hiD (HA.out.later hb7)
      have HQ := hiD (HQ.out.later hb7)
      have HR := hiD (HR.out.later hb7)
      have HE := hiD (HE.out.later hb7)
      have HB := hiD (HB.out.trans (hb7.mono HB.out.size))
      have HVE := hiD (HVE.out.later hb7)
      refine wp_region_held_drew (S := fun W' => Arr W' 56 (W.heap.size) [.slice (some ⟨tb, 0, none⟩) ts.length c, .int .i64 (i2 : Nat), .int .i64 (k2 : Nat), .int .i64 (s.o : Nat), .int .i64 (l1 : Nat)] ∧ Arr W' 46 (W.heap.size + 1 + 1 + 1) [.int .i64 2, .string (bstr x1), .string (bstr x2), .slice none 0 0]) (by kernel_rfl) ⟨HA.out, HE.out⟩ (fun hHeld => ?_)
      try simp only [Act.put]
      clear hb7
      generalize w13.drew = wa at hHeld HA HQ HR HE HB HVE ⊢
      refine wpAnyH_take (i := 0) (oi := ⟨some 92, _, _, _, _, _⟩) (v := .agg #[.slice (some ⟨tb, 0, none⟩) ts.length c, .int .i64 (i2 : Nat), .int .i64 (k2 : Nat), .int .i64 (s.o : Nat), .int .i64 (l1 : Nat)]) rfl (by kernel_rfl) (by kernel_rfl) (by kernel_rfl) (fun _ _ _ h => h) (.inl ⟨by rfl, fun w' hSw => ?_⟩) hHeld ?_
      focus (obtain ⟨q0, _, q1, _, q2, _, q3, _, q4, _⟩ := hSw.1.all5; clear hHeld; go_simp)
      try simp only [Act.put, pz0, pz1, pz2]
      refine wpAnyH_take (i := 1) (oi := ⟨some 93, _, _, _, _, _⟩) (v := .agg #[.int .i64 2, .string (bstr x1), .string (bstr x2), .slice none 0 0]) rfl (by kernel_rfl) (by kernel_rfl) (by kernel_rfl) (fun _ _ _ h => h) (.inl ⟨by rfl, fun w' hSw => ?_⟩) hHeld ?_
      focus (obtain ⟨q0, _, q1, _, q2, _, q3, _⟩ := hSw.2.all4; clear hHeld; go_simp)
      try simp only [Act.put, pz0, pz1, pz2]
      refine wpAnyH_ready (rs := [2]) (by kernel_rfl) (by simp) ?_
      refine AllReadyH.cons (o := ⟨none, _, _, _, _, _⟩) rfl (fun K' hK' => ?_) AllReadyH.nil
      obtain ⟨u0, v0, u1, v1, u2, v2, u3, v3, u4, v4⟩ := HQ.out.all5
      have hkn := And.intro (hHeld.1.off5 (b := W.heap.size + 1) (by simp only [ne_eq]; omega) (.slice (some ⟨tb, 0, none⟩) ts.length c) (.int .i64 (i2 : Nat)) (.int .i64 (k2 : Nat)) (.int .i64 (s.o : Nat)) (.int .i64 (l1 : Nat))) (hHeld.2.off5 (b := W.heap.size + 1) (by simp only [ne_eq]; omega) (.slice (some ⟨tb, 0, none⟩) ts.length c) (.int .i64 (i2 : Nat)) (.int .i64 (k2 : Nat)) (.int .i64 (s.o : Nat)) (.int .i64 (l1 : Nat)))
      clear hHeld
      go_simp
      clear u0 v0 u1 v1 u2 v2 u3 v3 u4 v4
      refine hK'.out _ _ hkn (fun hHeld => ?_)
      clear hK' K' hkn
      try simp only [Act.put, pz0, pz1, pz2]
      have hkp := kp_setP wa (W.heap.size + 1) (.slice (some ⟨tb, 0, none⟩) ts.length c) (.int .i64 (i2 : Nat)) (.int .i64 (k2 : Nat)) (.int .i64 (s.o : Nat)) (.int .i64 (l1 : Nat))
      have HQ := hiD (HQ.out.setP (.slice (some ⟨tb, 0, none⟩) ts.length c) (.int .i64 (i2 : Nat)) (.int .i64 (k2 : Nat)) (.int .i64 (s.o : Nat)) (.int .i64 (l1 : Nat)))
      have HR := hiD (hkp.arr HR.out (by omega))
      have HVE := hiD (HVE.out.kp hkp (by omega))
      have HB := hiD (HB.out.trans (hkp.below (B := W.heap.size) (by omega) HB.out.size))
      clear hkp
      generalize (((((wa.setCell ⟨W.heap.size + 1, 0, none⟩ (.slice (some ⟨tb, 0, none⟩) ts.length c)).setCell ⟨W.heap.size + 1, 1, none⟩ (.int .i64 (i2 : Nat))).setCell ⟨W.heap.size + 1, 2, none⟩ (.int .i64 (k2 : Nat))).setCell ⟨W.heap.size + 1, 3, none⟩ (.int .i64 (s.o : Nat))).setCell ⟨W.heap.size + 1, 4, none⟩ (.int .i64 (l1 : Nat))) = wb at hHeld HQ HR HB HVE ⊢
      refine wpAnyH_ready (rs := [3]) (by kernel_rfl) (by simp) ?_
      refine AllReadyH.cons (o := ⟨none, _, _, _, _, _⟩) rfl (fun K' hK' => ?_) AllReadyH.nil
      obtain ⟨u0, v0, u1, v1, u2, v2, u3, v3⟩ := HR.out.all4
      have hkn := And.intro (hHeld.1.off4 (b := W.heap.size + 1 + 1) (by simp only [ne_eq]; omega) (.int .i64 2) (.string (bstr x1)) (.string (bstr x2)) (.slice none 0 0)) (hHeld.2.off4 (b := W.heap.size + 1 + 1) (by simp only [ne_eq]; omega) (.int .i64 2) (.string (bstr x1)) (.string (bstr x2)) (.slice none 0 0))
      clear hHeld
      go_simp
      clear u0 v0 u1 v1 u2 v2 u3 v3
      refine hK'.out _ _ hkn (fun hHeld => ?_)
      clear hK' K' hkn
      try simp only [Act.put, pz0, pz1, pz2]
      have hkp := kp_set4 wb (W.heap.size + 1 + 1) (.int .i64 2) (.string (bstr x1)) (.string (bstr x2)) (.slice none 0 0)
      have HR := hiD (HR.out.set4 (.int .i64 2) (.string (bstr x1)) (.string (bstr x2)) (.slice none 0 0))
      have HQ := hiD (hkp.arr HQ.out (by omega))
      have HVE := hiD (HVE.out.kp hkp (by omega))
      have HB := hiD (HB.out.trans (hkp.below (B := W.heap.size) (by omega) HB.out.size))
      clear hkp
      generalize ((((wb.setCell ⟨W.heap.size + 1 + 1, 0, none⟩ (.int .i64 2)).setCell ⟨W.heap.size + 1 + 1, 1, none⟩ (.string (bstr x1))).setCell ⟨W.heap.size + 1 + 1, 2, none⟩ (.string (bstr x2))).setCell ⟨W.heap.size + 1 + 1, 3, none⟩ (.slice none 0 0)) = wc at hHeld HQ HR HB HVE ⊢
      refine wpAnyH_done (by kernel_rfl) ?_ _
      go_wp2_with fail
      clear hHeld
      have c0 := HQ.out.cell 0
      have c1 := HQ.out.cell 1
      have c2 := HQ.out.cell 2
      have c3 := HQ.out.cell 3
      have c4 := HQ.out.cell 4
      have d0 := HR.out.cell 0
      have d1 := HR.out.cell 1
      have d2 := HR.out.cell 2
      have d3 := HR.out.cell 3
      simp only [List.getElem?_cons_zero, List.getElem?_cons_succ] at c0 c1 c2 c3 c4 d0 d1 d2 d3
      refine bodyPost_ret (v := .tuple #[.agg #[.slice (some ⟨tb, 0, none⟩) ts.length c, .int .i64 (i2 : Nat), .int .i64 (k2 : Nat), .int .i64 (s.o : Nat), .int .i64 (l1 : Nat)], .agg #[.int .i64 2, .string (bstr x1), .string (bstr x2), .slice none 0 0]]) ?_ rfl ⟨i2, k2, l1, _, _, HGF.out, rfl, HVE.out.low (by omega), HB.out⟩
      simp [results, Tryz.results54, go_sem, c0, c1, c2, c3, c4, d0, d1, d2, d3]
   ·have hl5 : ((s.l : Int) == 32) = false := beq_eq_false_iff_ne.2 (by omega)
    have HNL : Hid (k = 0 → isName (bstr (txt ts s.i)) = true → s.l < 32) := fun _ _ => by have := HL32.out; show s.l < 32; omega
    clear hk h32
    obtain ⟨p0, z0, p1, z1, p2, z2, p3, z3, p4, z4⟩ := HA.out.all5
    go_upto_region 13 with (fail)
    clear p0 z0 p1 z1 p2 z2 p3 z3 p4 z4
    clear hl5 hk5
    have hzl0 : (0 : Int) ≤ s.l := by omega
    have hzl1 : (s.l : Int) ≤ 100 := by have := HL.out.1; omega
    obtain ⟨p0, z0, p1, z1, p2, z2, p3, z3, p4, z4⟩ := HA.out.all5
    go_upto_region 14 with (fail)
    clear p0 z0 p1 z1 p2 z2 p3 z3 p4 z4
    have hkp := (Kp.of (pb := W.heap.size) (Below.refl w2.heap.size w2)).set 4 (.int .i64 ((s.l : Int) + 1))
    have HA : Hid (Arr (w2.setCell ⟨W.heap.size, 4, none⟩ (.int .i64 ((s.l : Int) + 1))) 56 (W.heap.size) [.slice (some ⟨tb, 0, none⟩) ts.length c, .int .i64 (s.i : Nat), .int .i64 (k : Nat), .int .i64 (s.o : Nat), .int .i64 (s.l + 1 : Nat)]) := by
     have h := HA.out.set 4 (.int .i64 ((s.l : Int) + 1))
     rw [show ((s.l + 1 : Nat) : Int) = (s.l : Int) + 1 from by simp]
     exact h
    have HQ := hiD (hkp.arr HQ.out (by omega))
    have HR := hiD (hkp.arr HR.out (by omega))
    have HE := hiD (hkp.arr HE.out (by omega))
    have HT := hiD (HT.out.kp hkp (by first | omega | (have := HZ.out; omega)))
    have HB := hiD (HB.out.trans (hkp.below (B := W.heap.size) (by omega) HB.out.size))
    clear hkp
    generalize (w2.setCell ⟨W.heap.size, 4, none⟩ (.int .i64 ((s.l : Int) + 1))) = w3 at HA HQ HR HE HT HB ⊢
    obtain ⟨l1, hl1⟩ : ∃ l1, l1 = s.l + 1 := ⟨_, rfl⟩
    have HL1 := hiD hl1
    rw [← hl1] at HA
    clear hl1
    have HNM := hiD (rname_any (c := c) (k := k) (s := ⟨s.i, s.o, l1⟩) HO.out HT.out HH.out ⟨by have := HL32.out; have := HL1.out; show l1 ≤ 33; omega, fun a b => by have := HNL.out a b; have := HL1.out; show l1 ≤ 32; omega⟩)
    obtain ⟨p0, z0, p1, z1, p2, z2, p3, z3, p4, z4⟩ := HA.out.all5
    go_wp2_with fail
    refine HNM.out.mono ?_
    rintro r w4 ⟨i1, k1, x1, hg1, rfl, b4⟩
    have HG1 := hiD hg1
    clear p0 z0 p1 z1 p2 z2 p3 z3 p4 z4
    have HQ := hiD (HQ.out.later b4)
    have HR := hiD (HR.out.later b4)
    have HE := hiD (HE.out.later b4)
    have HT := hiD (HT.out.later b4)
    have HA := hiD (HA.out.later b4)
    have HB := hiD (HB.out.trans (b4.mono HB.out.size))
    clear hg1 b4 HNM
    obtain ⟨p0, z0, p1, z1, p2, z2, p3, z3, p4, z4⟩ := HA.out.all5
    obtain ⟨ea0, eb0, ea1, eb1, ea2, eb2, ea3, eb3⟩ := HE.out.all4
    go_upto_region 15 with (fail)
    clear p0 z0 p1 z1 p2 z2 p3 z3 p4 z4
    clear ea0 eb0 ea1 eb1 ea2 eb2 ea3 eb3
    have hkp := kp_setP w4 (W.heap.size) (.slice (some ⟨tb, 0, none⟩) ts.length c) (.int .i64 (i1 : Nat)) (.int .i64 (k1 : Nat)) (.int .i64 (s.o : Nat)) (.int .i64 (l1 : Nat))
    have HA := hiD (HA.out.setP (.slice (some ⟨tb, 0, none⟩) ts.length c) (.int .i64 (i1 : Nat)) (.int .i64 (k1 : Nat)) (.int .i64 (s.o : Nat)) (.int .i64 (l1 : Nat)))
    have HQ := hiD (hkp.arr HQ.out (by omega))
    have HR := hiD (hkp.arr HR.out (by omega))
    have HE := hiD (hkp.arr HE.out (by omega))
    have HT := hiD (HT.out.kp hkp (by first | omega | (have := HZ.out; omega)))
    have HB := hiD (HB.out.trans (hkp.below (B := W.heap.size) (Nat.le_refl _) HB.out.size))
    clear hkp
    generalize (((((w4.setCell ⟨W.heap.size, 0, none⟩ (.slice (some ⟨tb, 0, none⟩) ts.length c)).setCell ⟨W.heap.size, 1, none⟩ (.int .i64 (i1 : Nat))).setCell ⟨W.heap.size, 2, none⟩ (.int .i64 (k1 : Nat))).setCell ⟨W.heap.size, 3, none⟩ (.int .i64 (s.o : Nat))).setCell ⟨W.heap.size, 4, none⟩ (.int .i64 (l1 : Nat))) = w5 at HA HQ HR HE HT HB ⊢
    have hkp := (Kp.of (pb := W.heap.size + 1 + 1 + 1) (Below.refl w5.heap.size w5)).set 2 (.string (bstr x1))
    have HE : Hid (Arr (w5.setCell ⟨W.heap.size + 1 + 1 + 1, 2, none⟩ (.string (bstr x1))) 46 (W.heap.size + 1 + 1 + 1) [.int .i64 1, .string ⟨#[]⟩, .string (bstr x1), .slice none 0 0]) := HE.out.set 2 (.string (bstr x1))
    have HA := hiD (hkp.arr HA.out (by omega))
    have HQ := hiD (hkp.arr HQ.out (by omega))
    have HR := hiD (hkp.arr HR.out (by omega))
    have HT := hiD (HT.out.kp hkp (by first | omega | (have := HZ.out; omega)))
    have HB := hiD (HB.out.trans (hkp.below (B := W.heap.size) (by omega) HB.out.size))
    clear hkp
    generalize (w5.setCell ⟨W.heap.size + 1 + 1 + 1, 2, none⟩ (.string (bstr x1))) = w6 at HE HA HQ HR HT HB ⊢
    have HIS := hiD (ris_any (s := ⟨i1, s.o, l1⟩) (c := c) (k := k1) HO.out.1 HT.out HG1.out.1 ⟨#[45, 62]⟩ [45, 62] rfl (by decide))
    obtain ⟨d2, hd2⟩ : ∃ d, d = (decide (k1 = 0) && decide (txt ts i1 = [45, 62])) := ⟨_, rfl⟩
    have HD2 := hiD hd2
    rw [show (decide (k1 = 0) && decide (txt ts (⟨i1, s.o, l1⟩ : PS).i = [45, 62])) = d2 from hd2.symm] at HIS
    clear hd2
    obtain ⟨p0, z0, p1, z1, p2, z2, p3, z3, p4, z4⟩ := HA.out.all5
    go_wp2_with fail
    refine HIS.out.mono ?_
    rintro r w7 ⟨rfl, b7⟩
    clear p0 z0 p1 z1 p2 z2 p3 z3 p4 z4
    have HQ := hiD (HQ.out.later b7)
    have HR := hiD (HR.out.later b7)
    have HE := hiD (HE.out.later b7)
    have HT := hiD (HT.out.later b7)
    have HA := hiD (HA.out.later b7)
    have HB := hiD (HB.out.trans (b7.mono HB.out.size))
    clear b7 HIS
    cases d2 with
    | false =>
     have hd := HD2.out
     simp only [Bool.false_eq, Bool.and_eq_false_iff, decide_eq_false_iff_not] at hd
     have hd' : ¬ (k1 = 0 ∧ txt ts i1 = [45, 62]) := fun h => hd.elim (fun h1 => h1 h.1) (fun h2 => h2 h.2)
     have HGF : Hid (Go1 ts k1 i1 s.o l1 (.mk 1 [] x1 []) (st k s.i (unitW ts U s))) := by
      show Go1 _ _ _ _ _ _ _
      have h := HG1.out
      by_cases hk : k = 0
      ·rw [HL1.out] at h ⊢
       rw [st_0 hk] at h ⊢
       exact unit_leaf0 (HNP.out hk) (fun hn => HNL.out hk hn) h hd'
      ·rw [st_n hk] at h ⊢
       exact go1_stuck h
     have HVE : Hid (VE (W.heap.size + 4) (.mk 1 [] x1 []) w7 (.agg #[.int .i64 1, .string ⟨#[]⟩, .string (bstr x1), .slice none 0 0])) := VE.leaf _ _ 1 [] x1
     clear hd hd'
     obtain ⟨p0, z0, p1, z1, p2, z2, p3, z3, p4, z4⟩ := HA.out.all5
     obtain ⟨ea0, eb0, ea1, eb1, ea2, eb2, ea3, eb3⟩ := HE.out.all4
     go_upto_region 20 with (fail)
     clear p0 z0 p1 z1 p2 z2 p3 z3 p4 z4
     clear ea0 eb0 ea1 eb1 ea2 eb2 ea3 eb3
     have hb7 : Below w7.heap.size w7 w7.drew := (Below.refl _ _).drew
     have HA := hiD (HA.out.later hb7)
     have HQ := hiD (HQ.out.later hb7)
     have HR := hiD (HR.out.later hb7)
     have HE := hiD (HE.out.later hb7)
     have HB := hiD (HB.out.trans (hb7.mono HB.out.size))
     have HVE := hiD (HVE.out.later hb7)
     refine wp_region_held_drew (S := fun W' => Arr W' 56 (W.heap.size) [.slice (some ⟨tb, 0, none⟩) ts.length c, .int .i64 (i1 : Nat), .int .i64 (k1 : Nat), .int .i64 (s.o : Nat), .int .i64 (l1 : Nat)] ∧ Arr W' 46 (W.heap.size + 1 + 1 + 1) [.int .i64 1, .string ⟨#[]⟩, .string (bstr x1), .slice none 0 0]) (by kernel_rfl) ⟨HA.out, HE.out⟩ (fun hHeld => ?_)
     try simp only [Act.put]
     clear hb7
     generalize w7.drew = wa at hHeld HA HQ HR HE HB HVE ⊢
     refine wpAnyH_take (i := 0) (oi := ⟨some 92, _, _, _, _, _⟩) (v := .agg #[.slice (some ⟨tb, 0, none⟩) ts.length c, .int .i64 (i1 : Nat), .int .i64 (k1 : Nat), .int .i64 (s.o : Nat), .int .i64 (l1 : Nat)]) rfl (by kernel_rfl) (by kernel_rfl) (by kernel_rfl) (fun _ _ _ h => h) (.inl ⟨by rfl, fun w' hSw => ?_⟩) hHeld ?_
     focus (obtain ⟨q0, _, q1, _, q2, _, q3, _, q4, _⟩ := hSw.1.all5; clear hHeld; go_simp)
     try simp only [Act.put, pz0, pz1, pz2]
     refine wpAnyH_take (i := 1) (oi := ⟨some 93, _, _, _, _, _⟩) (v := .agg #[.int .i64 1, .string ⟨#[]⟩, .string (bstr x1), .slice none 0 0]) rfl (by kernel_rfl) (by kernel_rfl) (by kernel_rfl) (fun _ _ _ h => h) (.inl ⟨by rfl, fun w' hSw => ?_⟩) hHeld ?_
     focus (obtain ⟨q0, _, q1, _, q2, _, q3, _⟩ := hSw.2.all4; clear hHeld; go_simp)
     try simp only [Act.put, pz0, pz1, pz2]
     refine wpAnyH_ready (rs := [2]) (by kernel_rfl) (by simp) ?_
     refine AllReadyH.cons (o := ⟨none, _, _, _, _, _⟩) rfl (fun K' hK' => ?_) AllReadyH.nil
     obtain ⟨u0, v0, u1, v1, u2, v2, u3, v3, u4, v4⟩ := HQ.out.all5
     have hkn := And.intro (hHeld.1.off5 (b := W.heap.size + 1) (by simp only [ne_eq]; omega) (.slice (some ⟨tb, 0, none⟩) ts.length c) (.int .i64 (i1 : Nat)) (.int .i64 (k1 : Nat)) (.int .i64 (s.o : Nat)) (.int .i64 (l1 : Nat))) (hHeld.2.off5 (b := W.heap.size + 1) (by simp only [ne_eq]; omega) (.slice (some ⟨tb, 0, none⟩) ts.length c) (.int .i64 (i1 : Nat)) (.int .i64 (k1 : Nat)) (.int .i64 (s.o : Nat)) (.int .i64 (l1 : Nat)))
     clear hHeld
     go_simp
     clear u0 v0 u1 v1 u2 v2 u3 v3 u4 v4
     refine hK'.out _ _ hkn (fun hHeld => ?_)
     clear hK' K' hkn
     try simp only [Act.put, pz0, pz1, pz2]
     have hkp := kp_setP wa (W.heap.size + 1) (.slice (some ⟨tb, 0, none⟩) ts.length c) (.int .i64 (i1 : Nat)) (.int .i64 (k1 : Nat)) (.int .i64 (s.o : Nat)) (.int .i64 (l1 : Nat))
     have HQ := hiD (HQ.out.setP (.slice (some ⟨tb, 0, none⟩) ts.length c) (.int .i64 (i1 : Nat)) (.int .i64 (k1 : Nat)) (.int .i64 (s.o : Nat)) (.int .i64 (l1 : Nat)))
     have HR := hiD (hkp.arr HR.out (by omega))
     have HVE := hiD (HVE.out.kp hkp (by omega))
     have HB := hiD (HB.out.trans (hkp.below (B := W.heap.size) (by omega) HB.out.size))
     clear hkp
     generalize (((((wa.setCell ⟨W.heap.size + 1, 0, none⟩ (.slice (some ⟨tb, 0, none⟩) ts.length c)).setCell ⟨W.heap.size + 1, 1, none⟩ (.int .i64 (i1 : Nat))).setCell ⟨W.heap.size + 1, 2, none⟩ (.int .i64 (k1 : Nat))).setCell ⟨W.heap.size + 1, 3, none⟩ (.int .i64 (s.o : Nat))).setCell ⟨W.heap.size + 1, 4, none⟩ (.int .i64 (l1 : Nat))) = wb at hHeld HQ HR HB HVE ⊢
     refine wpAnyH_ready (rs := [3]) (by kernel_rfl) (by simp) ?_
     refine AllReadyH.cons (o := ⟨none, _, _, _, _, _⟩) rfl (fun K' hK' => ?_) AllReadyH.nil
     obtain ⟨u0, v0, u1, v1, u2, v2, u3, v3⟩ := HR.out.all4
     have hkn := And.intro (hHeld.1.off4 (b := W.heap.size + 1 + 1) (by simp only [ne_eq]; omega) (.int .i64 1) (.string ⟨#[]⟩) (.string (bstr x1)) (.slice none 0 0)) (hHeld.2.off4 (b := W.heap.size + 1 + 1) (by simp only [ne_eq]; omega) (.int .i64 1) (.string ⟨#[]⟩) (.string (bstr x1)) (.slice none 0 0))
     clear hHeld
     go_simp
     clear u0 v0 u1 v1 u2 v2 u3 v3
     refine hK'.out _ _ hkn (fun hHeld => ?_)
     clear hK' K' hkn
     try simp only [Act.put, pz0, pz1, pz2]
     have hkp := kp_set4 wb (W.heap.size + 1 + 1) (.int .i64 1) (.string ⟨#[]⟩) (.string (bstr x1)) (.slice none 0 0)
     have HR := hiD (HR.out.set4 (.int .i64 1) (.string ⟨#[]⟩) (.string (bstr x1)) (.slice none 0 0))
     have HQ := hiD (hkp.arr HQ.out (by omega))
     have HVE := hiD (HVE.out.kp hkp (by omega))
     have HB := hiD (HB.out.trans (hkp.below (B := W.heap.size) (by omega) HB.out.size))
     clear hkp
     generalize ((((wb.setCell ⟨W.heap.size + 1 + 1, 0, none⟩ (.int .i64 1)).setCell ⟨W.heap.size + 1 + 1, 1, none⟩ (.string ⟨#[]⟩)).setCell ⟨W.heap.size + 1 + 1, 2, none⟩ (.string (bstr x1))).setCell ⟨W.heap.size + 1 + 1, 3, none⟩ (.slice none 0 0)) = wc at hHeld HQ HR HB HVE ⊢
     refine wpAnyH_done (by kernel_rfl) ?_ _
     go_wp2_with fail
     clear hHeld
     have c0 := HQ.out.cell 0
     have c1 := HQ.out.cell 1
     have c2 := HQ.out.cell 2
     have c3 := HQ.out.cell 3
     have c4 := HQ.out.cell 4
     have d0 := HR.out.cell 0
     have d1 := HR.out.cell 1
     have d2 := HR.out.cell 2
     have d3 := HR.out.cell 3
     simp only [List.getElem?_cons_zero, List.getElem?_cons_succ] at c0 c1 c2 c3 c4 d0 d1 d2 d3
     refine bodyPost_ret (v := .tuple #[.agg #[.slice (some ⟨tb, 0, none⟩) ts.length c, .int .i64 (i1 : Nat), .int .i64 (k1 : Nat), .int .i64 (s.o : Nat), .int .i64 (l1 : Nat)], .agg #[.int .i64 1, .string ⟨#[]⟩, .string (bstr x1), .slice none 0 0]]) ?_ rfl ⟨i1, k1, l1, _, _, HGF.out, rfl, HVE.out.low (by omega), HB.out⟩
     simp [results, Tryz.results54, go_sem, c0, c1, c2, c3, c4, d0, d1, d2, d3]
    | true =>
     have hd := HD2.out
     simp only [Bool.true_eq, Bool.and_eq_true, decide_eq_true_eq] at hd
     have HK1 := hiD hd.1
     have HT1 := hiD hd.2
     have HS1 : Hid (i1 + 1 < ts.length) := HO.out.1.step (by rw [hd.2]; decide)
     clear hd
     have hzi0 : (0 : Int) ≤ i1 := by omega
     have hzi1 : (i1 : Int) ≤ 100000 := by have := HG1.out.1; have := HT.out.2.1; omega
     obtain ⟨ea0, eb0, ea1, eb1, ea2, eb2, ea3, eb3⟩ := HE.out.all4
     go_upto_region 17 with (fail)
     clear ea0 eb0 ea1 eb1 ea2 eb2 ea3 eb3
     have hkp := (Kp.of (pb := W.heap.size + 1 + 1 + 1) (Below.refl w7.heap.size w7)).set 0 (.int .i64 2)
     have HE : Hid (Arr (w7.setCell ⟨W.heap.size + 1 + 1 + 1, 0, none⟩ (.int .i64 2)) 46 (W.heap.size + 1 + 1 + 1) [.int .i64 2, .string ⟨#[]⟩, .string (bstr x1), .slice none 0 0]) := HE.out.set 0 (.int .i64 2)
     have HA := hiD (hkp.arr HA.out (by omega))
     have HQ := hiD (hkp.arr HQ.out (by omega))
     have HR := hiD (hkp.arr HR.out (by omega))
     have HT := hiD (HT.out.kp hkp (by first | omega | (have := HZ.out; omega)))
     have HB := hiD (HB.out.trans (hkp.below (B := W.heap.size) (by omega) HB.out.size))
     clear hkp
     generalize (w7.setCell ⟨W.heap.size + 1 + 1 + 1, 0, none⟩ (.int .i64 2)) = w8 at HE HA HQ HR HT HB ⊢
     obtain ⟨ea0, eb0, ea1, eb1, ea2, eb2, ea3, eb3⟩ := HE.out.all4
     go_upto_region 18 with (fail)
     clear ea0 eb0 ea1 eb1 ea2 eb2 ea3 eb3
     have hkp := (Kp.of (pb := W.heap.size + 1 + 1 + 1) (Below.refl w8.heap.size w8)).set 1 (.string (bstr x1))
     have HE : Hid (Arr (w8.setCell ⟨W.heap.size + 1 + 1 + 1, 1, none⟩ (.string (bstr x1))) 46 (W.heap.size + 1 + 1 + 1) [.int .i64 2, .string (bstr x1), .string (bstr x1), .slice none 0 0]) := HE.out.set 1 (.string (bstr x1))
     have HA := hiD (hkp.arr HA.out (by omega))
     have HQ := hiD (hkp.arr HQ.out (by omega))
     have HR := hiD (hkp.arr HR.out (by omega))
     have HT := hiD (HT.out.kp hkp (by first | omega | (have := HZ.out; omega)))
     have HB := hiD (HB.out.trans (hkp.below (B := W.heap.size) (by omega) HB.out.size))
     clear hkp
     generalize (w8.setCell ⟨W.heap.size + 1 + 1 + 1, 1, none⟩ (.string (bstr x1))) = w9 at HE HA HQ HR HT HB ⊢
     obtain ⟨p0, z0, p1, z1, p2, z2, p3, z3, p4, z4⟩ := HA.out.all5
     go_upto_region 19 with (fail)
     clear p0 z0 p1 z1 p2 z2 p3 z3 p4 z4
     have hkp := (Kp.of (pb := W.heap.size) (Below.refl w9.heap.size w9)).set 1 (.int .i64 ((i1 : Int) + 1))
     have HA : Hid (Arr (w9.setCell ⟨W.heap.size, 1, none⟩ (.int .i64 ((i1 : Int) + 1))) 56 (W.heap.size) [.slice (some ⟨tb, 0, none⟩) ts.length c, .int .i64 (i1 + 1 : Nat), .int .i64 (k1 : Nat), .int .i64 (s.o : Nat), .int .i64 (l1 : Nat)]) := by
      have h := HA.out.set 1 (.int .i64 ((i1 : Int) + 1))
      rw [show ((i1 + 1 : Nat) : Int) = (i1 : Int) + 1 from by simp]
      exact h
     have HQ := hiD (hkp.arr HQ.out (by omega))
     have HR := hiD (hkp.arr HR.out (by omega))
     have HE := hiD (hkp.arr HE.out (by omega))
     have HT := hiD (HT.out.kp hkp (by first | omega | (have := HZ.out; omega)))
     have HB := hiD (HB.out.trans (hkp.below (B := W.heap.size) (by omega) HB.out.size))
     clear hkp
     generalize (w9.setCell ⟨W.heap.size, 1, none⟩ (.int .i64 ((i1 : Int) + 1))) = w10 at HA HQ HR HE HT HB ⊢
     have HNM := hiD (rname_any (c := c) (k := k1) (s := ⟨i1 + 1, s.o, l1⟩) HO.out HT.out HS1.out ⟨HG1.out.2.1.1, fun a _ => HG1.out.2.1.2 a⟩)
     obtain ⟨p0, z0, p1, z1, p2, z2, p3, z3, p4, z4⟩ := HA.out.all5
     go_wp2_with fail
     refine HNM.out.mono ?_
     rintro r w11 ⟨i2, k2, x2, hg2, rfl, b11⟩
     have HGF : Hid (Go1 ts k2 i2 s.o l1 (.mk 2 x1 x2 []) (st k s.i (unitW ts U s))) := by
      show Go1 _ _ _ _ _ _ _
      have h := HG1.out
      by_cases hk : k = 0
      ·have h2 := hg2
       rw [HL1.out] at h h2 ⊢
       rw [st_0 hk] at h ⊢
       exact unit_leaf1 (HNP.out hk) (fun hn => HNL.out hk hn) h HK1.out HT1.out h2
      ·rw [st_n hk] at h
       obtain ⟨_, _, ⟨_, h3⟩ | ⟨h3, _⟩⟩ := h
       ·cases h3
       ·exact absurd HK1.out h3
     clear p0 z0 p1 z1 p2 z2 p3 z3 p4 z4
     have HQ := hiD (HQ.out.later b11)
     have HR := hiD (HR.out.later b11)
     have HE := hiD (HE.out.later b11)
     have HT := hiD (HT.out.later b11)
     have HA := hiD (HA.out.later b11)
     have HB := hiD (HB.out.trans (b11.mono HB.out.size))
     clear hg2 b11 HNM
     obtain ⟨p0, z0, p1, z1, p2, z2, p3, z3, p4, z4⟩ := HA.out.all5
     obtain ⟨ea0, eb0, ea1, eb1, ea2, eb2, ea3, eb3⟩ := HE.out.all4
     go_upto_region 20 with (fail)
     clear p0 z0 p1 z1 p2 z2 p3 z3 p4 z4
     clear ea0 eb0 ea1 eb1 ea2 eb2 ea3 eb3
     have hkp := kp_setP w11 (W.heap.size) (.slice (some ⟨tb, 0, none⟩) ts.length c) (.int .i64 (i2 : Nat)) (.int .i64 (k2 : Nat)) (.int .i64 (s.o : Nat)) (.int .i64 (l1 : Nat))
     have HA := hiD (HA.out.setP (.slice (some ⟨tb, 0, none⟩) ts.length c) (.int .i64 (i2 : Nat)) (.int .i64 (k2 : Nat)) (.int .i64 (s.o : Nat)) (.int .i64 (l1 : Nat)))
     have HQ := hiD (hkp.arr HQ.out (by omega))
     have HR := hiD (hkp.arr HR.out (by omega))
     have HE := hiD (hkp.arr HE.out (by omega))
     have HT := hiD (HT.out.kp hkp (by first | omega | (have := HZ.out; omega)))
     have HB := hiD (HB.out.trans (hkp.below (B := W.heap.size) (Nat.le_refl _) HB.out.size))
     clear hkp
     generalize (((((w11.setCell ⟨W.heap.size, 0, none⟩ (.slice (some ⟨tb, 0, none⟩) ts.length c)).setCell ⟨W.heap.size, 1, none⟩ (.int .i64 (i2 : Nat))).setCell ⟨W.heap.size, 2, none⟩ (.int .i64 (k2 : Nat))).setCell ⟨W.heap.size, 3, none⟩ (.int .i64 (s.o : Nat))).setCell ⟨W.heap.size, 4, none⟩ (.int .i64 (l1 : Nat))) = w12 at HA HQ HR HE HT HB ⊢
     have hkp := (Kp.of (pb := W.heap.size + 1 + 1 + 1) (Below.refl w12.heap.size w12)).set 2 (.string (bstr x2))
     have HE : Hid (Arr (w12.setCell ⟨W.heap.size + 1 + 1 + 1, 2, none⟩ (.string (bstr x2))) 46 (W.heap.size + 1 + 1 + 1) [.int .i64 2, .string (bstr x1), .string (bstr x2), .slice none 0 0]) := HE.out.set 2 (.string (bstr x2))
     have HA := hiD (hkp.arr HA.out (by omega))
     have HQ := hiD (hkp.arr HQ.out (by omega))
     have HR := hiD (hkp.arr HR.out (by omega))
     have HT := hiD (HT.out.kp hkp (by first | omega | (have := HZ.out; omega)))
     have HB := hiD (HB.out.trans (hkp.below (B := W.heap.size) (by omega) HB.out.size))
     clear hkp
     generalize (w12.setCell ⟨W.heap.size + 1 + 1 + 1, 2, none⟩ (.string (bstr x2))) = w13 at HE HA HQ HR HT HB ⊢
     have HVE : Hid (VE (W.heap.size + 4) (.mk 2 x1 x2 []) w13 (.agg #[.int .i64 2, .string (bstr x1), .string (bstr x2), .slice none 0 0])) := VE.leaf _ _ 2 x1 x2
     have hb7 : Below w13.heap.size w13 w13.drew := (Below.refl _ _).drew
     have HA := hiD (HA.out.later hb7)
     have HQ := hiD (HQ.out.later hb7)
     have HR := hiD (HR.out.later hb7)
     have HE := hiD (HE.out.later hb7)
     have HB := hiD (HB.out.trans (hb7.mono HB.out.size))
     have HVE := hiD (HVE.out.later hb7)
     refine wp_region_held_drew (S := fun W' => Arr W' 56 (W.heap.size) [.slice (some ⟨tb, 0, none⟩) ts.length c, .int .i64 (i2 : Nat), .int .i64 (k2 : Nat), .int .i64 (s.o : Nat), .int .i64 (l1 : Nat)] ∧ Arr W' 46 (W.heap.size + 1 + 1 + 1) [.int .i64 2, .string (bstr x1), .string (bstr x2), .slice none 0 0]) (by kernel_rfl) ⟨HA.out, HE.out⟩ (fun hHeld => ?_)
     try simp only [Act.put]
     clear hb7
     generalize w13.drew = wa at hHeld HA HQ HR HE HB HVE ⊢
     refine wpAnyH_take (i := 0) (oi := ⟨some 92, _, _, _, _, _⟩) (v := .agg #[.slice (some ⟨tb, 0, none⟩) ts.length c, .int .i64 (i2 : Nat), .int .i64 (k2 : Nat), .int .i64 (s.o : Nat), .int .i64 (l1 : Nat)]) rfl (by kernel_rfl) (by kernel_rfl) (by kernel_rfl) (fun _ _ _ h => h) (.inl ⟨by rfl, fun w' hSw => ?_⟩) hHeld ?_
     focus (obtain ⟨q0, _, q1, _, q2, _, q3, _, q4, _⟩ := hSw.1.all5; clear hHeld; go_simp)
     try simp only [Act.put, pz0, pz1, pz2]
     refine wpAnyH_take (i := 1) (oi := ⟨some 93, _, _, _, _, _⟩) (v := .agg #[.int .i64 2, .string (bstr x1), .string (bstr x2), .slice none 0 0]) rfl (by kernel_rfl) (by kernel_rfl) (by kernel_rfl) (fun _ _ _ h => h) (.inl ⟨by rfl, fun w' hSw => ?_⟩) hHeld ?_
     focus (obtain ⟨q0, _, q1, _, q2, _, q3, _⟩ := hSw.2.all4; clear hHeld; go_simp)
     try simp only [Act.put, pz0, pz1, pz2]
     refine wpAnyH_ready (rs := [2]) (by kernel_rfl) (by simp) ?_
     refine AllReadyH.cons (o := ⟨none, _, _, _, _, _⟩) rfl (fun K' hK' => ?_) AllReadyH.nil
     obtain ⟨u0, v0, u1, v1, u2, v2, u3, v3, u4, v4⟩ := HQ.out.all5
     have hkn := And.intro (hHeld.1.off5 (b := W.heap.size + 1) (by simp only [ne_eq]; omega) (.slice (some ⟨tb, 0, none⟩) ts.length c) (.int .i64 (i2 : Nat)) (.int .i64 (k2 : Nat)) (.int .i64 (s.o : Nat)) (.int .i64 (l1 : Nat))) (hHeld.2.off5 (b := W.heap.size + 1) (by simp only [ne_eq]; omega) (.slice (some ⟨tb, 0, none⟩) ts.length c) (.int .i64 (i2 : Nat)) (.int .i64 (k2 : Nat)) (.int .i64 (s.o : Nat)) (.int .i64 (l1 : Nat)))
     clear hHeld
     go_simp
     clear u0 v0 u1 v1 u2 v2 u3 v3 u4 v4
     refine hK'.out _ _ hkn (fun hHeld => ?_)
     clear hK' K' hkn
     try simp only [Act.put, pz0, pz1, pz2]
     have hkp := kp_setP wa (W.heap.size + 1) (.slice (some ⟨tb, 0, none⟩) ts.length c) (.int .i64 (i2 : Nat)) (.int .i64 (k2 : Nat)) (.int .i64 (s.o : Nat)) (.int .i64 (l1 : Nat))
     have HQ := hiD (HQ.out.setP (.slice (some ⟨tb, 0, none⟩) ts.length c) (.int .i64 (i2 : Nat)) (.int .i64 (k2 : Nat)) (.int .i64 (s.o : Nat)) (.int .i64 (l1 : Nat)))
     have HR := hiD (hkp.arr HR.out (by omega))
     have HVE := hiD (HVE.out.kp hkp (by omega))
     have HB := hiD (HB.out.trans (hkp.below (B := W.heap.size) (by omega) HB.out.size))
     clear hkp
     generalize (((((wa.setCell ⟨W.heap.size + 1, 0, none⟩ (.slice (some ⟨tb, 0, none⟩) ts.length c)).setCell ⟨W.heap.size + 1, 1, none⟩ (.int .i64 (i2 : Nat))).setCell ⟨W.heap.size + 1, 2, none⟩ (.int .i64 (k2 : Nat))).setCell ⟨W.heap.size + 1, 3, none⟩ (.int .i64 (s.o : Nat))).setCell ⟨W.heap.size + 1, 4, none⟩ (.int .i64 (l1 : Nat))) = wb at hHeld HQ HR HB HVE ⊢
     refine wpAnyH_ready (rs := [3]) (by kernel_rfl) (by simp) ?_
     refine AllReadyH.cons (o := ⟨none, _, _, _, _, _⟩) rfl (fun K' hK' => ?_) AllReadyH.nil
     obtain ⟨u0, v0, u1, v1, u2, v2, u3, v3⟩ := HR.out.all4
     have hkn := And.intro (hHeld.1.off4 (b := W.heap.size + 1 + 1) (by simp only [ne_eq]; omega) (.int .i64 2) (.string (bstr x1)) (.string (bstr x2)) (.slice none 0 0)) (hHeld.2.off4 (b := W.heap.size + 1 + 1) (by simp only [ne_eq]; omega) (.int .i64 2) (.string (bstr x1)) (.string (bstr x2)) (.slice none 0 0))
     clear hHeld
     go_simp
     clear u0 v0 u1 v1 u2 v2 u3 v3
     refine hK'.out _ _ hkn (fun hHeld => ?_)
     clear hK' K' hkn
     try simp only [Act.put, pz0, pz1, pz2]
     have hkp := kp_set4 wb (W.heap.size + 1 + 1) (.int .i64 2) (.string (bstr x1)) (.string (bstr x2)) (.slice none 0 0)
     have HR := hiD (HR.out.set4 (.int .i64 2) (.string (bstr x1)) (.string (bstr x2)) (.slice none 0 0))
     have HQ := hiD (hkp.arr HQ.out (by omega))
     have HVE := hiD (HVE.out.kp hkp (by omega))
     have HB := hiD (HB.out.trans (hkp.below (B := W.heap.size) (by omega) HB.out.size))
     clear hkp
     generalize ((((wb.setCell ⟨W.heap.size + 1 + 1, 0, none⟩ (.int .i64 2)).setCell ⟨W.heap.size + 1 + 1, 1, none⟩ (.string (bstr x1))).setCell ⟨W.heap.size + 1 + 1, 2, none⟩ (.string (bstr x2))).setCell ⟨W.heap.size + 1 + 1, 3, none⟩ (.slice none 0 0)) = wc at hHeld HQ HR HB HVE ⊢
     refine wpAnyH_done (by kernel_rfl) ?_ _
     go_wp2_with fail
     clear hHeld
     have c0 := HQ.out.cell 0
     have c1 := HQ.out.cell 1
     have c2 := HQ.out.cell 2
     have c3 := HQ.out.cell 3
     have c4 := HQ.out.cell 4
     have d0 := HR.out.cell 0
     have d1 := HR.out.cell 1
     have d2 := HR.out.cell 2
     have d3 := HR.out.cell 3
     simp only [List.getElem?_cons_zero, List.getElem?_cons_succ] at c0 c1 c2 c3 c4 d0 d1 d2 d3
     refine bodyPost_ret (v := .tuple #[.agg #[.slice (some ⟨tb, 0, none⟩) ts.length c, .int .i64 (i2 : Nat), .int .i64 (k2 : Nat), .int .i64 (s.o : Nat), .int .i64 (l1 : Nat)], .agg #[.int .i64 2, .string (bstr x1), .string (bstr x2), .slice none 0 0]]) ?_ rfl ⟨i2, k2, l1, _, _, HGF.out, rfl, HVE.out.low (by omega), HB.out⟩
     simp [results, Tryz.results54, go_sem, c0, c1, c2, c3, c4, d0, d1, d2, d3]
  ·have hk5 : ((k : Int) == 0) = false := by
    have : ¬ (k : Int) = 0 := by omega
    simpa using this
   have HNL : Hid (k = 0 → isName (bstr (txt ts s.i)) = true → s.l < 32) := fun h => absurd h hk
   clear hk
   obtain ⟨p0, z0, p1, z1, p2, z2, p3, z3, p4, z4⟩ := HA.out.all5
   go_upto_region 13 with (fail)
   clear p0 z0 p1 z1 p2 z2 p3 z3 p4 z4
   clear hk5
   have hzl0 : (0 : Int) ≤ s.l := by omega
   have hzl1 : (s.l : Int) ≤ 100 := by have := HL.out.1; omega
   obtain ⟨p0, z0, p1, z1, p2, z2, p3, z3, p4, z4⟩ := HA.out.all5
   go_upto_region 14 with (fail)
   clear p0 z0 p1 z1 p2 z2 p3 z3 p4 z4
   have hkp := (Kp.of (pb := W.heap.size) (Below.refl w2.heap.size w2)).set 4 (.int .i64 ((s.l : Int) + 1))
   have HA : Hid (Arr (w2.setCell ⟨W.heap.size, 4, none⟩ (.int .i64 ((s.l : Int) + 1))) 56 (W.heap.size) [.slice (some ⟨tb, 0, none⟩) ts.length c, .int .i64 (s.i : Nat), .int .i64 (k : Nat), .int .i64 (s.o : Nat), .int .i64 (s.l + 1 : Nat)]) := by
    have h := HA.out.set 4 (.int .i64 ((s.l : Int) + 1))
    rw [show ((s.l + 1 : Nat) : Int) = (s.l : Int) + 1 from by simp]
    exact h
   have HQ := hiD (hkp.arr HQ.out (by omega))
   have HR := hiD (hkp.arr HR.out (by omega))
   have HE := hiD (hkp.arr HE.out (by omega))
   have HT := hiD (HT.out.kp hkp (by first | omega | (have := HZ.out; omega)))
   have HB := hiD (HB.out.trans (hkp.below (B := W.heap.size) (by omega) HB.out.size))
   clear hkp
   generalize (w2.setCell ⟨W.heap.size, 4, none⟩ (.int .i64 ((s.l : Int) + 1))) = w3 at HA HQ HR HE HT HB ⊢
   obtain ⟨l1, hl1⟩ : ∃ l1, l1 = s.l + 1 := ⟨_, rfl⟩
   have HL1 := hiD hl1
   rw [← hl1] at HA
   clear hl1
   have HNM := hiD (rname_any (c := c) (k := k) (s := ⟨s.i, s.o, l1⟩) HO.out HT.out HH.out ⟨by have := HL32.out; have := HL1.out; show l1 ≤ 33; omega, fun a b => by have := HNL.out a b; have := HL1.out; show l1 ≤ 32; omega⟩)
   obtain ⟨p0, z0, p1, z1, p2, z2, p3, z3, p4, z4⟩ := HA.out.all5
   go_wp2_with fail
   refine HNM.out.mono ?_
   rintro r w4 ⟨i1, k1, x1, hg1, rfl, b4⟩
   have HG1 := hiD hg1
   clear p0 z0 p1 z1 p2 z2 p3 z3 p4 z4
   have HQ := hiD (HQ.out.later b4)
   have HR := hiD (HR.out.later b4)
   have HE := hiD (HE.out.later b4)
   have HT := hiD (HT.out.later b4)
   have HA := hiD (HA.out.later b4)
   have HB := hiD (HB.out.trans (b4.mono HB.out.size))
   clear hg1 b4 HNM
   obtain ⟨p0, z0, p1, z1, p2, z2, p3, z3, p4, z4⟩ := HA.out.all5
   obtain ⟨ea0, eb0, ea1, eb1, ea2, eb2, ea3, eb3⟩ := HE.out.all4
   go_upto_region 15 with (fail)
   clear p0 z0 p1 z1 p2 z2 p3 z3 p4 z4
   clear ea0 eb0 ea1 eb1 ea2 eb2 ea3 eb3
   have hkp := kp_setP w4 (W.heap.size) (.slice (some ⟨tb, 0, none⟩) ts.length c) (.int .i64 (i1 : Nat)) (.int .i64 (k1 : Nat)) (.int .i64 (s.o : Nat)) (.int .i64 (l1 : Nat))
   have HA := hiD (HA.out.setP (.slice (some ⟨tb, 0, none⟩) ts.length c) (.int .i64 (i1 : Nat)) (.int .i64 (k1 : Nat)) (.int .i64 (s.o : Nat)) (.int .i64 (l1 : Nat)))
   have HQ := hiD (hkp.arr HQ.out (by omega))
   have HR := hiD (hkp.arr HR.out (by omega))
   have HE := hiD (hkp.arr HE.out (by omega))
   have HT := hiD (HT.out.kp hkp (by first | omega | (have := HZ.out; omega)))
   have HB := hiD (HB.out.trans (hkp.below (B := W.heap.size) (Nat.le_refl _) HB.out.size))
   clear hkp
   generalize (((((w4.setCell ⟨W.heap.size, 0, none⟩ (.slice (some ⟨tb, 0, none⟩) ts.length c)).setCell ⟨W.heap.size, 1, none⟩ (.int .i64 (i1 : Nat))).setCell ⟨W.heap.size, 2, none⟩ (.int .i64 (k1 : Nat))).setCell ⟨W.heap.size, 3, none⟩ (.int .i64 (s.o : Nat))).setCell ⟨W.heap.size, 4, none⟩ (.int .i64 (l1 : Nat))) = w5 at HA HQ HR HE HT HB ⊢
   have hkp := (Kp.of (pb := W.heap.size + 1 + 1 + 1) (Below.refl w5.heap.size w5)).set 2 (.string (bstr x1))
   have HE : Hid (Arr (w5.setCell ⟨W.heap.size + 1 + 1 + 1, 2, none⟩ (.string (bstr x1))) 46 (W.heap.size + 1 + 1 + 1) [.int .i64 1, .string ⟨#[]⟩, .string (bstr x1), .slice none 0 0]) := HE.out.set 2 (.string (bstr x1))
   have HA := hiD (hkp.arr HA.out (by omega))
   have HQ := hiD (hkp.arr HQ.out (by omega))
   have HR := hiD (hkp.arr HR.out (by omega))
   have HT := hiD (HT.out.kp hkp (by first | omega | (have := HZ.out; omega)))
   have HB := hiD (HB.out.trans (hkp.below (B := W.heap.size) (by omega) HB.out.size))
   clear hkp
   generalize (w5.setCell ⟨W.heap.size + 1 + 1 + 1, 2, none⟩ (.string (bstr x1))) = w6 at HE HA HQ HR HT HB ⊢
   have HIS := hiD (ris_any (s := ⟨i1, s.o, l1⟩) (c := c) (k := k1) HO.out.1 HT.out HG1.out.1 ⟨#[45, 62]⟩ [45, 62] rfl (by decide))
   obtain ⟨d2, hd2⟩ : ∃ d, d = (decide (k1 = 0) && decide (txt ts i1 = [45, 62])) := ⟨_, rfl⟩
   have HD2 := hiD hd2
   rw [show (decide (k1 = 0) && decide (txt ts (⟨i1, s.o, l1⟩ : PS).i = [45, 62])) = d2 from hd2.symm] at HIS
   clear hd2
   obtain ⟨p0, z0, p1, z1, p2, z2, p3, z3, p4, z4⟩ := HA.out.all5
   go_wp2_with fail
   refine HIS.out.mono ?_
   rintro r w7 ⟨rfl, b7⟩
   clear p0 z0 p1 z1 p2 z2 p3 z3 p4 z4
   have HQ := hiD (HQ.out.later b7)
   have HR := hiD (HR.out.later b7)
   have HE := hiD (HE.out.later b7)
   have HT := hiD (HT.out.later b7)
   have HA := hiD (HA.out.later b7)
   have HB := hiD (HB.out.trans (b7.mono HB.out.size))
   clear b7 HIS
   cases d2 with
   | false =>
    have hd := HD2.out
    simp only [Bool.false_eq, Bool.and_eq_false_iff, decide_eq_false_iff_not] at hd
    have hd' : ¬ (k1 = 0 ∧ txt ts i1 = [45, 62]) := fun h => hd.elim (fun h1 => h1 h.1) (fun h2 => h2 h.2)
    have HGF : Hid (Go1 ts k1 i1 s.o l1 (.mk 1 [] x1 []) (st k s.i (unitW ts U s))) := by
     show Go1 _ _ _ _ _ _ _
     have h := HG1.out
     by_cases hk : k = 0
     ·rw [HL1.out] at h ⊢
      rw [st_0 hk] at h ⊢
      exact unit_leaf0 (HNP.out hk) (fun hn => HNL.out hk hn) h hd'
     ·rw [st_n hk] at h ⊢
      exact go1_stuck h
    have HVE : Hid (VE (W.heap.size + 4) (.mk 1 [] x1 []) w7 (.agg #[.int .i64 1, .string ⟨#[]⟩, .string (bstr x1), .slice none 0 0])) := VE.leaf _ _ 1 [] x1
    clear hd hd'
    obtain ⟨p0, z0, p1, z1, p2, z2, p3, z3, p4, z4⟩ := HA.out.all5
    obtain ⟨ea0, eb0, ea1, eb1, ea2, eb2, ea3, eb3⟩ := HE.out.all4
    go_upto_region 20 with (fail)
    clear p0 z0 p1 z1 p2 z2 p3 z3 p4 z4
    clear ea0 eb0 ea1 eb1 ea2 eb2 ea3 eb3
    have hb7 : Below w7.heap.size w7 w7.drew := (Below.refl _ _).drew
    have HA := hiD (HA.out.later hb7)
    have HQ := hiD (HQ.out.later hb7)
    have HR := hiD (HR.out.later hb7)
    have HE := hiD (HE.out.later hb7)
    have HB := hiD (HB.out.trans (hb7.mono HB.out.size))
    have HVE := hiD (HVE.out.later hb7)
    refine wp_region_held_drew (S := fun W' => Arr W' 56 (W.heap.size) [.slice (some ⟨tb, 0, none⟩) ts.length c, .int .i64 (i1 : Nat), .int .i64 (k1 : Nat), .int .i64 (s.o : Nat), .int .i64 (l1 : Nat)] ∧ Arr W' 46 (W.heap.size + 1 + 1 + 1) [.int .i64 1, .string ⟨#[]⟩, .string (bstr x1), .slice none 0 0]) (by kernel_rfl) ⟨HA.out, HE.out⟩ (fun hHeld => ?_)
    try simp only [Act.put]
    clear hb7
    generalize w7.drew = wa at hHeld HA HQ HR HE HB HVE ⊢
    refine wpAnyH_take (i := 0) (oi := ⟨some 92, _, _, _, _, _⟩) (v := .agg #[.slice (some ⟨tb, 0, none⟩) ts.length c, .int .i64 (i1 : Nat), .int .i64 (k1 : Nat), .int .i64 (s.o : Nat), .int .i64 (l1 : Nat)]) rfl (by kernel_rfl) (by kernel_rfl) (by kernel_rfl) (fun _ _ _ h => h) (.inl ⟨by rfl, fun w' hSw => ?_⟩) hHeld ?_
    focus (obtain ⟨q0, _, q1, _, q2, _, q3, _, q4, _⟩ := hSw.1.all5; clear hHeld; go_simp)
    try simp only [Act.put, pz0, pz1, pz2]
    refine wpAnyH_take (i := 1) (oi := ⟨some 93, _, _, _, _, _⟩) (v := .agg #[.int .i64 1, .string ⟨#[]⟩, .string (bstr x1), .slice none 0 0]) rfl (by kernel_rfl) (by kernel_rfl) (by kernel_rfl) (fun _ _ _ h => h) (.inl ⟨by rfl, fun w' hSw => ?_⟩) hHeld ?_
    focus (obtain ⟨q0, _, q1, _, q2, _, q3, _⟩ := hSw.2.all4; clear hHeld; go_simp)
    try simp only [Act.put, pz0, pz1, pz2]
    refine wpAnyH_ready (rs := [2]) (by kernel_rfl) (by simp) ?_
    refine AllReadyH.cons (o := ⟨none, _, _, _, _, _⟩) rfl (fun K' hK' => ?_) AllReadyH.nil
    obtain ⟨u0, v0, u1, v1, u2, v2, u3, v3, u4, v4⟩ := HQ.out.all5
    have hkn := And.intro (hHeld.1.off5 (b := W.heap.size + 1) (by simp only [ne_eq]; omega) (.slice (some ⟨tb, 0, none⟩) ts.length c) (.int .i64 (i1 : Nat)) (.int .i64 (k1 : Nat)) (.int .i64 (s.o : Nat)) (.int .i64 (l1 : Nat))) (hHeld.2.off5 (b := W.heap.size + 1) (by simp only [ne_eq]; omega) (.slice (some ⟨tb, 0, none⟩) ts.length c) (.int .i64 (i1 : Nat)) (.int .i64 (k1 : Nat)) (.int .i64 (s.o : Nat)) (.int .i64 (l1 : Nat)))
    clear hHeld
    go_simp
    clear u0 v0 u1 v1 u2 v2 u3 v3 u4 v4
    refine hK'.out _ _ hkn (fun hHeld => ?_)
    clear hK' K' hkn
    try simp only [Act.put, pz0, pz1, pz2]
    have hkp := kp_setP wa (W.heap.size + 1) (.slice (some ⟨tb, 0, none⟩) ts.length c) (.int .i64 (i1 : Nat)) (.int .i64 (k1 : Nat)) (.int .i64 (s.o : Nat)) (.int .i64 (l1 : Nat))
    have HQ := hiD (HQ.out.setP (.slice (some ⟨tb, 0, none⟩) ts.length c) (.int .i64 (i1 : Nat)) (.int .i64 (k1 : Nat)) (.int .i64 (s.o : Nat)) (.int .i64 (l1 : Nat)))
    have HR := hiD (hkp.arr HR.out (by omega))
    have HVE := hiD (HVE.out.kp hkp (by omega))
    have HB := hiD (HB.out.trans (hkp.below (B := W.heap.size) (by omega) HB.out.size))
    clear hkp
    generalize (((((wa.setCell ⟨W.heap.size + 1, 0, none⟩ (.slice (some ⟨tb, 0, none⟩) ts.length c)).setCell ⟨W.heap.size + 1, 1, none⟩ (.int .i64 (i1 : Nat))).setCell ⟨W.heap.size + 1, 2, none⟩ (.int .i64 (k1 : Nat))).setCell ⟨W.heap.size + 1, 3, none⟩ (.int .i64 (s.o : Nat))).setCell ⟨W.heap.size + 1, 4, none⟩ (.int .i64 (l1 : Nat))) = wb at hHeld HQ HR HB HVE ⊢
    refine wpAnyH_ready (rs := [3]) (by kernel_rfl) (by simp) ?_
    refine AllReadyH.cons (o := ⟨none, _, _, _, _, _⟩) rfl (fun K' hK' => ?_) AllReadyH.nil
    obtain ⟨u0, v0, u1, v1, u2, v2, u3, v3⟩ := HR.out.all4
    have hkn := And.intro (hHeld.1.off4 (b := W.heap.size + 1 + 1) (by simp only [ne_eq]; omega) (.int .i64 1) (.string ⟨#[]⟩) (.string (bstr x1)) (.slice none 0 0)) (hHeld.2.off4 (b := W.heap.size + 1 + 1) (by simp only [ne_eq]; omega) (.int .i64 1) (.string ⟨#[]⟩) (.string (bstr x1)) (.slice none 0 0))
    clear hHeld
    go_simp
    clear u0 v0 u1 v1 u2 v2 u3 v3
    refine hK'.out _ _ hkn (fun hHeld => ?_)
    clear hK' K' hkn
    try simp only [Act.put, pz0, pz1, pz2]
    have hkp := kp_set4 wb (W.heap.size + 1 + 1) (.int .i64 1) (.string ⟨#[]⟩) (.string (bstr x1)) (.slice none 0 0)
    have HR := hiD (HR.out.set4 (.int .i64 1) (.string ⟨#[]⟩) (.string (bstr x1)) (.slice none 0 0))
    have HQ := hiD (hkp.arr HQ.out (by omega))
    have HVE := hiD (HVE.out.kp hkp (by omega))
    have HB := hiD (HB.out.trans (hkp.below (B := W.heap.size) (by omega) HB.out.size))
    clear hkp
    generalize ((((wb.setCell ⟨W.heap.size + 1 + 1, 0, none⟩ (.int .i64 1)).setCell ⟨W.heap.size + 1 + 1, 1, none⟩ (.string ⟨#[]⟩)).setCell ⟨W.heap.size + 1 + 1, 2, none⟩ (.string (bstr x1))).setCell ⟨W.heap.size + 1 + 1, 3, none⟩ (.slice none 0 0)) = wc at hHeld HQ HR HB HVE ⊢
    refine wpAnyH_done (by kernel_rfl) ?_ _
    go_wp2_with fail
    clear hHeld
    have c0 := HQ.out.cell 0
    have c1 := HQ.out.cell 1
    have c2 := HQ.out.cell 2
    have c3 := HQ.out.cell 3
    have c4 := HQ.out.cell 4
    have d0 := HR.out.cell 0
    have d1 := HR.out.cell 1
    have d2 := HR.out.cell 2
    have d3 := HR.out.cell 3
    simp only [List.getElem?_cons_zero, List.getElem?_cons_succ] at c0 c1 c2 c3 c4 d0 d1 d2 d3
    refine bodyPost_ret (v := .tuple #[.agg #[.slice (some ⟨tb, 0, none⟩) ts.length c, .int .i64 (i1 : Nat), .int .i64 (k1 : Nat), .int .i64 (s.o : Nat), .int .i64 (l1 : Nat)], .agg #[.int .i64 1, .string ⟨#[]⟩, .string (bstr x1), .slice none 0 0]]) ?_ rfl ⟨i1, k1, l1, _, _, HGF.out, rfl, HVE.out.low (by omega), HB.out⟩
    simp [results, Tryz.results54, go_sem, c0, c1, c2, c3, c4, d0, d1, d2, d3]
   | true =>
    have hd := HD2.out
    simp only [Bool.true_eq, Bool.and_eq_true, decide_eq_true_eq] at hd
    have HK1 := hiD hd.1
    have HT1 := hiD hd.2
    have HS1 : Hid (i1 + 1 < ts.length) := HO.out.1.step (by rw [hd.2]; decide)
    clear hd
    have hzi0 : (0 : Int) ≤ i1 := by omega
    have hzi1 : (i1 : Int) ≤ 100000 := by have := HG1.out.1; have := HT.out.2.1; omega
    obtain ⟨ea0, eb0, ea1, eb1, ea2, eb2, ea3, eb3⟩ := HE.out.all4
    go_upto_region 17 with (fail)
    clear ea0 eb0 ea1 eb1 ea2 eb2 ea3 eb3
    have hkp := (Kp.of (pb := W.heap.size + 1 + 1 + 1) (Below.refl w7.heap.size w7)).set 0 (.int .i64 2)
    have HE : Hid (Arr (w7.setCell ⟨W.heap.size + 1 + 1 + 1, 0, none⟩ (.int .i64 2)) 46 (W.heap.size + 1 + 1 + 1) [.int .i64 2, .string ⟨#[]⟩, .string (bstr x1), .slice none 0 0]) := HE.out.set 0 (.int .i64 2)
    have HA := hiD (hkp.arr HA.out (by omega))
    have HQ := hiD (hkp.arr HQ.out (by omega))
    have HR := hiD (hkp.arr HR.out (by omega))
    have HT := hiD (HT.out.kp hkp (by first | omega | (have := HZ.out; omega)))
    have HB := hiD (HB.out.trans (hkp.below (B := W.heap.size) (by omega) HB.out.size))
    clear hkp
    generalize (w7.setCell ⟨W.heap.size + 1 + 1 + 1, 0, none⟩ (.int .i64 2)) = w8 at HE HA HQ HR HT HB ⊢
    obtain ⟨ea0, eb0, ea1, eb1, ea2, eb2, ea3, eb3⟩ := HE.out.all4
    go_upto_region 18 with (fail)
    clear ea0 eb0 ea1 eb1 ea2 eb2 ea3 eb3
    have hkp := (Kp.of (pb := W.heap.size + 1 + 1 + 1) (Below.refl w8.heap.size w8)).set 1 (.string (bstr x1))
    have HE : Hid (Arr (w8.setCell ⟨W.heap.size + 1 + 1 + 1, 1, none⟩ (.string (bstr x1))) 46 (W.heap.size + 1 + 1 + 1) [.int .i64 2, .string (bstr x1), .string (bstr x1), .slice none 0 0]) := HE.out.set 1 (.string (bstr x1))
    have HA := hiD (hkp.arr HA.out (by omega))
    have HQ := hiD (hkp.arr HQ.out (by omega))
    have HR := hiD (hkp.arr HR.out (by omega))
    have HT := hiD (HT.out.kp hkp (by first | omega | (have := HZ.out; omega)))
    have HB := hiD (HB.out.trans (hkp.below (B := W.heap.size) (by omega) HB.out.size))
    clear hkp
    generalize (w8.setCell ⟨W.heap.size + 1 + 1 + 1, 1, none⟩ (.string (bstr x1))) = w9 at HE HA HQ HR HT HB ⊢
    obtain ⟨p0, z0, p1, z1, p2, z2, p3, z3, p4, z4⟩ := HA.out.all5
    go_upto_region 19 with (fail)
    clear p0 z0 p1 z1 p2 z2 p3 z3 p4 z4
    have hkp := (Kp.of (pb := W.heap.size) (Below.refl w9.heap.size w9)).set 1 (.int .i64 ((i1 : Int) + 1))
    have HA : Hid (Arr (w9.setCell ⟨W.heap.size, 1, none⟩ (.int .i64 ((i1 : Int) + 1))) 56 (W.heap.size) [.slice (some ⟨tb, 0, none⟩) ts.length c, .int .i64 (i1 + 1 : Nat), .int .i64 (k1 : Nat), .int .i64 (s.o : Nat), .int .i64 (l1 : Nat)]) := by
     have h := HA.out.set 1 (.int .i64 ((i1 : Int) + 1))
     rw [show ((i1 + 1 : Nat) : Int) = (i1 : Int) + 1 from by simp]
     exact h
    have HQ := hiD (hkp.arr HQ.out (by omega))
    have HR := hiD (hkp.arr HR.out (by omega))
    have HE := hiD (hkp.arr HE.out (by omega))
    have HT := hiD (HT.out.kp hkp (by first | omega | (have := HZ.out; omega)))
    have HB := hiD (HB.out.trans (hkp.below (B := W.heap.size) (by omega) HB.out.size))
    clear hkp
    generalize (w9.setCell ⟨W.heap.size, 1, none⟩ (.int .i64 ((i1 : Int) + 1))) = w10 at HA HQ HR HE HT HB ⊢
    have HNM := hiD (rname_any (c := c) (k := k1) (s := ⟨i1 + 1, s.o, l1⟩) HO.out HT.out HS1.out ⟨HG1.out.2.1.1, fun a _ => HG1.out.2.1.2 a⟩)
    obtain ⟨p0, z0, p1, z1, p2, z2, p3, z3, p4, z4⟩ := HA.out.all5
    go_wp2_with fail
    refine HNM.out.mono ?_
    rintro r w11 ⟨i2, k2, x2, hg2, rfl, b11⟩
    have HGF : Hid (Go1 ts k2 i2 s.o l1 (.mk 2 x1 x2 []) (st k s.i (unitW ts U s))) := by
     show Go1 _ _ _ _ _ _ _
     have h := HG1.out
     by_cases hk : k = 0
     ·have h2 := hg2
      rw [HL1.out] at h h2 ⊢
      rw [st_0 hk] at h ⊢
      exact unit_leaf1 (HNP.out hk) (fun hn => HNL.out hk hn) h HK1.out HT1.out h2
     ·rw [st_n hk] at h
      obtain ⟨_, _, ⟨_, h3⟩ | ⟨h3, _⟩⟩ := h
      ·cases h3
      ·exact absurd HK1.out h3
    clear p0 z0 p1 z1 p2 z2 p3 z3 p4 z4
    have HQ := hiD (HQ.out.later b11)
    have HR := hiD (HR.out.later b11)
    have HE := hiD (HE.out.later b11)
    have HT := hiD (HT.out.later b11)
    have HA := hiD (HA.out.later b11)
    have HB := hiD (HB.out.trans (b11.mono HB.out.size))
    clear hg2 b11 HNM
    obtain ⟨p0, z0, p1, z1, p2, z2, p3, z3, p4, z4⟩ := HA.out.all5
    obtain ⟨ea0, eb0, ea1, eb1, ea2, eb2, ea3, eb3⟩ := HE.out.all4
    go_upto_region 20 with (fail)
    clear p0 z0 p1 z1 p2 z2 p3 z3 p4 z4
    clear ea0 eb0 ea1 eb1 ea2 eb2 ea3 eb3
    have hkp := kp_setP w11 (W.heap.size) (.slice (some ⟨tb, 0, none⟩) ts.length c) (.int .i64 (i2 : Nat)) (.int .i64 (k2 : Nat)) (.int .i64 (s.o : Nat)) (.int .i64 (l1 : Nat))
    have HA := hiD (HA.out.setP (.slice (some ⟨tb, 0, none⟩) ts.length c) (.int .i64 (i2 : Nat)) (.int .i64 (k2 : Nat)) (.int .i64 (s.o : Nat)) (.int .i64 (l1 : Nat)))
    have HQ := hiD (hkp.arr HQ.out (by omega))
    have HR := hiD (hkp.arr HR.out (by omega))
    have HE := hiD (hkp.arr HE.out (by omega))
    have HT := hiD (HT.out.kp hkp (by first | omega | (have := HZ.out; omega)))
    have HB := hiD (HB.out.trans (hkp.below (B := W.heap.size) (Nat.le_refl _) HB.out.size))
    clear hkp
    generalize (((((w11.setCell ⟨W.heap.size, 0, none⟩ (.slice (some ⟨tb, 0, none⟩) ts.length c)).setCell ⟨W.heap.size, 1, none⟩ (.int .i64 (i2 : Nat))).setCell ⟨W.heap.size, 2, none⟩ (.int .i64 (k2 : Nat))).setCell ⟨W.heap.size, 3, none⟩ (.int .i64 (s.o : Nat))).setCell ⟨W.heap.size, 4, none⟩ (.int .i64 (l1 : Nat))) = w12 at HA HQ HR HE HT HB ⊢
    have hkp := (Kp.of (pb := W.heap.size + 1 + 1 + 1) (Below.refl w12.heap.size w12)).set 2 (.string (bstr x2))
    have HE : Hid (Arr (w12.setCell ⟨W.heap.size + 1 + 1 + 1, 2, none⟩ (.string (bstr x2))) 46 (W.heap.size + 1 + 1 + 1) [.int .i64 2, .string (bstr x1), .string (bstr x2), .slice none 0 0]) := HE.out.set 2 (.string (bstr x2))
    have HA := hiD (hkp.arr HA.out (by omega))
    have HQ := hiD (hkp.arr HQ.out (by omega))
    have HR := hiD (hkp.arr HR.out (by omega))
    have HT := hiD (HT.out.kp hkp (by first | omega | (have := HZ.out; omega)))
    have HB := hiD (HB.out.trans (hkp.below (B := W.heap.size) (by omega) HB.out.size))
    clear hkp
    generalize (w12.setCell ⟨W.heap.size + 1 + 1 + 1, 2, none⟩ (.string (bstr x2))) = w13 at HE HA HQ HR HT HB ⊢
    have HVE : Hid (VE (W.heap.size + 4) (.mk 2 x1 x2 []) w13 (.agg #[.int .i64 2, .string (bstr x1), .string (bstr x2), .slice none 0 0])) := VE.leaf _ _ 2 x1 x2
    have hb7 : Below w13.heap.size w13 w13.drew := (Below.refl _ _).drew
    have HA := hiD (HA.out.later hb7)
    have HQ := hiD (HQ.out.later hb7)
    have HR := hiD (HR.out.later hb7)
    have HE := hiD (HE.out.later hb7)
    have HB := hiD (HB.out.trans (hb7.mono HB.out.size))
    have HVE := hiD (HVE.out.later hb7)
    refine wp_region_held_drew (S := fun W' => Arr W' 56 (W.heap.size) [.slice (some ⟨tb, 0, none⟩) ts.length c, .int .i64 (i2 : Nat), .int .i64 (k2 : Nat), .int .i64 (s.o : Nat), .int .i64 (l1 : Nat)] ∧ Arr W' 46 (W.heap.size + 1 + 1 + 1) [.int .i64 2, .string (bstr x1), .string (bstr x2), .slice none 0 0]) (by kernel_rfl) ⟨HA.out, HE.out⟩ (fun hHeld => ?_)
    try simp only [Act.put]
    clear hb7
    generalize w13.drew = wa at hHeld HA HQ HR HE HB HVE ⊢
    refine wpAnyH_take (i := 0) (oi := ⟨some 92, _, _, _, _, _⟩) (v := .agg #[.slice (some ⟨tb, 0, none⟩) ts.length c, .int .i64 (i2 : Nat), .int .i64 (k2 : Nat), .int .i64 (s.o : Nat), .int .i64 (l1 : Nat)]) rfl (by kernel_rfl) (by kernel_rfl) (by kernel_rfl) (fun _ _ _ h => h) (.inl ⟨by rfl, fun w' hSw => ?_⟩) hHeld ?_
    focus (obtain ⟨q0, _, q1, _, q2, _, q3, _, q4, _⟩ := hSw.1.all5; clear hHeld; go_simp)
    try simp only [Act.put, pz0, pz1, pz2]
    refine wpAnyH_take (i := 1) (oi := ⟨some 93, _, _, _, _, _⟩) (v := .agg #[.int .i64 2, .string (bstr x1), .string (bstr x2), .slice none 0 0]) rfl (by kernel_rfl) (by kernel_rfl) (by kernel_rfl) (fun _ _ _ h => h) (.inl ⟨by rfl, fun w' hSw => ?_⟩) hHeld ?_
    focus (obtain ⟨q0, _, q1, _, q2, _, q3, _⟩ := hSw.2.all4; clear hHeld; go_simp)
    try simp only [Act.put, pz0, pz1, pz2]
    refine wpAnyH_ready (rs := [2]) (by kernel_rfl) (by simp) ?_
    refine AllReadyH.cons (o := ⟨none, _, _, _, _, _⟩) rfl (fun K' hK' => ?_) AllReadyH.nil
    obtain ⟨u0, v0, u1, v1, u2, v2, u3, v3, u4, v4⟩ := HQ.out.all5
    have hkn := And.intro (hHeld.1.off5 (b := W.heap.size + 1) (by simp only [ne_eq]; omega) (.slice (some ⟨tb, 0, none⟩) ts.length c) (.int .i64 (i2 : Nat)) (.int .i64 (k2 : Nat)) (.int .i64 (s.o : Nat)) (.int .i64 (l1 : Nat))) (hHeld.2.off5 (b := W.heap.size + 1) (by simp only [ne_eq]; omega) (.slice (some ⟨tb, 0, none⟩) ts.length c) (.int .i64 (i2 : Nat)) (.int .i64 (k2 : Nat)) (.int .i64 (s.o : Nat)) (.int .i64 (l1 : Nat)))
    clear hHeld
    go_simp
    clear u0 v0 u1 v1 u2 v2 u3 v3 u4 v4
    refine hK'.out _ _ hkn (fun hHeld => ?_)
    clear hK' K' hkn
    try simp only [Act.put, pz0, pz1, pz2]
    have hkp := kp_setP wa (W.heap.size + 1) (.slice (some ⟨tb, 0, none⟩) ts.length c) (.int .i64 (i2 : Nat)) (.int .i64 (k2 : Nat)) (.int .i64 (s.o : Nat)) (.int .i64 (l1 : Nat))
    have HQ := hiD (HQ.out.setP (.slice (some ⟨tb, 0, none⟩) ts.length c) (.int .i64 (i2 : Nat)) (.int .i64 (k2 : Nat)) (.int .i64 (s.o : Nat)) (.int .i64 (l1 : Nat)))
    have HR := hiD (hkp.arr HR.out (by omega))
    have HVE := hiD (HVE.out.kp hkp (by omega))
    have HB := hiD (HB.out.trans (hkp.below (B := W.heap.size) (by omega) HB.out.size))
    clear hkp
    generalize (((((wa.setCell ⟨W.heap.size + 1, 0, none⟩ (.slice (some ⟨tb, 0, none⟩) ts.length c)).setCell ⟨W.heap.size + 1, 1, none⟩ (.int .i64 (i2 : Nat))).setCell ⟨W.heap.size + 1, 2, none⟩ (.int .i64 (k2 : Nat))).setCell ⟨W.heap.size + 1, 3, none⟩ (.int .i64 (s.o : Nat))).setCell ⟨W.heap.size + 1, 4, none⟩ (.int .i64 (l1 : Nat))) = wb at hHeld HQ HR HB HVE ⊢
    refine wpAnyH_ready (rs := [3]) (by kernel_rfl) (by simp) ?_
    refine AllReadyH.cons (o := ⟨none, _, _, _, _, _⟩) rfl (fun K' hK' => ?_) AllReadyH.nil
    obtain ⟨u0, v0, u1, v1, u2, v2, u3, v3⟩ := HR.out.all4
    have hkn := And.intro (hHeld.1.off4 (b := W.heap.size + 1 + 1) (by simp only [ne_eq]; omega) (.int .i64 2) (.string (bstr x1)) (.string (bstr x2)) (.slice none 0 0)) (hHeld.2.off4 (b := W.heap.size + 1 + 1) (by simp only [ne_eq]; omega) (.int .i64 2) (.string (bstr x1)) (.string (bstr x2)) (.slice none 0 0))
    clear hHeld
    go_simp
    clear u0 v0 u1 v1 u2 v2 u3 v3
    refine hK'.out _ _ hkn (fun hHeld => ?_)
    clear hK' K' hkn
    try simp only [Act.put, pz0, pz1, pz2]
    have hkp := kp_set4 wb (W.heap.size + 1 + 1) (.int .i64 2) (.string (bstr x1)) (.string (bstr x2)) (.slice none 0 0)
    have HR := hiD (HR.out.set4 (.int .i64 2) (.string (bstr x1)) (.string (bstr x2)) (.slice none 0 0))
    have HQ := hiD (hkp.arr HQ.out (by omega))
    have HVE := hiD (HVE.out.kp hkp (by omega))
    have HB := hiD (HB.out.trans (hkp.below (B := W.heap.size) (by omega) HB.out.size))
    clear hkp
    generalize ((((wb.setCell ⟨W.heap.size + 1 + 1, 0, none⟩ (.int .i64 2)).setCell ⟨W.heap.size + 1 + 1, 1, none⟩ (.string (bstr x1))).setCell ⟨W.heap.size + 1 + 1, 2, none⟩ (.string (bstr x2))).setCell ⟨W.heap.size + 1 + 1, 3, none⟩ (.slice none 0 0)) = wc at hHeld HQ HR HB HVE ⊢
    refine wpAnyH_done (by kernel_rfl) ?_ _
    go_wp2_with fail
    clear hHeld
    have c0 := HQ.out.cell 0
    have c1 := HQ.out.cell 1
    have c2 := HQ.out.cell 2
    have c3 := HQ.out.cell 3
    have c4 := HQ.out.cell 4
    have d0 := HR.out.cell 0
    have d1 := HR.out.cell 1
    have d2 := HR.out.cell 2
    have d3 := HR.out.cell 3
    simp only [List.getElem?_cons_zero, List.getElem?_cons_succ] at c0 c1 c2 c3 c4 d0 d1 d2 d3
    refine bodyPost_ret (v := .tuple #[.agg #[.slice (some ⟨tb, 0, none⟩) ts.length c, .int .i64 (i2 : Nat), .int .i64 (k2 : Nat), .int .i64 (s.o : Nat), .int .i64 (l1 : Nat)], .agg #[.int .i64 2, .string (bstr x1), .string (bstr x2), .slice none 0 0]]) ?_ rfl ⟨i2, k2, l1, _, _, HGF.out, rfl, HVE.out.low (by omega), HB.out⟩
    simp [results, Tryz.results54, go_sem, c0, c1, c2, c3, c4, d0, d1, d2, d3]
end
end Go.Proofs.YtkildckeikedhaaGreatDoor
