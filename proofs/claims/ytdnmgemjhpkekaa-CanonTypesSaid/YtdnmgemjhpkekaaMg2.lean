/-
  schema.Same and canon.Is on two definitions without members.
-/
import Derived.Test.YtdnmgemjhpkekaaMg1
import Derived.Maps.AppendAt
import Derived.Defers
import Derived.Laws.EntriesVeiled
import Derived.Test.YtdnmgemjhpkekaaMg0
import Derived.Test.YtdnmgemjhpkekaaArr
import Derived.Deep.Slices
import Derived.Deep.Fields
import Derived.ChangeSame
import Derived.SizedLaws
import Derived.HandedShaped
import Derived.OpenShut
namespace Go.Proofs.Ytdnmgemjhpkekaa
open Go.ChangeShapes Go.WideShapes Go.ChangeAt Go.RowKit Go.Lib Go.Sort
set_option linter.unusedVariables false
set_option linter.unusedSectionVars false
set_option linter.unusedSimpArgs false

set_option maxRecDepth 100000 in
set_option maxHeartbeats 4000000 in
theorem eqfM_nil (w : World) (f : Value) : Calls Try.prog 57 #[.slice none 0 0, .slice none 0 0, f] w fun e w' => e = .returned (.bool true) ∧ w = w' := by
  go_enter Try.func57, Try.ntmps57
  go_wp2_with fail
  go_loopw [17] (fun iv wr => iv = .int .i64 0 ∧ wr = w) (fun _ _ => 0)
  case atStart => exact ⟨rfl, rfl⟩
  case round =>
    obtain ⟨rfl, rfl⟩ := hrel
    go_wp2_with fail
    go_ret
    exact ⟨rfl, rfl⟩
set_option maxRecDepth 100000 in
set_option maxHeartbeats 4000000 in
theorem sameDn (n : ByteArray) (w : World) : Calls Try.prog 42 #[.agg #[.string n, .slice none 0 0], .agg #[.string n, .slice none 0 0]] w fun e w' => e = .returned (.bool true) ∧ Below w.heap.size w w' := by
  have hb : Below w.heap.size w ((w.alloc (.cells #[.string n, .slice none 0 0] 39)).alloc (.cells #[.string n, .slice none 0 0] 39)) := ((Below.refl _ _).alloc (Nat.le_refl _) _).alloc (by simp) _
  have HB := Lib.hid hb
  clear hb
  go_enter Try.func42, Try.ntmps42
  go_wp2_with fail
  refine (eqfM_nil _ _).mono ?_
  rintro e w1 ⟨rfl, rfl⟩
  go_wp2_with fail
  go_ret
  exact ⟨rfl, HB.out⟩
set_option maxRecDepth 100000 in
set_option maxHeartbeats 4000000 in
theorem eqfD2 {w : World} {g h c d : Nat} {n1 n2 : ByteArray} (hp : DR w g n1 n2) (hq : DR w h n1 n2) : Calls Try.prog 41 #[.slice (some ⟨g, 0, none⟩) 2 c, .slice (some ⟨h, 0, none⟩) 2 d, .func (.func 42) #[] #[]] w fun e w' => e = .returned (.bool true) ∧ Below w.heap.size w w' := by
  have HP0 := Lib.hid hp
  have HQ0 := Lib.hid hq
  clear hp hq
  go_enter Try.func41, Try.ntmps41
  go_wp2_with fail
  go_loopw [17] (fun iv wr => ∃ i : Nat, i ≤ 2 ∧ iv = .int .i64 i ∧ Hid (DR wr g n1 n2) ∧ Hid (DR wr h n1 n2) ∧ Hid (Below w.heap.size w wr)) (fun iv _ => 2 - (intOf iv).toNat)
  case atStart => exact ⟨0, by omega, rfl, HP0.out, HQ0.out, Below.refl _ _⟩
  case round =>
    obtain ⟨i, hi, rfl, HP, HQ, HB⟩ := hrel
    clear HP0 HQ0
    by_cases h0 : i = 0
    · subst h0
      have ba : Below wr.heap.size wr (wr.alloc (.cells #[.string n1, .slice none 0 0] 39)) := (Below.refl _ _).alloc (Nat.le_refl _) _
      have bb : Below wr.heap.size wr ((wr.alloc (.cells #[.string n1, .slice none 0 0] 39)).alloc (.cells #[.string n1, .slice none 0 0] 39)) := ba.alloc (by simp) _
      have HPa := Lib.hid (HP.out.later ba)
      have HQa := Lib.hid (HQ.out.later ba)
      have k0 := HP.out.2.1.1
      have k1 := HP.out.2.1.2.1
      have j0 := HQa.out.2.1.1
      have j1 := HQa.out.2.1.2.1
      have HPb := Lib.hid (HP.out.later bb)
      have HQb := Lib.hid (HQ.out.later bb)
      have HBb := Lib.hid (HB.out.trans (bb.mono HB.out.size))
      have HSM := Lib.hid (sameDn n1 ((wr.alloc (.cells #[.string n1, .slice none 0 0] 39)).alloc (.cells #[.string n1, .slice none 0 0] 39)))
      clear ba bb HP HQ HB HPa HQa
      go_wp2_with fail
      refine HSM.out.mono ?_
      rintro e w5 ⟨rfl, b5⟩
      have HP5 := Lib.hid (HPb.out.later b5)
      have HQ5 := Lib.hid (HQb.out.later b5)
      have HB5 := Lib.hid (HBb.out.trans (b5.mono HBb.out.size))
      clear b5 HPb HQb HBb HSM k0 k1 j0 j1
      go_wp2_with fail
      go_roundw
      case rel => exact ⟨1, by omega, by go_num, HP5.out, HQ5.out, HB5.out⟩
      case measure => simp [intOf]
    · by_cases h1 : i = 1
      · subst h1
        have ba : Below wr.heap.size wr (wr.alloc (.cells #[.string n2, .slice none 0 0] 39)) := (Below.refl _ _).alloc (Nat.le_refl _) _
        have bb : Below wr.heap.size wr ((wr.alloc (.cells #[.string n2, .slice none 0 0] 39)).alloc (.cells #[.string n2, .slice none 0 0] 39)) := ba.alloc (by simp) _
        have HPa := Lib.hid (HP.out.later ba)
        have HQa := Lib.hid (HQ.out.later ba)
        have k0 := HP.out.2.1.2.2.1
        have k1 := HP.out.2.1.2.2.2
        have j0 := HQa.out.2.1.2.2.1
        have j1 := HQa.out.2.1.2.2.2
        have HPb := Lib.hid (HP.out.later bb)
        have HQb := Lib.hid (HQ.out.later bb)
        have HBb := Lib.hid (HB.out.trans (bb.mono HB.out.size))
        have HSM := Lib.hid (sameDn n2 ((wr.alloc (.cells #[.string n2, .slice none 0 0] 39)).alloc (.cells #[.string n2, .slice none 0 0] 39)))
        clear ba bb HP HQ HB HPa HQa
        go_wp2_with fail
        refine HSM.out.mono ?_
        rintro e w5 ⟨rfl, b5⟩
        have HP5 := Lib.hid (HPb.out.later b5)
        have HQ5 := Lib.hid (HQb.out.later b5)
        have HB5 := Lib.hid (HBb.out.trans (b5.mono HBb.out.size))
        clear b5 HPb HQb HBb HSM k0 k1 j0 j1
        go_wp2_with fail
        go_roundw
        case rel => exact ⟨2, by omega, by go_num, HP5.out, HQ5.out, HB5.out⟩
        case measure => simp [intOf]
      · obtain rfl : i = 2 := by omega
        clear h0 h1 hi
        go_wp2_with fail
        go_ret
        exact ⟨rfl, HB.out⟩
set_option maxRecDepth 100000 in
set_option maxHeartbeats 4000000 in
theorem same2 {w : World} {g h c d : Nat} {n1 n2 : ByteArray} (hp : DR w g n1 n2) (hq : DR w h n1 n2) : Calls Try.prog 25 #[.agg #[.slice (some ⟨g, 0, none⟩) 2 c], .agg #[.slice (some ⟨h, 0, none⟩) 2 d]] w fun e w' => e = .returned (.bool true) ∧ Below w.heap.size w w' := by
  have hb : Below w.heap.size w ((w.alloc (.cells #[.slice (some ⟨g, 0, none⟩) 2 c] 35)).alloc (.cells #[.slice (some ⟨h, 0, none⟩) 2 d] 35)) := ((Below.refl _ _).alloc (Nat.le_refl _) _).alloc (by simp) _
  have HE := Lib.hid (eqfD2 (c := c) (d := d) (hp.later hb) (hq.later hb))
  have HB := Lib.hid hb
  have a1 := (Arr.new2 w (.cells #[.slice (some ⟨g, 0, none⟩) 2 c] 35) 35 #[.slice (some ⟨h, 0, none⟩) 2 d] [.slice (some ⟨h, 0, none⟩) 2 d] rfl).cell 0
  have a0 := ((Arr.new' w 35 #[.slice (some ⟨g, 0, none⟩) 2 c] [.slice (some ⟨g, 0, none⟩) 2 c] rfl).alloc (.cells #[.slice (some ⟨h, 0, none⟩) 2 d] 35)).cell 0
  simp only [List.getElem?_cons_zero] at a0 a1
  clear hp hq hb
  go_enter Try.func25, Try.ntmps25
  go_wp2_with fail
  refine HE.out.mono ?_
  rintro e w1 ⟨rfl, b1⟩
  have HB1 := Lib.hid (HB.out.trans (b1.mono HB.out.size))
  clear b1 HE HB a0 a1
  go_wp2_with fail
  go_ret
  exact ⟨rfl, HB1.out⟩
theorem takeS2 {ops : Array Oper} {md : Region.Mode} {S : World → Prop} {Q : Exit → Act → World → Prop} {i : Nat} {o : Oper} {fuel : Nat} {listed : Array Bool} {a : Act} {w : World} {v : Value} (hi : ops[i]? = some o) (hs : Region.noSelect ops = true) (hf : Region.free md ops listed i = true) (hr : (Region.ready md ops listed).contains i = true)
    (hQ : ∀ c a w, Q (.panic c) (a.put o.dst (.agg #[v])) w → Q (.panic c) a w) (hwt : Region.wanted o (yielded ops a.tmps) = true) {x : Operand} {b off : Nat} (ho : o.op = .load 35 x ∧ a.eval x = .pointer (some ⟨b, off, none⟩)) (hS : ∀ w, S w → w.rangeAt b off [v]) (hw : S w)
    (h : wpAnyH Try.prog md ops Q S fuel (listed.setIfInBounds i true) (a.put o.dst (.agg #[v])) w) : wpAnyH Try.prog md ops Q S (fuel + 1) listed a w :=
  wpAnyH_take hi hs hf hr hQ (yieldsIf_load_mid hwt _ x ho.1 b off ho.2 [v] _ hS Try.underlying35 rfl (by kernel_rfl)) hw h
set_option maxRecDepth 100000 in
set_option maxHeartbeats 4000000 in
theorem is2 {w : World} {g c : Nat} {n1 n2 : ByteArray} (hp : DR w g n1 n2) (ho : ¬ ord n2 n1 < 0) : Calls Try.prog 11 #[.agg #[.slice (some ⟨g, 0, none⟩) 2 c]] w fun e w' => e = .returned (.bool true) ∧ Below w.heap.size w w' := by
  obtain ⟨w1, hw1⟩ : ∃ w1, w1 = w.alloc (.cells #[.slice (some ⟨g, 0, none⟩) 2 c] 35) := ⟨_, rfl⟩
  have hb : Below w.heap.size w w1 := by rw [hw1]; exact (Below.refl _ _).alloc (Nat.le_refl _) _
  have ha : Arr w1 35 w.heap.size [.slice (some ⟨g, 0, none⟩) 2 c] := by rw [hw1]; exact Arr.new' w 35 #[.slice (some ⟨g, 0, none⟩) 2 c] [.slice (some ⟨g, 0, none⟩) 2 c] rfl
  have HR : Hid (∀ w', Below w1.heap.size w1 w' → w'.rangeAt w.heap.size 0 [.slice (some ⟨g, 0, none⟩) 2 c]) := fun w' h => (ha.later h).range
  have HD := Lib.hid (hp.later hb)
  have HO : Hid (∀ (A B : Prop), (if ord n2 n1 < 0 then A else B) → B) := fun A B h => by rwa [if_neg ho] at h
  have HB := Lib.hid hb
  have HW := Lib.hid hw1
  clear hp ho hb ha hw1
  go_enter Try.func11, Try.ntmps11
  go_wp2_with fail
  rw [← HW.out]
  refine wp_region_noPanic ?_
  refine wp_region_held_drew (S := Below w1.heap.size w1) (by kernel_rfl) ((Below.refl _ _).drew) (fun hHeld => ?_)
  try simp only [Act.put]
  generalize w1.drew = wd at hHeld ⊢
  refine takeS2 (v := .slice (some ⟨g, 0, none⟩) 2 c) (i := 0) (o := ⟨some 3, _, _, _, _, _⟩) rfl (by kernel_rfl) (by kernel_rfl) (by kernel_rfl) (fun _ _ _ h => h) (by rfl) ⟨rfl, rfl⟩ HR.out hHeld ?_
  try simp only [Act.put, List.setIfInBounds_toArray, List.set_cons_zero, List.set_cons_succ]
  refine takeS2 (v := .slice (some ⟨g, 0, none⟩) 2 c) (i := 1) (o := ⟨some 4, _, _, _, _, _⟩) rfl (by kernel_rfl) (by kernel_rfl) (by kernel_rfl) (fun _ _ _ h => h) (by rfl) ⟨rfl, rfl⟩ HR.out hHeld ?_
  try simp only [Act.put, List.setIfInBounds_toArray, List.set_cons_zero, List.set_cons_succ]
  refine wpAnyH_ready (rs := [2]) (by kernel_rfl) (by simp) ?_
  refine AllReadyH.cons (o := ⟨some 5, _, _, _, _, _⟩) rfl (fun K' hK' => ?_) AllReadyH.nil
  refine stepw_call (R := fun v w'' => (∃ h d, v = .agg #[.slice (some ⟨h, 0, none⟩) 2 d] ∧ DR w'' h n1 n2) ∧ Below w1.heap.size w1 w'') (by rfl) ?_ ((csch2 (c := c) (HD.out.later hHeld)).mono fun e w'' ⟨h, d, h1, _, h3, b1⟩ => ⟨_, h1, ⟨h, d, rfl, HO.out _ _ h3⟩, hHeld.trans (b1.mono hHeld.size)⟩) ?_
  focus go_simp
  rintro v5 w5 ⟨⟨h, d, rfl, hd5⟩, hkn⟩
  refine hK'.out _ _ hkn (fun _ => ?_)
  clear hK' K' hHeld
  have hHeld := hkn
  clear hkn
  try simp only [Act.put, List.setIfInBounds_toArray, List.set_cons_zero, List.set_cons_succ]
  refine wpAnyH_ready (rs := [3]) (by kernel_rfl) (by simp) ?_
  refine AllReadyH.cons (o := ⟨some 6, _, _, _, _, _⟩) rfl (fun K' hK' => ?_) AllReadyH.nil
  refine stepw_call (R := fun v w'' => v = .bool true ∧ Below w1.heap.size w1 w'') (by rfl) ?_ ((same2 (c := c) (d := d) (HD.out.later hHeld) hd5).mono fun e w'' ⟨h1, b1⟩ => ⟨_, h1, rfl, hHeld.trans (b1.mono hHeld.size)⟩) ?_
  focus go_simp
  rintro v6 w6 ⟨rfl, hkn⟩
  refine hK'.out _ _ hkn (fun _ => ?_)
  clear hK' K' hHeld
  have hHeld := hkn
  clear hkn
  try simp only [Act.put, List.setIfInBounds_toArray, List.set_cons_zero, List.set_cons_succ]
  clear hd5
  refine wpAnyH_take (i := 4) (oi := ⟨some 2, _, _, _, _, _⟩) (v := .bool true) rfl (by kernel_rfl) (by kernel_rfl) (by kernel_rfl) (fun _ _ _ h => h) (.inl ⟨by rfl, fun w' hSw => ?_⟩) hHeld ?_
  focus (skip; clear hHeld; go_simp)
  try simp only [Act.put, List.setIfInBounds_toArray, List.set_cons_zero, List.set_cons_succ]
  refine wpAnyH_done (by kernel_rfl) ?_ _
  refine NoPanic.normal ?_
  have HB3 := Lib.hid (HB.out.trans (hHeld.mono HB.out.size))
  clear hHeld HB
  go_wp2_with fail
  go_ret
  exact ⟨rfl, HB3.out⟩
end Go.Proofs.Ytdnmgemjhpkekaa
/-
  canon.part's canonical: what lies in kids of the same kind is brought up, then put in order, each one once.
-/
namespace Go.Proofs.Ytdnmgemjhpkekaa
open Go.ChangeShapes Go.WideShapes Go.ChangeAt Go.RowKit Go.Lib Go.Sort
set_option linter.unusedVariables false
set_option linter.unusedSectionVars false
set_option linter.unusedSimpArgs false

section
variable {P : Nat → Prop} {base : Nat} {w w' : World} {v : Value} {ks xs : List Ex}
theorem LR.nil (P : Nat → Prop) (base : Nat) (w : World) : LR P base w (.slice none 0 0) [] := ⟨[], World.ownsRow_nil _ _ _ _, trivial⟩
theorem LR.form (h : LR P base w v ks) : ∃ q c, v = .slice q ks.length c := by
  obtain ⟨cs, h1, _⟩ := h
  rcases h1.2 with ⟨h, hn⟩ | ⟨g, cap, cur, hv, _⟩
  · exact ⟨none, 0, by rw [hn]; exact h⟩
  · exact ⟨_, _, hv⟩
theorem own_keepX {e size n : Nat} {cs : List Value} (h : w.ownsRow base e size v n cs) (hb : Below w.heap.size w w') : w'.ownsRow base e size v n cs := by
  rcases h with ⟨h0, h | ⟨g, cap, cur, h1, h2, h3, h4⟩⟩
  · exact ⟨h0, .inl h⟩
  · exact ⟨h0, .inr ⟨g, cap, cur, h1, h2, (hb.block g (Array.getElem?_eq_some_iff.1 h3).1).trans h3, h4⟩⟩
theorem LR.later (h : LR P base w v ks) (hP : ∀ b, P b → b < w.heap.size) (hb : Below w.heap.size w w') : LR P base w' v ks := by
  obtain ⟨cs, h1, h2⟩ := h
  exact ⟨cs, own_keepX h1 hb, h2.keep (cells_below hb hP)⟩
theorem cells_of_rdL {b : Nat} : ∀ {ks : List Ex} {o : Nat}, RdL P w ks b o → ∃ cs, CellsL P w ks cs ∧ ∀ j u, cs[j]? = some u → w.cell? ⟨b, o + j, none⟩ = some u
  | [], o, _ => ⟨[], trivial, fun j u h => by simp at h⟩
  | e :: r, o, h => by
    unfold RdL at h
    obtain ⟨⟨v0, v1, v2, v3, c0, c1, c2, c3, h1⟩, h2⟩ := h
    obtain ⟨cs, g1, g2⟩ := cells_of_rdL h2
    refine ⟨v0 :: v1 :: v2 :: v3 :: cs, ⟨h1, g1⟩, fun j u hj => ?_⟩
    match j, hj with
    | 0, hj => simp only [List.getElem?_cons_zero, Option.some.injEq] at hj; subst hj; exact c0
    | 1, hj => simp only [List.getElem?_cons_succ, List.getElem?_cons_zero, Option.some.injEq] at hj; subst hj; exact c1
    | 2, hj => simp only [List.getElem?_cons_succ, List.getElem?_cons_zero, Option.some.injEq] at hj; subst hj; exact c2
    | 3, hj => simp only [List.getElem?_cons_succ, List.getElem?_cons_zero, Option.some.injEq] at hj; subst hj; exact c3
    | j + 4, hj =>
      simp only [List.getElem?_cons_succ] at hj
      have := g2 j u hj
      rwa [show o + 4 + j = o + (j + 4) by omega] at this
theorem CellsL.len : ∀ {ks : List Ex} {cs : List Value}, CellsL P w ks cs → cs.length = ks.length * 4
  | [], [], _ => rfl
  | e :: r, v0 :: v1 :: v2 :: v3 :: cs, h => by
    have := CellsL.len h.2
    simp only [List.length_cons]; omega
  | [], _ :: _, h => h.elim
  | _ :: _, [], h => h.elim
  | _ :: _, [_], h => h.elim
  | _ :: _, [_, _], h => h.elim
  | _ :: _, [_, _, _], h => h.elim
theorem cells_app : ∀ {ks : List Ex} {cs : List Value}, CellsL P w ks cs → ∀ {xs : List Ex} {ds : List Value}, CellsL P w xs ds → CellsL P w (ks ++ xs) (cs ++ ds)
  | [], [], _, _, _, h2 => h2
  | e :: r, v0 :: v1 :: v2 :: v3 :: cs, h, _, _, h2 => ⟨h.1, cells_app h.2 h2⟩
  | [], _ :: _, h, _, _, _ => h.elim
  | _ :: _, [], h, _, _, _ => h.elim
  | _ :: _, [_], h, _, _, _ => h.elim
  | _ :: _, [_, _], h, _, _, _ => h.elim
  | _ :: _, [_, _, _], h, _, _, _ => h.elim
end
/-- append of expressions that are read. -/
theorem app_lr {ops : Array Oper} {rest : List Oper} {o : Oper} {a : Act} {Q : Exit → Act → World → Prop} {w : World} (hgd : o.guard = none) (s x : Operand) (ho : o.op = .call { callee := .builtin .append, args := #[s, x], argTypes := #[29, 29] })
    {P : Nat → Prop} {base m cap b off : Nat} {v : Value} {ks xs : List Ex} (hs : a.eval s = v) (hT : LR P base w v ks) (hx : a.eval x = .slice (some ⟨b, off, none⟩) m cap) (hm : m = xs.length) (hr : RdL P w xs b off)
    (hP : ∀ b, P b → b < base) (hlen : ks.length + xs.length ≤ 1000000) (hbase : base ≤ w.heap.size)
    (h : ∀ v' w', LR P base w' v' (ks ++ xs) → Below base w w' → wpList Try.prog ops Q rest (a.put o.dst v') w') : wpList Try.prog ops Q (o :: rest) a w := by
  obtain ⟨i0, hi, hz0, hz1, hz2⟩ := info_parts Try.infoEx
  obtain ⟨cs, h1, h2⟩ := hT
  obtain ⟨ds, g1, g2⟩ := cells_of_rdL hr
  subst hm
  refine wpList_append_own_at w hgd s x 29 ho base 31 i0 _ 4 64 Try.underlying29 hi hz0 hz1 hz2 rfl (by decide) v ks.length cs hs h1 ⟨b, off, none⟩ xs.length cap ds hx g1.len ?_ g1.ones (by unfold maxLen; omega) (by omega) hbase ?_
  · intro j u hu
    rw [show (Addr.add ⟨b, off, none⟩ j) = ⟨b, off + j, none⟩ by cases j <;> simp [Addr.add]]
    exact g2 j u hu
  · intro v' w' r1 r2 _ r4
    have hbl : Below base w w' := (Below.refl base w).grown r2 hbase fun k hk => (h1.lt k hk).1
    have hk := cells_below hbl hP
    exact h v' w' ⟨cs ++ ds, by rw [List.length_append]; exact r1, cells_app (h2.keep hk) (g1.keep hk)⟩ hbl

theorem sizeL_sum : ∀ l : List Ex, sizeL l = (l.map sizeE).sum
  | [] => rfl
  | e :: r => by rw [sizeL, List.map_cons, List.sum_cons, sizeL_sum r]
theorem put1_sumF {o : Ex → Ex → Int} (f : Ex → Nat) (t : Ex) : ∀ l : List Ex, ((put1O o t l).map f).sum ≤ f t + (l.map f).sum
  | [] => by simp [put1O]
  | a :: l => by
    unfold put1O
    split
    · have := put1_sumF (o := o) f t l
      simp only [List.map_cons, List.sum_cons]; omega
    · split
      · simp only [List.map_cons, List.sum_cons]; omega
      · simp only [List.map_cons, List.sum_cons]; omega
theorem srt_sumF {o : Ex → Ex → Int} (f : Ex → Nat) : ∀ (l out : List Ex), ((srtO o out l).map f).sum ≤ (out.map f).sum + (l.map f).sum
  | [], out => by simp [srtO]
  | t :: l, out => by
    have h1 := srt_sumF (o := o) f l (put1O o t out)
    have h2 := put1_sumF (o := o) f t out
    show ((srtO o (put1O o t out) l).map f).sum ≤ _
    simp only [List.map_cons, List.sum_cons]; omega
theorem sorted_size {o : Ex → Ex → Int} (l : List Ex) : sizeL (sortedO o l) ≤ sizeL l := by
  rw [sizeL_sum, sizeL_sum]
  have := srt_sumF (o := o) sizeE l []
  simpa [sortedO] using this
theorem getD_mem {ks : List Ex} {i : Nat} (h : i < ks.length) : ks.getD i ex0 ∈ ks := by
  rw [List.getD_eq_getElem?_getD, List.getElem?_eq_getElem h]; exact List.getElem_mem h
theorem sizeL_app : ∀ (a b : List Ex), sizeL (a ++ b) = sizeL a + sizeL b
  | [], b => by simp [sizeL]
  | e :: r, b => by rw [List.cons_append, sizeL, sizeL, sizeL_app r b]; omega
theorem sizeL_take (ks : List Ex) (i : Nat) : sizeL (ks.take i) ≤ sizeL ks := by
  conv => rhs; rw [← List.take_append_drop i ks, sizeL_app]
  omega
theorem flat_size {k : Int} : ∀ l : List Ex, sizeL (flatK k l) ≤ sizeL l
  | [] => Nat.le_refl _
  | x :: r => by
    have h1 := flat_size (k := k) r
    rw [flatK, sizeL_app, sizeL]
    split
    · obtain ⟨a, b, c, xs⟩ := x
      have : sizeL (Ex.mk a b c xs).kids = sizeL xs := rfl
      rw [this, sizeE]; omega
    · rw [sizeL, sizeL]; omega
theorem flat_take {k : Int} {ks : List Ex} {i : Nat} (h : i < ks.length) : flatK k (ks.take (i + 1)) = flatK k (ks.take i) ++ (if (ks.getD i ex0).kind = k then (ks.getD i ex0).kids else [ks.getD i ex0]) := by
  have happ : ∀ (a b : List Ex), flatK k (a ++ b) = flatK k a ++ flatK k b := fun a => by
    induction a with
    | nil => intro b; rfl
    | cons x r ih => intro b; rw [List.cons_append, flatK, flatK, ih, List.append_assoc]
  rw [take_snocE h, happ]
  simp only [flatK, List.append_nil]
theorem flat_ne {k : Int} : ∀ {ks : List Ex}, 0 < ks.length → (∀ x ∈ ks, x.kind = k → 0 < x.kids.length) → 0 < (flatK k ks).length
  | [], h, _ => h
  | x :: r, _, h => by
    rw [flatK, List.length_append]
    split
    · rename_i e; have := h x (by simp) e; omega
    · simp; omega
theorem fin_one {o : Ex → Ex → Int} {k : Int} {v n : List UInt8} {ks : List Ex} (hk : k = 3 ∨ k = 4) {y : Ex} (h : sortedO o (flatK k ks) = [y]) : finE o k v n ks = y := by
  unfold finE
  rw [if_pos hk, h]
theorem fin_many {o : Ex → Ex → Int} {k : Int} {v n : List UInt8} {ks : List Ex} (hk : k = 3 ∨ k = 4) (h : ¬ (sortedO o (flatK k ks)).length = 1) : finE o k v n ks = .mk k v n (sortedO o (flatK k ks)) := by
  unfold finE
  rw [if_pos hk]
  split
  · rename_i y e
    rw [e] at h
    exact absurd rfl h
  · rfl
theorem fin_other {o : Ex → Ex → Int} {k : Int} {v n : List UInt8} {ks : List Ex} (hk : ¬ (k = 3 ∨ k = 4)) : finE o k v n ks = .mk k v n ks := by
  unfold finE
  rw [if_neg hk]
theorem fin_size {o : Ex → Ex → Int} (k : Int) (v n : List UInt8) (ks : List Ex) : sizeE (finE o k v n ks) ≤ sizeE (.mk k v n ks) := by
  by_cases hk : k = 3 ∨ k = 4
  · have h1 : sizeL (sortedO o (flatK k ks)) ≤ sizeL ks := Nat.le_trans (sorted_size _) (flat_size ks)
    by_cases h : (sortedO o (flatK k ks)).length = 1
    · obtain ⟨y, hy⟩ : ∃ y, sortedO o (flatK k ks) = [y] := by
        match hl : sortedO o (flatK k ks), h with
        | [y], _ => exact ⟨y, rfl⟩
      rw [fin_one hk hy, sizeE]
      rw [hy, sizeL, sizeL] at h1
      omega
    · rw [fin_many hk h, sizeE, sizeE]; omega
  · rw [fin_other hk]; exact Nat.le_refl _
theorem heap_set4x (w : World) (g : Nat) (x0 x1 x2 x3 : Value) {b : Nat} (hb : b ≠ g) : ((((w.setCell ⟨g, 0, none⟩ x0).setCell ⟨g, 1, none⟩ x1).setCell ⟨g, 2, none⟩ x2).setCell ⟨g, 3, none⟩ x3).heap[b]? = w.heap[b]? :=
  (Below.heap_setCell _ ⟨g, 3, none⟩ _ b hb).trans ((Below.heap_setCell _ ⟨g, 2, none⟩ _ b hb).trans ((Below.heap_setCell _ ⟨g, 1, none⟩ _ b hb).trans (Below.heap_setCell _ ⟨g, 0, none⟩ _ b hb)))
/-- What the walk keeps: the result's cells, the part's, the row of what is brought up. -/
def KS (w : World) (P : Nat → Prop) (A : List Value) (v : Value) (L : List Ex) (W : World) : Prop :=
  Arr W 31 (w.heap.size + 1) [.int .i64 0, .string ByteArray.empty, .string ByteArray.empty, .slice none 0 0] ∧ Arr W 31 (w.heap.size + 1 + 1) A ∧ LR P (w.heap.size + 3) W v L ∧ Below w.heap.size w W ∧ w.heap.size + 3 ≤ W.heap.size ∧ ∀ b, P b → b < w.heap.size
theorem KS.later {w W W' : World} {P : Nat → Prop} {A : List Value} {v : Value} {L : List Ex} (h : KS w P A v L W) (hb : Below W.heap.size W W') : KS w P A v L W' :=
  ⟨h.1.later hb, h.2.1.later hb, h.2.2.1.later (fun b hb => by have := h.2.2.2.2.2 b hb; have := h.2.2.2.2.1; omega) hb, h.2.2.2.1.trans (hb.mono h.2.2.2.1.size), Nat.le_trans h.2.2.2.2.1 hb.size, h.2.2.2.2.2⟩
theorem KS.row {w W W' : World} {P : Nat → Prop} {A : List Value} {v v' : Value} {L L' : List Ex} (h : KS w P A v L W) (hT : LR P (w.heap.size + 3) W' v' L') (hb : Below (w.heap.size + 3) W W') : KS w P A v' L' W' :=
  ⟨h.1.below hb (by omega), h.2.1.below hb (by omega), hT, h.2.2.2.1.trans (hb.mono (by omega)), Nat.le_trans h.2.2.2.2.1 hb.size, h.2.2.2.2.2⟩
set_option maxRecDepth 100000 in
set_option maxHeartbeats 4000000 in
theorem canonical_any {P : Nat → Prop} {w : World} {e : Ex} {v : Value} (h : RdE P w e v) (hP : ∀ b, P b → b < w.heap.size) (hsz : sizeE e ≤ 900000) (hne : e.kind = 3 ∨ e.kind = 4 → 0 < e.kids.length ∧ ∀ x ∈ e.kids, x.kind = e.kind → 0 < x.kids.length) :
    Calls Try.prog 15 #[v] w fun r w' => ∃ v', r = .returned v' ∧ RdE (fun b => P b ∨ Bt w.heap.size w'.heap.size b) w' (finE cmpE e.kind e.via e.nm e.kids) v' ∧ Below w.heap.size w w' := by
  have HR := Lib.hid h
  obtain ⟨q, c, rfl, hc, hk⟩ := h.form
  obtain ⟨k, xv, xn, ks⟩ := e
  unfold exv
  show Calls _ _ #[.agg #[.int .i64 k, .string (bstr xv), .string (bstr xn), .slice q ks.length c]] _ _
  have HK : Hid (0 < ks.length → ∃ b o, q = some ⟨b, o, none⟩ ∧ P b ∧ RdL P w ks b o) := hk
  have hks : sizeL ks ≤ 900000 := by unfold sizeE at hsz; omega
  have hlen := sizeL_len ks
  have HNE := Lib.hid hne
  dsimp only [Ex.kind, Ex.via, Ex.nm, Ex.kids]
  have H0 : Hid (KS w P [.int .i64 k, .string (bstr xv), .string (bstr xn), .slice q ks.length c] (.slice none 0 0) [] (((w.alloc (.cells #[.int .i64 k, .string (bstr xv), .string (bstr xn), .slice q ks.length c] 46)).alloc (.cells #[.int .i64 0, .string ⟨#[]⟩, .string ⟨#[]⟩, .slice none 0 0] 31)).alloc (.cells #[.int .i64 k, .string (bstr xv), .string (bstr xn), .slice q ks.length c] 31))) :=
    ⟨(Arr.new2 w _ _ _ _ rfl).alloc _, by have := Arr.new3 w (.cells #[.int .i64 k, .string (bstr xv), .string (bstr xn), .slice q ks.length c] 46) (.cells #[.int .i64 0, .string ⟨#[]⟩, .string ⟨#[]⟩, .slice none 0 0] 31) 31 #[.int .i64 k, .string (bstr xv), .string (bstr xn), .slice q ks.length c] [.int .i64 k, .string (bstr xv), .string (bstr xn), .slice q ks.length c] rfl; exact this, LR.nil _ _ _, (((Below.refl _ _).alloc (Nat.le_refl _) _).alloc (by simp) _).alloc (by simp; omega) _, by simp, hP⟩
  clear h hc hk hne hsz
  go_enter Try.func15, Try.ntmps15
  go_upto_region 2 with fail
  generalize (((w.alloc (.cells #[.int .i64 k, .string (bstr xv), .string (bstr xn), .slice q ks.length c] 46)).alloc (.cells #[.int .i64 0, .string ⟨#[]⟩, .string ⟨#[]⟩, .slice none 0 0] 31)).alloc (.cells #[.int .i64 k, .string (bstr xv), .string (bstr xn), .slice q ks.length c] 31)) = w3 at H0 ⊢
  have HI3 := Lib.hid H0.out.2.2.2.1
  have e0 := H0.out.2.1.cell 0
  have e1 := H0.out.2.1.cell 1
  have e2 := H0.out.2.1.cell 2
  have e3 := H0.out.2.1.cell 3
  have r0 := H0.out.1.cell 0
  have r1 := H0.out.1.cell 1
  have r2 := H0.out.1.cell 2
  have r3 := H0.out.1.cell 3
  have p0 := H0.out.1.free 0
  have p1 := H0.out.1.free 1
  have p2 := H0.out.1.free 2
  have p3 := H0.out.1.free 3
  simp only [List.getElem?_cons_zero, List.getElem?_cons_succ] at e0 e1 e2 e3 r0 r1 r2 r3
  by_cases hk : k = 3 ∨ k = 4
  · have HKK := Lib.hid hk
    clear HKK
    rcases hk with rfl | rfl
    · go_wp2_with fail
      clear e0 e1 e2 e3 r0 r1 r2 r3 p0 p1 p2 p3
      go_loopw [4, 20] (fun dv iv wr => ∃ i : Nat, i ≤ ks.length ∧ iv = .int .i64 i ∧ Hid (KS w P [.int .i64 3, .string (bstr xv), .string (bstr xn), .slice q ks.length c] dv (flatK 3 (ks.take i)) wr)) (fun _ iv _ => ks.length - (intOf iv).toNat)
      case atStart => exact ⟨0, Nat.zero_le _, rfl, H0.out⟩
      case round =>
        obtain ⟨i, hi, rfl, HC⟩ := hrel
        have hi0 : (0 : Int) ≤ i := by omega
        have HI := Lib.hid HC.out.2.2.2.1
        obtain ⟨L, hL⟩ : ∃ L, L = flatK 3 (ks.take i) := ⟨_, rfl⟩
        rw [← hL] at HC
        obtain ⟨qv, cv, rfl⟩ := HC.out.2.2.1.form
        have HLL : Hid (sizeL L ≤ 900000) := by rw [hL]; exact Nat.le_trans (Nat.le_trans (flat_size _) (sizeL_take ks i)) hks
        have HLN : Hid (L.length ≤ 900000) := Nat.le_trans (sizeL_len L) HLL.out
        have HL := Lib.hid hL
        clear hL HI3 H0
        by_cases hlt : i < ks.length
        · have hi1 : (i : Int) < ks.length := by omega
          have hmem := getD_mem hlt
          obtain ⟨ba, oa, rfl, hba, hl⟩ := HK.out (by omega)
          obtain ⟨x, hx⟩ : ∃ x, x = ks.getD i ex0 := ⟨_, rfl⟩
          obtain ⟨q2, c2, x0, x1, x2, x3, hr⟩ := hl.at hlt
          have hxs := sizeL_get ks i hlt
          have hxd := depthL_get ks i hlt
          rw [← hx] at x0 x1 x2 x3 hr hxs hxd
          have HX := Lib.hid hx
          obtain ⟨xk, xv2, xn2, xs⟩ := x
          have cc : ∀ n, wr.cell? ⟨ba, n, none⟩ = w.cell? ⟨ba, n, none⟩ := fun n => (HI.out).cell (p := ⟨ba, n, none⟩) (hP _ hba)
          have X0 : wr.cell? ⟨ba, oa + i * 4, none⟩ = some (.int .i64 xk) := (cc _).trans x0
          have X1 : wr.cell? ⟨ba, oa + i * 4 + 1, none⟩ = some (.string (bstr xv2)) := (cc _).trans x1
          have X2 : wr.cell? ⟨ba, oa + i * 4 + 2, none⟩ = some (.string (bstr xn2)) := (cc _).trans x2
          have X3 : wr.cell? ⟨ba, oa + i * 4 + 3, none⟩ = some (.slice q2 xs.length c2) := (cc _).trans x3
          clear x0 x1 x2 x3 cc hx
          have HBA : Hid (Below wr.heap.size wr (wr.alloc (.cells #[.int .i64 xk, .string (bstr xv2), .string (bstr xn2), .slice q2 xs.length c2] 31))) := (Below.refl _ _).alloc (Nat.le_refl _) _
          have HR2 : Hid (RdE P (wr.alloc (.cells #[.int .i64 xk, .string (bstr xv2), .string (bstr xn2), .slice q2 xs.length c2] 31)) (.mk xk xv2 xn2 xs) (.agg #[.int .i64 xk, .string (bstr xv2), .string (bstr xn2), .slice q2 xs.length c2])) := (hr.below (HI.out) hP).below HBA.out (fun b hb => Nat.lt_of_lt_of_le (hP b hb) (HI.out).size)
          have HC1 := Lib.hid (HC.out.later HBA.out)
          have HXM : Hid (Ex.mk xk xv2 xn2 xs ∈ ks) := by rw [HX.out]; exact hmem
          have HXS : Hid (sizeE (Ex.mk xk xv2 xn2 xs) ≤ 900000) := Nat.le_trans hxs hks
          have e0 := HC1.out.2.1.cell 0
          simp only [List.getElem?_cons_zero] at e0
          have HTOT : Hid ((flatK 3 (ks.take (i + 1))).length ≤ 900000) := Nat.le_trans (sizeL_len _) (Nat.le_trans (Nat.le_trans (flat_size _) (sizeL_take ks (i + 1))) hks)
          rw [flat_take hlt, ← HX.out, ← HL.out, List.length_append] at HTOT
          clear hr hl hba hmem hxs hxd
          by_cases hx : xk = 3
          · subst hx
            have hpos : 0 < xs.length := (HNE.out (.inl rfl)).2 _ HXM.out rfl
            obtain ⟨bx, ox, rfl, hrl⟩ : ∃ b o, q2 = some ⟨b, o, none⟩ ∧ RdL P (wr.alloc (.cells #[.int .i64 3, .string (bstr xv2), .string (bstr xn2), .slice q2 xs.length c2] 31)) xs b o := by
              have h := HR2.out
              unfold RdE at h
              obtain ⟨q', c', e, _, h3⟩ := h
              simp only [Value.agg.injEq, Array.mk.injEq, List.cons.injEq, Value.slice.injEq, and_true, true_and] at e
              obtain ⟨rfl, rfl⟩ := e
              obtain ⟨b, o, g1, _, g3⟩ := h3 hpos
              exact ⟨b, o, g1, g3⟩
            have HRL := Lib.hid hrl
            rw [if_pos (show (Ex.mk 3 xv2 xn2 xs).kind = 3 from rfl)] at HTOT
            have HTOT2 : Hid (L.length + xs.length ≤ 900000) := HTOT.out
            clear hrl hpos HR2
            go_wp2_with (at_builtin; refine app_lr rfl _ _ rfl (P := P) (base := w.heap.size + 3) (xs := xs) rfl HC1.out.2.2.1 rfl rfl HRL.out (fun b hb => Nat.lt_of_lt_of_le (hP b hb) (by omega)) (by have := HTOT2.out; omega) HC1.out.2.2.2.2.1 ?_; intro v6 w6 h6 b6)
            go_roundw
            case rel => exact ⟨i + 1, by omega, by go_num, by rw [flat_take hlt, ← HX.out, if_pos (show (Ex.mk 3 xv2 xn2 xs).kind = 3 from rfl), ← HL.out]; exact HC1.out.row h6 b6⟩
            case measure => simp [intOf]; omega
          · have HB2 : Hid (Below (wr.alloc (.cells #[.int .i64 xk, .string (bstr xv2), .string (bstr xn2), .slice q2 xs.length c2] 31)).heap.size (wr.alloc (.cells #[.int .i64 xk, .string (bstr xv2), .string (bstr xn2), .slice q2 xs.length c2] 31)) ((wr.alloc (.cells #[.int .i64 xk, .string (bstr xv2), .string (bstr xn2), .slice q2 xs.length c2] 31)).alloc (.cells #[.int .i64 xk, .string (bstr xv2), .string (bstr xn2), .slice q2 xs.length c2] 31))) := (Below.refl _ _).alloc (Nat.le_refl _) _
            have HC2 := Lib.hid (HC1.out.later HB2.out)
            have HRL : Hid (RdL P ((wr.alloc (.cells #[.int .i64 xk, .string (bstr xv2), .string (bstr xn2), .slice q2 xs.length c2] 31)).alloc (.cells #[.int .i64 xk, .string (bstr xv2), .string (bstr xn2), .slice q2 xs.length c2] 31)) [Ex.mk xk xv2 xn2 xs] (wr.heap.size + 1) 0) := by
              have hz : (wr.alloc (.cells #[.int .i64 xk, .string (bstr xv2), .string (bstr xn2), .slice q2 xs.length c2] 31)).heap.size = wr.heap.size + 1 := by simp
              rw [← hz]
              have h := HR2.out.below HB2.out (fun b hb => Nat.lt_of_lt_of_le (hP b hb) (Nat.le_trans HI.out.size HBA.out.size))
              refine CellsL.rdL (cs := [.int .i64 xk, .string (bstr xv2), .string (bstr xn2), .slice q2 xs.length c2]) ⟨h, trivial⟩ fun j u hj => ?_
              rw [Nat.zero_add, ← hj]
              exact (Arr.new' (wr.alloc (.cells #[.int .i64 xk, .string (bstr xv2), .string (bstr xn2), .slice q2 xs.length c2] 31)) 31 _ _ rfl).cell j
            have HKX := Lib.hid hx
            clear HR2
            go_wp2_with (at_builtin; refine app_lr rfl _ _ rfl (P := P) (base := w.heap.size + 3) (xs := [Ex.mk xk xv2 xn2 xs]) rfl HC2.out.2.2.1 rfl rfl HRL.out (fun b hb => Nat.lt_of_lt_of_le (hP b hb) (by omega)) (by have := HLN.out; show _ + 1 ≤ _; omega) HC2.out.2.2.2.2.1 ?_; intro v6 w6 h6 b6)
            go_roundw
            case rel => exact ⟨i + 1, by omega, by go_num, by rw [flat_take hlt, ← HX.out, if_neg (show ¬ (Ex.mk xk xv2 xn2 xs).kind = 3 from HKX.out), ← HL.out]; exact HC2.out.row h6 b6⟩
            case measure => simp [intOf]; omega
        · have hi1 : ¬ (i : Int) < ks.length := by omega
          have HK2 : Hid (ks.take i = ks) := List.take_of_length_le (by omega)
          obtain rfl : i = ks.length := by omega
          have hn := HNE.out (.inl rfl)
          have HS0 : Hid (L = flatK 3 ks) := by have h := HL.out; rw [HK2.out] at h; exact h
          have hpos : 0 < L.length := by rw [HS0.out]; exact flat_ne hn.1 hn.2
          have HOX := Lib.hid (ordX_any HC.out.2.2.1 (fun b hb => Nat.lt_of_lt_of_le (hP b hb) HI.out.size) hpos HLL.out)
          obtain ⟨S, hS⟩ : ∃ S, S = sortedO cmpE L := ⟨_, rfl⟩
          rw [← hS] at HOX
          have HSS : Hid (sortedO cmpE (flatK 3 ks) = S) := by show _ = _; rw [hS, HS0.out]
          clear hn hpos hS
          go_wp2_with fail
          refine HOX.out.mono ?_
          rintro r w5 ⟨g, c5, rfl, hc5, hg5, hgl, b5, rl5⟩
          have HC5 := Lib.hid (HC.out.later b5)
          have HRL := Lib.hid rl5
          have HG5 := Lib.hid (Nat.le_trans HC.out.2.2.2.2.1 hg5)
          have HGL := Lib.hid hgl
          have HCC := Lib.hid hc5
          have HI5 := Lib.hid HC5.out.2.2.2.1
          have e0 := HC5.out.2.1.cell 0
          have e1 := HC5.out.2.1.cell 1
          have e2 := HC5.out.2.1.cell 2
          have e3 := HC5.out.2.1.cell 3
          have f3 := HC5.out.2.1.free 3
          have r0 := HC5.out.1.cell 0
          have r1 := HC5.out.1.cell 1
          have r2 := HC5.out.1.cell 2
          have r3 := HC5.out.1.cell 3
          have p0 := HC5.out.1.free 0
          have p1 := HC5.out.1.free 1
          have p2 := HC5.out.1.free 2
          have p3 := HC5.out.1.free 3
          simp only [List.getElem?_cons_zero, List.getElem?_cons_succ] at e0 e1 e2 e3 r0 r1 r2 r3
          clear hc5 hg5 hgl b5 rl5 HOX HC
          by_cases h1 : S.length = 1
          · obtain ⟨y, rfl⟩ : ∃ y, S = [y] := by
              match S, h1 with
              | [y], _ => exact ⟨y, rfl⟩
            obtain ⟨qy, cy, y0, y1, y2, y3, hry⟩ := HRL.out.at (i := 0) (by simp)
            simp only [List.getD_cons_zero, Nat.zero_mul, Nat.zero_add, Nat.add_zero] at y0 y1 y2 y3 hry
            obtain ⟨yk, yv, yn, ys⟩ := y
            simp only [Ex.kind, Ex.via, Ex.nm, Ex.kids] at y0 y1 y2 y3
            have HRY := Lib.hid hry
            have HFO := Lib.hid (fin_one (o := cmpE) (v := xv) (n := xn) (show ((3 : Int) = 3 ∨ (3 : Int) = 4) by decide) HSS.out)
            clear hry h1 e0 e1 e2 e3 f3
            go_wp2_with fail
            have hA := HC5.out.1.set4 (.int .i64 yk) (.string (bstr yv)) (.string (bstr yn)) (.slice qy ys.length cy)
            have hBl := below_set4 (g := w.heap.size + 1) HI5.out (by omega) (.int .i64 yk) (.string (bstr yv)) (.string (bstr yn)) (.slice qy ys.length cy)
            refine bodyPost_ret (resE rfl hA rfl) rfl ⟨_, rfl, ?_, hBl⟩
            rw [HFO.out]
            refine (HRY.out.keep fun b hb n => World.cell?_of_block (heap_set4x w5 (w.heap.size + 1) _ _ _ _ (b := b) (by have := hP b hb; omega))).imp fun b hb => .inl hb
          · have HFM := Lib.hid (fin_many (o := cmpE) (v := xv) (n := xn) (show ((3 : Int) = 3 ∨ (3 : Int) = 4) by decide) (ks := ks) (by rw [HSS.out]; exact h1))
            have h1i : ¬ (S.length : Int) = 1 := by omega
            have HSL : Hid (S.length = S.length) := rfl
            obtain ⟨m, hm⟩ : ∃ m, m = S.length := ⟨_, rfl⟩
            rw [← hm] at h1i HCC ⊢
            have HM := Lib.hid hm
            clear hm h1
            go_wp2_with fail
            have hE3 := HC5.out.2.1.set 3 (.slice (some ⟨g, 0, none⟩) m c5)
            have hR3 := HC5.out.1.setCell (a := ⟨w.heap.size + 1 + 1, 3, none⟩) (by simp) (.slice (some ⟨g, 0, none⟩) m c5)
            have hA := hR3.set4 (.int .i64 3) (.string (bstr xv)) (.string (bstr xn)) (.slice (some ⟨g, 0, none⟩) m c5)
            have hB3 : Below w.heap.size w (w5.setCell ⟨w.heap.size + 1 + 1, 3, none⟩ (.slice (some ⟨g, 0, none⟩) m c5)) := HI5.out.setCell (p := ⟨w.heap.size + 1 + 1, 3, none⟩) (show w.heap.size ≤ w.heap.size + 1 + 1 by omega) _
            have hBl := below_set4 (g := w.heap.size + 1) hB3 (by omega) (.int .i64 3) (.string (bstr xv)) (.string (bstr xn)) (.slice (some ⟨g, 0, none⟩) m c5)
            have hsz5 : ((((((w5.setCell ⟨w.heap.size + 1 + 1, 3, none⟩ (.slice (some ⟨g, 0, none⟩) m c5)).setCell ⟨w.heap.size + 1, 0, none⟩ (.int .i64 3)).setCell ⟨w.heap.size + 1, 1, none⟩ (.string (bstr xv))).setCell ⟨w.heap.size + 1, 2, none⟩ (.string (bstr xn))).setCell ⟨w.heap.size + 1, 3, none⟩ (.slice (some ⟨g, 0, none⟩) m c5)).heap.size = w5.heap.size) := by simp [World.setCell]
            refine bodyPost_ret (resE rfl hA rfl) rfl ⟨_, rfl, ?_, hBl⟩
            have hm := HM.out
            subst hm
            rw [HFM.out, HSS.out]
            refine RdE.of (e := .mk 3 xv xn S) (show S.length ≤ c5 from HCC.out) fun _ => ⟨g, 0, rfl, .inr ⟨by have := HG5.out; omega, by rw [hsz5]; exact HGL.out⟩, ?_⟩
            have hk : ∀ b, (P b ∨ b = g) → ∀ n, ((((((w5.setCell ⟨w.heap.size + 1 + 1, 3, none⟩ (.slice (some ⟨g, 0, none⟩) S.length c5)).setCell ⟨w.heap.size + 1, 0, none⟩ (.int .i64 3)).setCell ⟨w.heap.size + 1, 1, none⟩ (.string (bstr xv))).setCell ⟨w.heap.size + 1, 2, none⟩ (.string (bstr xn))).setCell ⟨w.heap.size + 1, 3, none⟩ (.slice (some ⟨g, 0, none⟩) S.length c5)).cell? ⟨b, n, none⟩ = w5.cell? ⟨b, n, none⟩) := fun b hb n => by
              have hb1 : b ≠ w.heap.size + 1 ∧ b ≠ w.heap.size + 2 := by
                have := HG5.out
                rcases hb with hb | rfl
                · have := hP b hb; omega
                · omega
              exact World.cell?_of_block ((heap_set4x _ (w.heap.size + 1) _ _ _ _ (b := b) hb1.1).trans (Below.heap_setCell _ ⟨w.heap.size + 1 + 1, 3, none⟩ _ b hb1.2))
            have hrl : RdL (fun b => P b ∨ b = g) w5 S g 0 := HRL.out.imp (fun b hb => .inl hb)
            have hrl2 := RdL.keep hk (.inr rfl) hrl
            refine hrl2.imp fun b hb => ?_
            rcases hb with hb | rfl
            · exact .inl hb
            · exact .inr ⟨by have := HG5.out; omega, by rw [hsz5]; exact HGL.out⟩
    · go_wp2_with fail
      clear e0 e1 e2 e3 r0 r1 r2 r3 p0 p1 p2 p3
      go_loopw [4, 20] (fun dv iv wr => ∃ i : Nat, i ≤ ks.length ∧ iv = .int .i64 i ∧ Hid (KS w P [.int .i64 4, .string (bstr xv), .string (bstr xn), .slice q ks.length c] dv (flatK 4 (ks.take i)) wr)) (fun _ iv _ => ks.length - (intOf iv).toNat)
      case atStart => exact ⟨0, Nat.zero_le _, rfl, H0.out⟩
      case round =>
        obtain ⟨i, hi, rfl, HC⟩ := hrel
        have hi0 : (0 : Int) ≤ i := by omega
        have HI := Lib.hid HC.out.2.2.2.1
        obtain ⟨L, hL⟩ : ∃ L, L = flatK 4 (ks.take i) := ⟨_, rfl⟩
        rw [← hL] at HC
        obtain ⟨qv, cv, rfl⟩ := HC.out.2.2.1.form
        have HLL : Hid (sizeL L ≤ 900000) := by rw [hL]; exact Nat.le_trans (Nat.le_trans (flat_size _) (sizeL_take ks i)) hks
        have HLN : Hid (L.length ≤ 900000) := Nat.le_trans (sizeL_len L) HLL.out
        have HL := Lib.hid hL
        clear hL HI3 H0
        by_cases hlt : i < ks.length
        · have hi1 : (i : Int) < ks.length := by omega
          have hmem := getD_mem hlt
          obtain ⟨ba, oa, rfl, hba, hl⟩ := HK.out (by omega)
          obtain ⟨x, hx⟩ : ∃ x, x = ks.getD i ex0 := ⟨_, rfl⟩
          obtain ⟨q2, c2, x0, x1, x2, x3, hr⟩ := hl.at hlt
          have hxs := sizeL_get ks i hlt
          have hxd := depthL_get ks i hlt
          rw [← hx] at x0 x1 x2 x3 hr hxs hxd
          have HX := Lib.hid hx
          obtain ⟨xk, xv2, xn2, xs⟩ := x
          have cc : ∀ n, wr.cell? ⟨ba, n, none⟩ = w.cell? ⟨ba, n, none⟩ := fun n => (HI.out).cell (p := ⟨ba, n, none⟩) (hP _ hba)
          have X0 : wr.cell? ⟨ba, oa + i * 4, none⟩ = some (.int .i64 xk) := (cc _).trans x0
          have X1 : wr.cell? ⟨ba, oa + i * 4 + 1, none⟩ = some (.string (bstr xv2)) := (cc _).trans x1
          have X2 : wr.cell? ⟨ba, oa + i * 4 + 2, none⟩ = some (.string (bstr xn2)) := (cc _).trans x2
          have X3 : wr.cell? ⟨ba, oa + i * 4 + 3, none⟩ = some (.slice q2 xs.length c2) := (cc _).trans x3
          clear x0 x1 x2 x3 cc hx
          have HBA : Hid (Below wr.heap.size wr (wr.alloc (.cells #[.int .i64 xk, .string (bstr xv2), .string (bstr xn2), .slice q2 xs.length c2] 31))) := (Below.refl _ _).alloc (Nat.le_refl _) _
          have HR2 : Hid (RdE P (wr.alloc (.cells #[.int .i64 xk, .string (bstr xv2), .string (bstr xn2), .slice q2 xs.length c2] 31)) (.mk xk xv2 xn2 xs) (.agg #[.int .i64 xk, .string (bstr xv2), .string (bstr xn2), .slice q2 xs.length c2])) := (hr.below (HI.out) hP).below HBA.out (fun b hb => Nat.lt_of_lt_of_le (hP b hb) (HI.out).size)
          have HC1 := Lib.hid (HC.out.later HBA.out)
          have HXM : Hid (Ex.mk xk xv2 xn2 xs ∈ ks) := by rw [HX.out]; exact hmem
          have HXS : Hid (sizeE (Ex.mk xk xv2 xn2 xs) ≤ 900000) := Nat.le_trans hxs hks
          have e0 := HC1.out.2.1.cell 0
          simp only [List.getElem?_cons_zero] at e0
          have HTOT : Hid ((flatK 4 (ks.take (i + 1))).length ≤ 900000) := Nat.le_trans (sizeL_len _) (Nat.le_trans (Nat.le_trans (flat_size _) (sizeL_take ks (i + 1))) hks)
          rw [flat_take hlt, ← HX.out, ← HL.out, List.length_append] at HTOT
          clear hr hl hba hmem hxs hxd
          by_cases hx : xk = 4
          · subst hx
            have hpos : 0 < xs.length := (HNE.out (.inr rfl)).2 _ HXM.out rfl
            obtain ⟨bx, ox, rfl, hrl⟩ : ∃ b o, q2 = some ⟨b, o, none⟩ ∧ RdL P (wr.alloc (.cells #[.int .i64 4, .string (bstr xv2), .string (bstr xn2), .slice q2 xs.length c2] 31)) xs b o := by
              have h := HR2.out
              unfold RdE at h
              obtain ⟨q', c', e, _, h3⟩ := h
              simp only [Value.agg.injEq, Array.mk.injEq, List.cons.injEq, Value.slice.injEq, and_true, true_and] at e
              obtain ⟨rfl, rfl⟩ := e
              obtain ⟨b, o, g1, _, g3⟩ := h3 hpos
              exact ⟨b, o, g1, g3⟩
            have HRL := Lib.hid hrl
            rw [if_pos (show (Ex.mk 4 xv2 xn2 xs).kind = 4 from rfl)] at HTOT
            have HTOT2 : Hid (L.length + xs.length ≤ 900000) := HTOT.out
            clear hrl hpos HR2
            go_wp2_with (at_builtin; refine app_lr rfl _ _ rfl (P := P) (base := w.heap.size + 3) (xs := xs) rfl HC1.out.2.2.1 rfl rfl HRL.out (fun b hb => Nat.lt_of_lt_of_le (hP b hb) (by omega)) (by have := HTOT2.out; omega) HC1.out.2.2.2.2.1 ?_; intro v6 w6 h6 b6)
            go_roundw
            case rel => exact ⟨i + 1, by omega, by go_num, by rw [flat_take hlt, ← HX.out, if_pos (show (Ex.mk 4 xv2 xn2 xs).kind = 4 from rfl), ← HL.out]; exact HC1.out.row h6 b6⟩
            case measure => simp [intOf]; omega
          · have HB2 : Hid (Below (wr.alloc (.cells #[.int .i64 xk, .string (bstr xv2), .string (bstr xn2), .slice q2 xs.length c2] 31)).heap.size (wr.alloc (.cells #[.int .i64 xk, .string (bstr xv2), .string (bstr xn2), .slice q2 xs.length c2] 31)) ((wr.alloc (.cells #[.int .i64 xk, .string (bstr xv2), .string (bstr xn2), .slice q2 xs.length c2] 31)).alloc (.cells #[.int .i64 xk, .string (bstr xv2), .string (bstr xn2), .slice q2 xs.length c2] 31))) := (Below.refl _ _).alloc (Nat.le_refl _) _
            have HC2 := Lib.hid (HC1.out.later HB2.out)
            have HRL : Hid (RdL P ((wr.alloc (.cells #[.int .i64 xk, .string (bstr xv2), .string (bstr xn2), .slice q2 xs.length c2] 31)).alloc (.cells #[.int .i64 xk, .string (bstr xv2), .string (bstr xn2), .slice q2 xs.length c2] 31)) [Ex.mk xk xv2 xn2 xs] (wr.heap.size + 1) 0) := by
              have hz : (wr.alloc (.cells #[.int .i64 xk, .string (bstr xv2), .string (bstr xn2), .slice q2 xs.length c2] 31)).heap.size = wr.heap.size + 1 := by simp
              rw [← hz]
              have h := HR2.out.below HB2.out (fun b hb => Nat.lt_of_lt_of_le (hP b hb) (Nat.le_trans HI.out.size HBA.out.size))
              refine CellsL.rdL (cs := [.int .i64 xk, .string (bstr xv2), .string (bstr xn2), .slice q2 xs.length c2]) ⟨h, trivial⟩ fun j u hj => ?_
              rw [Nat.zero_add, ← hj]
              exact (Arr.new' (wr.alloc (.cells #[.int .i64 xk, .string (bstr xv2), .string (bstr xn2), .slice q2 xs.length c2] 31)) 31 _ _ rfl).cell j
            have HKX := Lib.hid hx
            clear HR2
            go_wp2_with (at_builtin; refine app_lr rfl _ _ rfl (P := P) (base := w.heap.size + 3) (xs := [Ex.mk xk xv2 xn2 xs]) rfl HC2.out.2.2.1 rfl rfl HRL.out (fun b hb => Nat.lt_of_lt_of_le (hP b hb) (by omega)) (by have := HLN.out; show _ + 1 ≤ _; omega) HC2.out.2.2.2.2.1 ?_; intro v6 w6 h6 b6)
            go_roundw
            case rel => exact ⟨i + 1, by omega, by go_num, by rw [flat_take hlt, ← HX.out, if_neg (show ¬ (Ex.mk xk xv2 xn2 xs).kind = 4 from HKX.out), ← HL.out]; exact HC2.out.row h6 b6⟩
            case measure => simp [intOf]; omega
        · have hi1 : ¬ (i : Int) < ks.length := by omega
          have HK2 : Hid (ks.take i = ks) := List.take_of_length_le (by omega)
          obtain rfl : i = ks.length := by omega
          have hn := HNE.out (.inr rfl)
          have HS0 : Hid (L = flatK 4 ks) := by have h := HL.out; rw [HK2.out] at h; exact h
          have hpos : 0 < L.length := by rw [HS0.out]; exact flat_ne hn.1 hn.2
          have HOX := Lib.hid (ordX_any HC.out.2.2.1 (fun b hb => Nat.lt_of_lt_of_le (hP b hb) HI.out.size) hpos HLL.out)
          obtain ⟨S, hS⟩ : ∃ S, S = sortedO cmpE L := ⟨_, rfl⟩
          rw [← hS] at HOX
          have HSS : Hid (sortedO cmpE (flatK 4 ks) = S) := by show _ = _; rw [hS, HS0.out]
          clear hn hpos hS
          go_wp2_with fail
          refine HOX.out.mono ?_
          rintro r w5 ⟨g, c5, rfl, hc5, hg5, hgl, b5, rl5⟩
          have HC5 := Lib.hid (HC.out.later b5)
          have HRL := Lib.hid rl5
          have HG5 := Lib.hid (Nat.le_trans HC.out.2.2.2.2.1 hg5)
          have HGL := Lib.hid hgl
          have HCC := Lib.hid hc5
          have HI5 := Lib.hid HC5.out.2.2.2.1
          have e0 := HC5.out.2.1.cell 0
          have e1 := HC5.out.2.1.cell 1
          have e2 := HC5.out.2.1.cell 2
          have e3 := HC5.out.2.1.cell 3
          have f3 := HC5.out.2.1.free 3
          have r0 := HC5.out.1.cell 0
          have r1 := HC5.out.1.cell 1
          have r2 := HC5.out.1.cell 2
          have r3 := HC5.out.1.cell 3
          have p0 := HC5.out.1.free 0
          have p1 := HC5.out.1.free 1
          have p2 := HC5.out.1.free 2
          have p3 := HC5.out.1.free 3
          simp only [List.getElem?_cons_zero, List.getElem?_cons_succ] at e0 e1 e2 e3 r0 r1 r2 r3
          clear hc5 hg5 hgl b5 rl5 HOX HC
          by_cases h1 : S.length = 1
          · obtain ⟨y, rfl⟩ : ∃ y, S = [y] := by
              match S, h1 with
              | [y], _ => exact ⟨y, rfl⟩
            obtain ⟨qy, cy, y0, y1, y2, y3, hry⟩ := HRL.out.at (i := 0) (by simp)
            simp only [List.getD_cons_zero, Nat.zero_mul, Nat.zero_add, Nat.add_zero] at y0 y1 y2 y3 hry
            obtain ⟨yk, yv, yn, ys⟩ := y
            simp only [Ex.kind, Ex.via, Ex.nm, Ex.kids] at y0 y1 y2 y3
            have HRY := Lib.hid hry
            have HFO := Lib.hid (fin_one (o := cmpE) (v := xv) (n := xn) (show ((4 : Int) = 3 ∨ (4 : Int) = 4) by decide) HSS.out)
            clear hry h1 e0 e1 e2 e3 f3
            go_wp2_with fail
            have hA := HC5.out.1.set4 (.int .i64 yk) (.string (bstr yv)) (.string (bstr yn)) (.slice qy ys.length cy)
            have hBl := below_set4 (g := w.heap.size + 1) HI5.out (by omega) (.int .i64 yk) (.string (bstr yv)) (.string (bstr yn)) (.slice qy ys.length cy)
            refine bodyPost_ret (resE rfl hA rfl) rfl ⟨_, rfl, ?_, hBl⟩
            rw [HFO.out]
            refine (HRY.out.keep fun b hb n => World.cell?_of_block (heap_set4x w5 (w.heap.size + 1) _ _ _ _ (b := b) (by have := hP b hb; omega))).imp fun b hb => .inl hb
          · have HFM := Lib.hid (fin_many (o := cmpE) (v := xv) (n := xn) (show ((4 : Int) = 3 ∨ (4 : Int) = 4) by decide) (ks := ks) (by rw [HSS.out]; exact h1))
            have h1i : ¬ (S.length : Int) = 1 := by omega
            have HSL : Hid (S.length = S.length) := rfl
            obtain ⟨m, hm⟩ : ∃ m, m = S.length := ⟨_, rfl⟩
            rw [← hm] at h1i HCC ⊢
            have HM := Lib.hid hm
            clear hm h1
            go_wp2_with fail
            have hE3 := HC5.out.2.1.set 3 (.slice (some ⟨g, 0, none⟩) m c5)
            have hR3 := HC5.out.1.setCell (a := ⟨w.heap.size + 1 + 1, 3, none⟩) (by simp) (.slice (some ⟨g, 0, none⟩) m c5)
            have hA := hR3.set4 (.int .i64 4) (.string (bstr xv)) (.string (bstr xn)) (.slice (some ⟨g, 0, none⟩) m c5)
            have hB3 : Below w.heap.size w (w5.setCell ⟨w.heap.size + 1 + 1, 3, none⟩ (.slice (some ⟨g, 0, none⟩) m c5)) := HI5.out.setCell (p := ⟨w.heap.size + 1 + 1, 3, none⟩) (show w.heap.size ≤ w.heap.size + 1 + 1 by omega) _
            have hBl := below_set4 (g := w.heap.size + 1) hB3 (by omega) (.int .i64 4) (.string (bstr xv)) (.string (bstr xn)) (.slice (some ⟨g, 0, none⟩) m c5)
            have hsz5 : ((((((w5.setCell ⟨w.heap.size + 1 + 1, 3, none⟩ (.slice (some ⟨g, 0, none⟩) m c5)).setCell ⟨w.heap.size + 1, 0, none⟩ (.int .i64 4)).setCell ⟨w.heap.size + 1, 1, none⟩ (.string (bstr xv))).setCell ⟨w.heap.size + 1, 2, none⟩ (.string (bstr xn))).setCell ⟨w.heap.size + 1, 3, none⟩ (.slice (some ⟨g, 0, none⟩) m c5)).heap.size = w5.heap.size) := by simp [World.setCell]
            refine bodyPost_ret (resE rfl hA rfl) rfl ⟨_, rfl, ?_, hBl⟩
            have hm := HM.out
            subst hm
            rw [HFM.out, HSS.out]
            refine RdE.of (e := .mk 4 xv xn S) (show S.length ≤ c5 from HCC.out) fun _ => ⟨g, 0, rfl, .inr ⟨by have := HG5.out; omega, by rw [hsz5]; exact HGL.out⟩, ?_⟩
            have hk : ∀ b, (P b ∨ b = g) → ∀ n, ((((((w5.setCell ⟨w.heap.size + 1 + 1, 3, none⟩ (.slice (some ⟨g, 0, none⟩) S.length c5)).setCell ⟨w.heap.size + 1, 0, none⟩ (.int .i64 4)).setCell ⟨w.heap.size + 1, 1, none⟩ (.string (bstr xv))).setCell ⟨w.heap.size + 1, 2, none⟩ (.string (bstr xn))).setCell ⟨w.heap.size + 1, 3, none⟩ (.slice (some ⟨g, 0, none⟩) S.length c5)).cell? ⟨b, n, none⟩ = w5.cell? ⟨b, n, none⟩) := fun b hb n => by
              have hb1 : b ≠ w.heap.size + 1 ∧ b ≠ w.heap.size + 2 := by
                have := HG5.out
                rcases hb with hb | rfl
                · have := hP b hb; omega
                · omega
              exact World.cell?_of_block ((heap_set4x _ (w.heap.size + 1) _ _ _ _ (b := b) hb1.1).trans (Below.heap_setCell _ ⟨w.heap.size + 1 + 1, 3, none⟩ _ b hb1.2))
            have hrl : RdL (fun b => P b ∨ b = g) w5 S g 0 := HRL.out.imp (fun b hb => .inl hb)
            have hrl2 := RdL.keep hk (.inr rfl) hrl
            refine hrl2.imp fun b hb => ?_
            rcases hb with hb | rfl
            · exact .inl hb
            · exact .inr ⟨by have := HG5.out; omega, by rw [hsz5]; exact HGL.out⟩
  · have HKK := Lib.hid hk
    have hk3 : ¬ k = 3 := fun e => hk (.inl e)
    have hk4 : ¬ k = 4 := fun e => hk (.inr e)
    have hb3 : (k != 3) = true := bne_iff_ne.2 hk3
    have hb4 : (k != 4) = true := bne_iff_ne.2 hk4
    clear hk
    go_wp2_with fail
    have hA := H0.out.1.set4 (.int .i64 k) (.string (bstr xv)) (.string (bstr xn)) (.slice q ks.length c)
    have hBl := below_set4 (g := w.heap.size + 1) HI3.out (by omega) (.int .i64 k) (.string (bstr xv)) (.string (bstr xn)) (.slice q ks.length c)
    refine bodyPost_ret (resE rfl hA rfl) rfl ⟨_, rfl, ?_, hBl⟩
    rw [fin_other HKK.out]
    exact (HR.out.below hBl hP).imp fun b hb => .inl hb
end Go.Proofs.Ytdnmgemjhpkekaa
/-
  canon.Expr: what it makes of each part, from the innermost on.
-/
namespace Go.Proofs.Ytdnmgemjhpkekaa
open Go.ChangeShapes Go.WideShapes Go.ChangeAt Go.RowKit
set_option linter.unusedVariables false
set_option linter.unusedSectionVars false
set_option linter.unusedSimpArgs false

theorem canE_mk (k : Int) (v n : List UInt8) (ks : List Ex) : canE cmpE (.mk k v n ks) = finE cmpE k v n (canL cmpE ks) := by rw [canE]
mutual
theorem canE_size : ∀ e : Ex, sizeE (canE cmpE e) ≤ sizeE e
  | .mk k v n ks => by
    have h := canL_size ks
    rw [canE_mk]
    refine Nat.le_trans (fin_size k v n _) ?_
    rw [sizeE, sizeE]; omega
theorem canL_size : ∀ l : List Ex, sizeL (canL cmpE l) ≤ sizeL l
  | [] => Nat.le_refl _
  | e :: r => by
    have h1 := canE_size e
    have h2 := canL_size r
    rw [canL, sizeL, sizeL]; omega
end
theorem canL_snoc : ∀ (ks : List Ex) (e : Ex), canL cmpE (ks ++ [e]) = canL cmpE ks ++ [canE cmpE e]
  | [], e => by simp [canL]
  | a :: r, e => by rw [List.cons_append]; unfold canL; rw [canL_snoc r e]; rfl
theorem form_ne {k : Int} {v n : List UInt8} {ks : List Ex} (h : formE (.mk k v n ks) = true) (hk : k = 3 ∨ k = 4) : 2 ≤ ks.length := by
  unfold formE at h
  simp only [Bool.and_eq_true] at h
  have h1 := h.1
  unfold partB at h1
  rw [if_neg (by omega), if_neg (by omega), if_pos hk] at h1
  simp only [Bool.and_eq_true, decide_eq_true_eq] at h1
  exact h1.1.1
theorem formL_mem' : ∀ {l : List Ex}, formL l = true → ∀ x ∈ l, formE x = true
  | [], _, x, hx => by cases hx
  | e :: r, h, x, hx => by
    unfold formL at h
    simp only [Bool.and_eq_true] at h
    rcases List.mem_cons.1 hx with rfl | hx
    · exact h.1
    · exact formL_mem' h.2 x hx
theorem form_kidsL {k : Int} {v n : List UInt8} {ks : List Ex} (h : formE (.mk k v n ks) = true) : formL ks = true := by
  unfold formE at h
  simp only [Bool.and_eq_true] at h
  exact h.2
theorem FBox.set {w : World} {pb : Nat} {f : FuncId} (h : FBox w pb f) {a : Addr} (hne : pb ≠ a.block) (v : Value) : FBox (w.setCell a v) pb f :=
  ⟨by simpa [World.setCell] using h.1, (World.cell?_of_block (a := ⟨pb, 0, none⟩) (Below.heap_setCell w a v pb hne)).trans h.2⟩
set_option maxRecDepth 100000 in
set_option maxHeartbeats 4000000 in
theorem fx_any {P : Nat → Prop} {w : World} {e : Ex} {v : Value} {pb : Nat} (hb : FBox w pb 15) (h : RdE P w e v) (hP : ∀ b, P b → b < w.heap.size) (hsz : sizeE e ≤ 900000) (hne : e.kind = 3 ∨ e.kind = 4 → 0 < e.kids.length ∧ ∀ x ∈ e.kids, x.kind = e.kind → 0 < x.kids.length) :
    Calls Try.prog 17 #[v, .pointer (some ⟨pb, 0, none⟩)] w fun r w' => ∃ v', r = .returned v' ∧ RdE (fun b => P b ∨ Bt (w.heap.size + 2) w'.heap.size b) w' (finE cmpE e.kind e.via e.nm e.kids) v' ∧ Below w.heap.size w w' := by
  have HR := Lib.hid h
  obtain ⟨q, c, rfl, hc, hk⟩ := h.form
  obtain ⟨k, xv, xn, ks⟩ := e
  unfold exv
  show Calls _ _ #[.agg #[.int .i64 k, .string (bstr xv), .string (bstr xn), .slice q ks.length c], .pointer (some ⟨pb, 0, none⟩)] _ _
  have HA0 : Hid (Arr ((w.alloc (.cells #[.int .i64 k, .string (bstr xv), .string (bstr xn), .slice q ks.length c] 31)).alloc (.cells #[.int .i64 0, .string ⟨#[]⟩, .string ⟨#[]⟩, .slice none 0 0] 31)) 31 (w.heap.size + 1) [.int .i64 0, .string ByteArray.empty, .string ByteArray.empty, .slice none 0 0] ∧ Below w.heap.size w ((w.alloc (.cells #[.int .i64 k, .string (bstr xv), .string (bstr xn), .slice q ks.length c] 31)).alloc (.cells #[.int .i64 0, .string ⟨#[]⟩, .string ⟨#[]⟩, .slice none 0 0] 31))) :=
    ⟨Arr.new2 w _ _ _ _ rfl, ((Below.refl _ _).alloc (Nat.le_refl _) _).alloc (by simp) _⟩
  have HFB := Lib.hid (hb.later HA0.out.2)
  have hcb : ((w.alloc (.cells #[.int .i64 k, .string (bstr xv), .string (bstr xn), .slice q ks.length c] 31)).alloc (.cells #[.int .i64 0, .string ⟨#[]⟩, .string ⟨#[]⟩, .slice none 0 0] 31)).cell? ⟨pb, 0, none⟩ = some (.func (.func 15) #[] #[]) := HFB.out.2
  have hs0 : ((w.alloc (.cells #[.int .i64 k, .string (bstr xv), .string (bstr xn), .slice q ks.length c] 31)).alloc (.cells #[.int .i64 0, .string ⟨#[]⟩, .string ⟨#[]⟩, .slice none 0 0] 31)).heap.size = w.heap.size + 2 := by simp
  have HC := Lib.hid (canonical_any (HR.out.below HA0.out.2 hP) (fun b hb => Nat.lt_of_lt_of_le (hP b hb) HA0.out.2.size) hsz hne)
  rw [hs0] at HC
  dsimp only [Ex.kind, Ex.via, Ex.nm, Ex.kids] at HC ⊢
  unfold exv at HC
  dsimp only [Ex.kind, Ex.via, Ex.nm, Ex.kids] at HC
  obtain ⟨F, hF⟩ : ∃ F, F = finE cmpE k xv xn ks := ⟨_, rfl⟩
  rw [← hF] at HC ⊢
  have HPP := Lib.hid hP
  clear h hc hk hsz hne hb hF hs0 hP
  go_enter Try.func17, Try.ntmps17
  go_wp2_with fail
  refine HC.out.mono ?_
  rintro r w5 ⟨v5, rfl, r5, b5⟩
  have HB5 := Lib.hid (HA0.out.2.trans ((b5.mono (by simp)).mono (Nat.le_refl _)))
  have HA5 := Lib.hid (HA0.out.1.below b5 (by omega))
  obtain ⟨yk, yv, yn, ys⟩ := F
  have R5 := Lib.hid r5
  obtain ⟨q5, c5, rfl, _, _⟩ := r5.form
  unfold exv
  dsimp only [Ex.kind, Ex.via, Ex.nm, Ex.kids]
  have r0 := HA5.out.cell 0
  have r1 := HA5.out.cell 1
  have r2 := HA5.out.cell 2
  have r3 := HA5.out.cell 3
  have p0 := HA5.out.free 0
  have p1 := HA5.out.free 1
  have p2 := HA5.out.free 2
  have p3 := HA5.out.free 3
  simp only [List.getElem?_cons_zero, List.getElem?_cons_succ] at r0 r1 r2 r3
  clear r5 b5 hcb HC
  go_wp2_with fail
  have hA := HA5.out.set4 (.int .i64 yk) (.string (bstr yv)) (.string (bstr yn)) (.slice q5 ys.length c5)
  have hBl := below_set4 (g := w.heap.size + 1) HB5.out (by omega) (.int .i64 yk) (.string (bstr yv)) (.string (bstr yn)) (.slice q5 ys.length c5)
  have hsz5 : ((((w5.setCell ⟨w.heap.size + 1, 0, none⟩ (.int .i64 yk)).setCell ⟨w.heap.size + 1, 1, none⟩ (.string (bstr yv))).setCell ⟨w.heap.size + 1, 2, none⟩ (.string (bstr yn))).setCell ⟨w.heap.size + 1, 3, none⟩ (.slice q5 ys.length c5)).heap.size = w5.heap.size := by simp [World.setCell]
  refine bodyPost_ret (resE rfl hA rfl) rfl ⟨_, rfl, ?_, hBl⟩
  rw [hsz5]
  exact R5.out.keep fun b hb n => World.cell?_of_block (heap_set4x w5 (w.heap.size + 1) _ _ _ _ (b := b) (by
    rcases hb with hb | hb
    · have := HPP.out b hb; omega
    · have := hb.1; omega))
set_option maxRecDepth 100000 in
set_option maxHeartbeats 4000000 in
theorem mapC_any (pb : Nat) : ∀ (n : Nat) (e : Ex) (v : Value) (P : Nat → Prop) (w : World), sizeE e ≤ n → sizeE e ≤ 900000 → formE e = true → FBox w pb 15 → RdE P w e v → (∀ b, P b → b < w.heap.size) → Calls Try.prog 35 #[v, .func (.func 17) #[] #[.pointer (some ⟨pb, 0, none⟩)]] w (ClPost (canE cmpE e) w) := by
  intro n
  induction n with
  | zero => intro e v P w h; have := sizeE_pos e; omega
  | succ n ih =>
    intro e v P w hn hm hwt hfb h hP
    have HFB := Lib.hid hfb
    have HFE := Lib.hid hwt
    have HKM := Lib.hid hm
    obtain ⟨q, c, rfl, hc, hk⟩ := h.form
    obtain ⟨k, xv, xn, ks⟩ := e
    unfold exv
    show Calls _ _ #[.agg #[.int .i64 k, .string (bstr xv), .string (bstr xn), .slice q ks.length c], .func (.func 17) #[] #[.pointer (some ⟨pb, 0, none⟩)]] _ _
    have HK : Hid (0 < ks.length → ∃ b o, q = some ⟨b, o, none⟩ ∧ P b ∧ RdL P w ks b o) := hk
    have hks : sizeL ks ≤ n := by unfold sizeE at hn; omega
    have hkm : sizeL ks ≤ 900000 := by unfold sizeE at hm; omega
    have hkf : formL ks = true := form_kidsL HFE.out
    have HKF := Lib.hid hkf
    have hlen := sizeL_len ks
    have HIH := Lib.hid ih
    have H0 : Hid (CX w [.int .i64 k, .string (bstr xv), .string (bstr xn), .slice q ks.length c] (.slice none 0 0) [] ((w.alloc (.cells #[.int .i64 k, .string (bstr xv), .string (bstr xn), .slice q ks.length c] 31)).alloc (.cells #[.int .i64 0, .string ByteArray.empty, .string ByteArray.empty, .slice none 0 0] 31))) :=
      ⟨(Arr.new' w _ _ _ rfl).alloc _, Arr.new2 w _ _ _ _ rfl, ExRow.nil _ _, ((Below.refl _ _).alloc (Nat.le_refl _) _).alloc (by simp) _, by simp⟩
    clear h ih hc hk hn hm hwt hfb hkf
    go_enter Try.func35, Try.ntmps35
    go_wp2_with fail
    go_loopw [5, 11] (fun dv iv wr => ∃ i : Nat, i ≤ ks.length ∧ iv = .int .i64 i ∧ Hid (CX w [.int .i64 k, .string (bstr xv), .string (bstr xn), .slice q ks.length c] dv (canL cmpE (ks.take i)) wr)) (fun _ iv _ => ks.length - (intOf iv).toNat)
    case atStart => exact ⟨0, Nat.zero_le _, rfl, H0.out⟩
    case round =>
      obtain ⟨i, hi, rfl, HC⟩ := hrel
      have hi0 : (0 : Int) ≤ i := by omega
      have HI := Lib.hid HC.out.2.2.2.1
      obtain ⟨qv, cv, rfl⟩ := HC.out.2.2.1.form
      have htl : (canL cmpE (ks.take i)).length = i := by rw [canL_len cmpE, List.length_take]; omega
      rw [htl] at HC ⊢
      by_cases hlt : i < ks.length
      · have hi1 : (i : Int) < ks.length := by omega
        obtain ⟨ba, oa, rfl, hba, hl⟩ := HK.out (by omega)
        obtain ⟨x, hx⟩ : ∃ x, x = ks.getD i ex0 := ⟨_, rfl⟩
        obtain ⟨q2, c2, x0, x1, x2, x3, hr⟩ := hl.at hlt
        have hxs := sizeL_get ks i hlt
        have hxd := depthL_get ks i hlt
        rw [← hx] at x0 x1 x2 x3 hr hxs hxd
        have HX := Lib.hid hx
        obtain ⟨xk, xv2, xn2, xs⟩ := x
        have cc : ∀ n, wr.cell? ⟨ba, n, none⟩ = w.cell? ⟨ba, n, none⟩ := fun n => (HI.out).cell (p := ⟨ba, n, none⟩) (hP _ hba)
        have X0 : wr.cell? ⟨ba, oa + i * 4, none⟩ = some (.int .i64 xk) := (cc _).trans x0
        have X1 : wr.cell? ⟨ba, oa + i * 4 + 1, none⟩ = some (.string (bstr xv2)) := (cc _).trans x1
        have X2 : wr.cell? ⟨ba, oa + i * 4 + 2, none⟩ = some (.string (bstr xn2)) := (cc _).trans x2
        have X3 : wr.cell? ⟨ba, oa + i * 4 + 3, none⟩ = some (.slice q2 xs.length c2) := (cc _).trans x3
        clear x0 x1 x2 x3 cc hx
        have hxw : formE (.mk xk xv2 xn2 xs) = true := by rw [HX.out]; exact formL_mem' HKF.out _ (getD_mem hlt)
        have HBA : Hid (Below wr.heap.size wr (wr.alloc (.cells #[.int .i64 xk, .string (bstr xv2), .string (bstr xn2), .slice q2 xs.length c2] 31))) := (Below.refl _ _).alloc (Nat.le_refl _) _
        have HR : Hid (RdE P (wr.alloc (.cells #[.int .i64 xk, .string (bstr xv2), .string (bstr xn2), .slice q2 xs.length c2] 31)) (.mk xk xv2 xn2 xs) (.agg #[.int .i64 xk, .string (bstr xv2), .string (bstr xn2), .slice q2 xs.length c2])) := (hr.below (HI.out) hP).below HBA.out (fun b hb => Nat.lt_of_lt_of_le (hP b hb) (HI.out).size)
        have HIC := Lib.hid (HIH.out (.mk xk xv2 xn2 xs) _ P _ (by omega) (by omega) hxw ((HFB.out.later HI.out).later HBA.out) HR.out (fun b hb => Nat.lt_of_lt_of_le (hP b hb) (Nat.le_trans HI.out.size HBA.out.size)))
        have HC4 := Lib.hid (HC.out.later HBA.out)
        have HMP : Hid (canL cmpE (ks.take (i + 1)) = canL cmpE (ks.take i) ++ [canE cmpE (.mk xk xv2 xn2 xs)]) := by show _ = _; rw [take_snocE hlt, ← HX.out, canL_snoc]
        obtain ⟨me, hme⟩ : ∃ e, e = canE cmpE (.mk xk xv2 xn2 xs) := ⟨_, rfl⟩
        rw [← hme] at HIC HMP
        clear hl hr hxs hxd hxw hme
        go_wp2_with fail
        refine HIC.out.mono ?_
        rintro r w5 ⟨v5, rfl, r5, b5⟩
        have HC5 := Lib.hid (HC4.out.later b5)
        obtain ⟨mk, mv, mn, ms⟩ := me
        obtain ⟨q5, c5, rfl, hc5⟩ := r5.form
        have HR5 : Hid (RdE (Sub (w.heap.size + 2) w5 (.slice qv i cv)) w5 (.mk mk mv mn ms) (.agg #[.int .i64 mk, .string (bstr mv), .string (bstr mn), .slice q5 ms.length c5])) := r5.imp fun b hb => ⟨Nat.le_trans HC4.out.2.2.2.2 hb.1, hb.2, fun e => by
          have := HC4.out.2.2.1.blk e.symm
          have := hb.1
          omega⟩
        unfold exv
        dsimp only [Ex.kind, Ex.via, Ex.nm, Ex.kids]
        have HB6 : Hid (Below w5.heap.size w5 (w5.alloc (.cells #[.int .i64 mk, .string (bstr mv), .string (bstr mn), .slice q5 ms.length c5] 31))) := (Below.refl _ _).alloc (Nat.le_refl _) _
        have HC6 := Lib.hid (HC5.out.later HB6.out)
        have HTR := Lib.hid HC6.out.2.2.1
        have HAB : Hid (Arr (w5.alloc (.cells #[.int .i64 mk, .string (bstr mv), .string (bstr mn), .slice q5 ms.length c5] 31)) 31 w5.heap.size [.int .i64 mk, .string (bstr mv), .string (bstr mn), .slice q5 ms.length c5]) := Arr.new' _ _ _ _ rfl
        have HRE : Hid (RdE (Sub (w.heap.size + 2) (w5.alloc (.cells #[.int .i64 mk, .string (bstr mv), .string (bstr mn), .slice q5 ms.length c5] 31)) (.slice qv i cv)) (w5.alloc (.cells #[.int .i64 mk, .string (bstr mv), .string (bstr mn), .slice q5 ms.length c5] 31)) (.mk mk mv mn ms) (.agg #[.int .i64 mk, .string (bstr mv), .string (bstr mn), .slice q5 ms.length c5])) :=
          (HR5.out.below HB6.out fun b hb => hb.2.1).imp fun b hb => ⟨hb.1, Nat.lt_of_lt_of_le hb.2.1 HB6.out.size, hb.2.2⟩
        have HAC : Hid ((canL cmpE (ks.take i)).length + 1 ≤ 1000000) := by show _ ≤ _; omega
        have HBS : Hid (w.heap.size + 2 ≤ (w5.alloc (.cells #[.int .i64 mk, .string (bstr mv), .string (bstr mn), .slice q5 ms.length c5] 31)).heap.size) := HC6.out.2.2.2.2
        clear b5 r5 hc5 htl
        go_wp2_with (at_builtin; refine app_ex rfl _ _ rfl rfl HTR.out rfl HAB.out HRE.out HAC.out HBS.out ?_; intro v6 w6 h6 b6 g6)
        go_roundw
        case rel => exact ⟨i + 1, by omega, by go_num, by rw [HMP.out]; exact HC6.out.row h6 b6⟩
        case measure => simp [intOf]; omega
      · have hi1 : ¬ (i : Int) < ks.length := by omega
        have HK2 : Hid (ks.take i = ks) := List.take_of_length_le (by omega)
        obtain rfl : i = ks.length := by omega
        have HC2 := HC.out
        rw [HK2.out] at HC2
        have HC3 := Lib.hid HC2
        have hq0 := HC2.1.cell 0
        have hq1 := HC2.1.cell 1
        have hq2 := HC2.1.cell 2
        have hq3 := HC2.1.cell 3
        have hf3 := HC2.1.free 3
        simp only [List.getElem?_cons_zero, List.getElem?_cons_succ] at hq0 hq1 hq2 hq3
        have hstr : (w.heap.size : Nat) < w.heap.size + 2 := by omega
        have HQ3 := Lib.hid (HC3.out.1.set 3 (.slice qv ks.length cv))
        have HE3 := Lib.hid (HC3.out.2.2.1.set (a := ⟨w.heap.size, 3, none⟩) hstr (.slice qv ks.length cv))
        have HZ3 := Lib.hid (HC3.out.2.1.setCell (a := ⟨w.heap.size, 3, none⟩) (by simp) (.slice qv ks.length cv))
        have HB3 : Hid (Below w.heap.size w (wr.setCell ⟨w.heap.size, 3, none⟩ (.slice qv ks.length cv))) := HC3.out.2.2.2.1.setCell (p := ⟨w.heap.size, 3, none⟩) (Nat.le_refl _) (.slice qv ks.length cv)
        have HF3 : Hid (FBox (wr.setCell ⟨w.heap.size, 3, none⟩ (.slice qv ks.length cv)) pb 15) := (HFB.out.later HC3.out.2.2.2.1).set (by have := HFB.out.1; show pb ≠ w.heap.size; omega) _
        have HSL : Hid (sizeE (.mk k xv xn (canL cmpE ks)) ≤ 900000) := by have := canL_size ks; have h := HKM.out; show sizeE _ ≤ _; rw [sizeE] at h ⊢; omega
        have hrd := HE3.out.rd k xv xn
        have HMD := Lib.hid (canE_mk k xv xn ks)
        have HGN : Hid (k = 3 ∨ k = 4 → 0 < (canL cmpE ks).length ∧ ∀ x ∈ canL cmpE ks, x.kind = k → 0 < x.kids.length) := fun hk => by
          rw [canL_len]
          refine ⟨by have := form_ne HFE.out hk; omega, fun x hx hxk => ?_⟩
          rw [canL_map, List.mem_map] at hx
          obtain ⟨y, hy, rfl⟩ := hx
          have hf := (can_ok ordX y (formL_mem' HKF.out y hy)).2.1
          generalize canE cmpE y = z at hf hxk ⊢
          obtain ⟨a, b, cc, d⟩ := z
          have := form_ne hf (show a = 3 ∨ a = 4 by have h : a = k := hxk; rw [h]; exact hk)
          show 0 < d.length
          omega
        have HSZ3 : Hid ((wr.setCell ⟨w.heap.size, 3, none⟩ (.slice qv ks.length cv)).heap.size = wr.heap.size) := by show _ = _; simp [World.setCell]
        have HFX := Lib.hid (fx_any (e := .mk k xv xn (canL cmpE ks)) HF3.out hrd (fun b hb => hb.2) HSL.out HGN.out)
        have HW2 := Lib.hid HC3.out.2.2.2.2
        obtain ⟨F, hF⟩ : ∃ F, F = canE cmpE (.mk k xv xn ks) := ⟨_, rfl⟩
        dsimp only [Ex.kind, Ex.via, Ex.nm, Ex.kids] at HFX
        rw [← HMD.out, ← hF] at HFX
        have HFQ := Lib.hid hF
        have hq30 := HQ3.out.cell 0
        have hq31 := HQ3.out.cell 1
        have hq32 := HQ3.out.cell 2
        have hq33 := HQ3.out.cell 3
        simp only [List.set_cons_zero, List.set_cons_succ, List.getElem?_cons_zero, List.getElem?_cons_succ] at hq30 hq31 hq32 hq33
        clear HC2 htl HC hrd hF hq0 hq1 hq2
        go_wp2_with fail
        refine HFX.out.mono ?_
        rintro r w8 ⟨v8, rfl, r8, b8⟩
        have HB8 : Hid (Below w.heap.size w w8) := HB3.out.trans (b8.mono (by rw [HSZ3.out]; have := HW2.out; omega))
        have HE8 := Lib.hid (HZ3.out.later b8)
        have R8 := Lib.hid r8
        have HS8 := Lib.hid b8.size
        obtain ⟨yk, yv, yn, ys⟩ := F
        obtain ⟨q8, c8, rfl, _, _⟩ := r8.form
        unfold exv
        dsimp only [Ex.kind, Ex.via, Ex.nm, Ex.kids]
        have hr0 := HE8.out.cell 0
        have hr1 := HE8.out.cell 1
        have hr2 := HE8.out.cell 2
        have hr3 := HE8.out.cell 3
        have hp0 := HE8.out.free 0
        have hp1 := HE8.out.free 1
        have hp2 := HE8.out.free 2
        have hp3 := HE8.out.free 3
        simp only [List.getElem?_cons_zero, List.getElem?_cons_succ] at hr0 hr1 hr2 hr3
        clear b8 r8 hq30 hq31 hq32 hq33 hf3 hq3
        go_wp2_with fail
        have hA := HE8.out.set4 (.int .i64 yk) (.string (bstr yv)) (.string (bstr yn)) (.slice q8 ys.length c8)
        have hB := below_set4 (g := w.heap.size + 1) HB8.out (by omega) (.int .i64 yk) (.string (bstr yv)) (.string (bstr yn)) (.slice q8 ys.length c8)
        have hsz8 : ((((w8.setCell ⟨w.heap.size + 1, 0, none⟩ (.int .i64 yk)).setCell ⟨w.heap.size + 1, 1, none⟩ (.string (bstr yv))).setCell ⟨w.heap.size + 1, 2, none⟩ (.string (bstr yn))).setCell ⟨w.heap.size + 1, 3, none⟩ (.slice q8 ys.length c8)).heap.size = w8.heap.size := by simp [World.setCell]
        refine bodyPost_ret (resE rfl hA rfl) rfl ⟨_, rfl, ?_, hB⟩
        rw [hsz8, ← HFQ.out]
        refine (R8.out.keep fun b hb n => World.cell?_of_block (heap_set4x w8 (w.heap.size + 1) _ _ _ _ (b := b) ?_)).imp fun b hb => ?_
        · rcases hb with hb | hb
          · have := hb.1; omega
          · have := hb.1; have := HW2.out; have := HSZ3.out; omega
        · rcases hb with hb | hb
          · exact ⟨by have := hb.1; omega, by have := hb.2; have := HS8.out; omega⟩
          · exact ⟨by have := hb.1; have := HW2.out; have := HSZ3.out; omega, hb.2⟩
theorem idle_M (p : Value) (w : World) :
    CallsD Try.prog 33 #[p] .returning w fun e u' w' => e = .returned (.tuple #[]) ∧ u' = .returning ∧ w' = w := by
  refine callsD_of_wpS Try.func33 rfl fun c₀ cs hu => ?_
  apply wpS_seq
  apply wpS_region
  simp [wpOpsS, go_sem, recoverD, hu, Try.ntmps33, Exit.thenS]
  refine wpS_cond (t := false) (by simp [Act.eval, Array.replicate]) ?_
  simp only [Bool.false_eq_true, if_false]
  refine wpS_of_wp (wp_skip ?_)
  cases c₀
  simp_all [bodyPostS, results, Try.results33]
set_option maxRecDepth 100000 in
set_option maxHeartbeats 4000000 in
theorem mapX_any (e : Ex) (v : Value) (P : Nat → Prop) (w : World) (pb : Nat) (hm : sizeE e ≤ 900000) (hwt : formE e = true) (hfb : FBox w pb 15) (h : RdE P w e v) (hP : ∀ b, P b → b < w.heap.size) : Calls Try.prog 16 #[v, .func (.func 17) #[] #[.pointer (some ⟨pb, 0, none⟩)]] w (ClPost (canE cmpE e) w) := by
  have H := Lib.hid h
  obtain ⟨q, c, rfl, hc, hk⟩ := h.form
  obtain ⟨k, xv, xn, ks⟩ := e
  unfold exv
  show Calls _ _ #[.agg #[.int .i64 k, .string (bstr xv), .string (bstr xn), .slice q ks.length c], .func (.func 17) #[] #[.pointer (some ⟨pb, 0, none⟩)]] _ _
  have hmf : ∀ (fn : Fn) (first cap : Array Value) (w : World), (Instr.makeFunc fn first cap).run Try.prog w = .ok (.func fn first cap) w := fun _ _ _ _ => rfl
  have HW : Hid (Arr ((w.alloc (.cells #[.int .i64 k, .string (bstr xv), .string (bstr xn), .slice q ks.length c] 31)).alloc (.cells #[.int .i64 0, .string ByteArray.empty, .string ByteArray.empty, .slice none 0 0] 31)) 31 (w.heap.size + 1) [.int .i64 0, .string ByteArray.empty, .string ByteArray.empty, .slice none 0 0] ∧ Below w.heap.size w ((w.alloc (.cells #[.int .i64 k, .string (bstr xv), .string (bstr xn), .slice q ks.length c] 31)).alloc (.cells #[.int .i64 0, .string ByteArray.empty, .string ByteArray.empty, .slice none 0 0] 31))) :=
    ⟨Arr.new2 w _ _ _ _ rfl, ((Below.refl _ _).alloc (Nat.le_refl _) _).alloc (by simp) _⟩
  have HMC := Lib.hid (mapC_any pb _ (.mk k xv xn ks) _ P ((w.alloc (.cells #[.int .i64 k, .string (bstr xv), .string (bstr xn), .slice q ks.length c] 31)).alloc (.cells #[.int .i64 0, .string ByteArray.empty, .string ByteArray.empty, .slice none 0 0] 31)) (Nat.le_refl _) hm hwt (hfb.later HW.out.2) (H.out.below HW.out.2 hP) (fun b hb => Nat.lt_of_lt_of_le (hP b hb) HW.out.2.size))
  have HSZ : Hid (sizeE (canE cmpE (.mk k xv xn ks)) ≤ 900000) := Nat.le_trans (canE_size _) hm
  obtain ⟨me, hme⟩ : ∃ e, e = canE cmpE (.mk k xv xn ks) := ⟨_, rfl⟩
  rw [← hme] at HMC HSZ ⊢
  clear h hc hk hm hwt hP hme H hfb
  go_enter_defers Try.func16, Try.ntmps16
  go_wp2_with fail
  refine HMC.out.mono ?_
  rintro r w3 ⟨v3, rfl, r3, b3⟩
  have HB3 := Lib.hid (HW.out.2.trans (b3.mono HW.out.2.size))
  have HA3 := Lib.hid (HW.out.1.later b3)
  have HCL := Lib.hid (clone_any _ me _ _ w3 (Nat.le_refl _) HSZ.out r3 (fun b hb => hb.2))
  clear r3 b3 HMC HW
  go_wp2_with fail
  refine HCL.out.mono ?_
  rintro r w4 ⟨v4, rfl, r4, b4⟩
  have HB4 := Lib.hid (HB3.out.trans (b4.mono HB3.out.size))
  have HA4 := Lib.hid (HA3.out.later b4)
  have HR4 : Hid (RdE (Bt w.heap.size w4.heap.size) w4 me v4) := r4.imp fun b hb => ⟨Nat.le_trans HB3.out.size hb.1, hb.2⟩
  have HLT : Hid (w.heap.size + 1 < w3.heap.size) := HA3.out.lt
  have HR5 : Hid (RdE (Bt w3.heap.size w4.heap.size) w4 me v4) := r4
  obtain ⟨mk, mv, mn, ms⟩ := me
  obtain ⟨q4, c4, rfl, _, _⟩ := r4.form
  unfold exv
  dsimp only [Ex.kind, Ex.via, Ex.nm, Ex.kids]
  have hr0 := HA4.out.cell 0
  have hr1 := HA4.out.cell 1
  have hr2 := HA4.out.cell 2
  have hr3 := HA4.out.cell 3
  have hp0 := HA4.out.free 0
  have hp1 := HA4.out.free 1
  have hp2 := HA4.out.free 2
  have hp3 := HA4.out.free 3
  simp only [List.getElem?_cons_zero, List.getElem?_cons_succ] at hr0 hr1 hr2 hr3
  clear r4 b4 HCL HB3 HA3
  go_wp2_with fail
  refine leaves_cons (f := 33) (args := #[.pointer (some ⟨w.heap.size + 1, 0, none⟩)]) (by simp) (by simp [go_sem]) ?_
  refine (idle_M _ _).mono ?_
  rintro e u' w'' ⟨rfl, rfl, rfl⟩
  have hA := HA4.out.set4 (.int .i64 mk) (.string (bstr mv)) (.string (bstr mn)) (.slice q4 ms.length c4)
  have hB := below_set4 (g := w.heap.size + 1) HB4.out (by omega) (.int .i64 mk) (.string (bstr mv)) (.string (bstr mn)) (.slice q4 ms.length c4)
  have hsz : ((((w4.setCell ⟨w.heap.size + 1, 0, none⟩ (.int .i64 mk)).setCell ⟨w.heap.size + 1, 1, none⟩ (.string (bstr mv))).setCell ⟨w.heap.size + 1, 2, none⟩ (.string (bstr mn))).setCell ⟨w.heap.size + 1, 3, none⟩ (.slice q4 ms.length c4)).heap.size = w4.heap.size := by simp [World.setCell]
  refine ⟨.agg #[.int .i64 mk, .string (bstr mv), .string (bstr mn), .slice q4 ms.length c4], ?_, _, rfl, ?_, hB⟩
  · exact resE rfl hA rfl
  · refine (HR5.out.keep fun b hb n => ?_).imp fun b hb => ⟨Nat.le_trans (by have := HLT.out; omega) hb.1, by rw [hsz]; exact hb.2⟩
    have hne : b ≠ w.heap.size + 1 := by have := hb.1; have := HLT.out; omega
    rw [World.cell?_of_block (Below.heap_setCell _ ⟨w.heap.size + 1, 3, none⟩ _ b hne), World.cell?_of_block (Below.heap_setCell _ ⟨w.heap.size + 1, 2, none⟩ _ b hne), World.cell?_of_block (Below.heap_setCell _ ⟨w.heap.size + 1, 1, none⟩ _ b hne), World.cell?_of_block (Below.heap_setCell _ ⟨w.heap.size + 1, 0, none⟩ _ b hne)]
end Go.Proofs.Ytdnmgemjhpkekaa
/-
  canon.Expr.
-/
namespace Go.Proofs.Ytdnmgemjhpkekaa
open Go.ChangeShapes Go.WideShapes Go.ChangeAt Go.RowKit
set_option linter.unusedVariables false
set_option linter.unusedSectionVars false
set_option linter.unusedSimpArgs false

set_option maxRecDepth 100000 in
set_option maxHeartbeats 4000000 in
theorem cexpr_any {P : Nat → Prop} {w : World} {e : Ex} {v : Value} (h : RdE P w e v) (hP : ∀ b, P b → b < w.heap.size) (hsz : sizeE e ≤ 900000) (hfm : formE e = true) :
    Calls Try.prog 8 #[v] w (ClPost (canE cmpE e) w) := by
  have HR := Lib.hid h
  have HSZ := Lib.hid hsz
  have HFM := Lib.hid hfm
  obtain ⟨q, c, rfl, hc, hk⟩ := h.form
  obtain ⟨k, xv, xn, ks⟩ := e
  unfold exv
  show Calls _ _ #[.agg #[.int .i64 k, .string (bstr xv), .string (bstr xn), .slice q ks.length c]] _ _
  have HA0 : Hid (Arr (((w.alloc (.cells #[.int .i64 k, .string (bstr xv), .string (bstr xn), .slice q ks.length c] 31)).alloc (.cells #[.int .i64 0, .string ⟨#[]⟩, .string ⟨#[]⟩, .slice none 0 0] 31)).alloc (.cells #[.func (.func 15) #[] #[]] 44)) 31 (w.heap.size + 1) [.int .i64 0, .string ByteArray.empty, .string ByteArray.empty, .slice none 0 0] ∧ Below w.heap.size w (((w.alloc (.cells #[.int .i64 k, .string (bstr xv), .string (bstr xn), .slice q ks.length c] 31)).alloc (.cells #[.int .i64 0, .string ⟨#[]⟩, .string ⟨#[]⟩, .slice none 0 0] 31)).alloc (.cells #[.func (.func 15) #[] #[]] 44))) :=
    ⟨(Arr.new2 w _ _ _ _ rfl).alloc _, (((Below.refl _ _).alloc (Nat.le_refl _) _).alloc (by simp) _).alloc (by simp; omega) _⟩
  have ha3 : Arr (((w.alloc (.cells #[.int .i64 k, .string (bstr xv), .string (bstr xn), .slice q ks.length c] 31)).alloc (.cells #[.int .i64 0, .string ⟨#[]⟩, .string ⟨#[]⟩, .slice none 0 0] 31)).alloc (.cells #[.func (.func 15) #[] #[]] 44)) 44 (w.heap.size + 1 + 1) [.func (.func 15) #[] #[]] := Arr.new3 w (.cells #[.int .i64 k, .string (bstr xv), .string (bstr xn), .slice q ks.length c] 31) (.cells #[.int .i64 0, .string ⟨#[]⟩, .string ⟨#[]⟩, .slice none 0 0] 31) 44 #[.func (.func 15) #[] #[]] [.func (.func 15) #[] #[]] rfl
  have hs0 : (((w.alloc (.cells #[.int .i64 k, .string (bstr xv), .string (bstr xn), .slice q ks.length c] 31)).alloc (.cells #[.int .i64 0, .string ⟨#[]⟩, .string ⟨#[]⟩, .slice none 0 0] 31)).alloc (.cells #[.func (.func 15) #[] #[]] 44)).heap.size = w.heap.size + 3 := by simp [World.setCell]
  have HFB : Hid (FBox (((w.alloc (.cells #[.int .i64 k, .string (bstr xv), .string (bstr xn), .slice q ks.length c] 31)).alloc (.cells #[.int .i64 0, .string ⟨#[]⟩, .string ⟨#[]⟩, .slice none 0 0] 31)).alloc (.cells #[.func (.func 15) #[] #[]] 44)) (w.heap.size + 1 + 1) 15) := ⟨by rw [hs0]; omega, ha3.cell 0⟩
  have HC := Lib.hid (mapX_any (.mk k xv xn ks) _ P (((w.alloc (.cells #[.int .i64 k, .string (bstr xv), .string (bstr xn), .slice q ks.length c] 31)).alloc (.cells #[.int .i64 0, .string ⟨#[]⟩, .string ⟨#[]⟩, .slice none 0 0] 31)).alloc (.cells #[.func (.func 15) #[] #[]] 44)) (w.heap.size + 1 + 1) HSZ.out HFM.out HFB.out (HR.out.below HA0.out.2 hP) (fun b hb => Nat.lt_of_lt_of_le (hP b hb) HA0.out.2.size))
  unfold exv at HC
  dsimp only [Ex.kind, Ex.via, Ex.nm, Ex.kids] at HC
  have hmk : ∀ (fn : Fn) (first cap : Array Value) (w : World), (Instr.makeFunc fn first cap).run Try.prog w = .ok (.func fn first cap) w := fun _ _ _ _ => rfl
  obtain ⟨F, hF⟩ : ∃ F, F = canE cmpE (.mk k xv xn ks) := ⟨_, rfl⟩
  rw [← hF] at HC ⊢
  have HS0 := Lib.hid hs0
  clear h hc hk hsz hfm hF hs0 ha3
  go_enter Try.func8, Try.ntmps8
  go_wp2_with fail
  refine HC.out.mono ?_
  rintro r w5 ⟨v5, rfl, r5, b5⟩
  have HB5 := Lib.hid (HA0.out.2.trans (b5.mono (by rw [HS0.out]; omega)))
  have HA5 := Lib.hid (HA0.out.1.below b5 (by rw [HS0.out]; omega))
  obtain ⟨yk, yv, yn, ys⟩ := F
  have R5 := Lib.hid r5
  obtain ⟨q5, c5, rfl, _, _⟩ := r5.form
  unfold exv
  dsimp only [Ex.kind, Ex.via, Ex.nm, Ex.kids]
  have r0 := HA5.out.cell 0
  have r1 := HA5.out.cell 1
  have r2 := HA5.out.cell 2
  have r3 := HA5.out.cell 3
  have p0 := HA5.out.free 0
  have p1 := HA5.out.free 1
  have p2 := HA5.out.free 2
  have p3 := HA5.out.free 3
  simp only [List.getElem?_cons_zero, List.getElem?_cons_succ] at r0 r1 r2 r3
  clear r5 b5 HC
  go_wp2_with fail
  have hA := HA5.out.set4 (.int .i64 yk) (.string (bstr yv)) (.string (bstr yn)) (.slice q5 ys.length c5)
  have hBl := below_set4 (g := w.heap.size + 1) HB5.out (by omega) (.int .i64 yk) (.string (bstr yv)) (.string (bstr yn)) (.slice q5 ys.length c5)
  have hsz5 : ((((w5.setCell ⟨w.heap.size + 1, 0, none⟩ (.int .i64 yk)).setCell ⟨w.heap.size + 1, 1, none⟩ (.string (bstr yv))).setCell ⟨w.heap.size + 1, 2, none⟩ (.string (bstr yn))).setCell ⟨w.heap.size + 1, 3, none⟩ (.slice q5 ys.length c5)).heap.size = w5.heap.size := by simp [World.setCell]
  refine bodyPost_ret (resE rfl hA rfl) rfl ⟨_, rfl, ?_, hBl⟩
  rw [hsz5]
  refine (R5.out.keep fun b hb n => World.cell?_of_block (heap_set4x w5 (w.heap.size + 1) _ _ _ _ (b := b) ?_)).imp fun b hb => ⟨?_, hb.2⟩
  · have := hb.1; rw [HS0.out] at this; omega
  · have := hb.1; rw [HS0.out] at this; omega
end Go.Proofs.Ytdnmgemjhpkekaa
/-
  vestrylaw15.awake.
-/
namespace Go.Proofs.Ytdnmgemjhpkekaa
open Go.ChangeShapes Go.WideShapes Go.ChangeAt Go.RowKit Go.Lib Go.Sort
set_option linter.unusedVariables false
set_option linter.unusedSectionVars false
set_option linter.unusedSimpArgs false

def lA : Ex := .mk 1 [] [97] []
def lB : Ex := .mk 1 [] [98] []
def uAB : Ex := .mk 3 [] [] [lA, lB]
def uIn : Ex := .mk 3 [] [] [lB, uAB]
def iAA : Ex := .mk 4 [] [] [lA, lA]
theorem uIn_form : formE uIn = true := by decide +kernel
theorem iAA_form : formE iAA = true := by decide +kernel
theorem uIn_can : canE cmpE uIn = uAB := by decide +kernel
theorem iAA_can : canE cmpE iAA = lA := by decide +kernel
theorem uIn_size : sizeE uIn ≤ 900000 := by decide +kernel
theorem iAA_size : sizeE iAA ≤ 900000 := by decide +kernel
theorem uAB_size : sizeE uAB ≤ 900000 := by decide +kernel
theorem lA_size : sizeE lA ≤ 900000 := by decide +kernel
theorem uAB_ok : okE 100000 uAB := by unfold uAB lA lB; simp [okE, okL]
theorem lA_ok : okE 100000 lA := by unfold lA; simp [okE, okL]
theorem ord_ab : ord ⟨#[97]⟩ ⟨#[98]⟩ < 0 := by decide +kernel
theorem ord_ba : ¬ ord ⟨#[98]⟩ ⟨#[97]⟩ < 0 := by decide +kernel
theorem bb_one : sortedO ordY [(⟨#[98]⟩, ⟨#[]⟩), (⟨#[98]⟩, ⟨#[]⟩)] = [((⟨#[98]⟩, ⟨#[]⟩) : Yl)] := by decide +kernel
theorem rdA (P : Nat → Prop) (w : World) (q : Option Addr) (c : Nat) : RdE P w lA (.agg #[.int .i64 1, .string ⟨#[]⟩, .string ⟨#[97]⟩, .slice q 0 c]) := by
  unfold lA RdE
  exact ⟨q, c, rfl, Nat.zero_le _, fun h => by simp at h⟩
theorem rdB (P : Nat → Prop) (w : World) (q : Option Addr) (c : Nat) : RdE P w lB (.agg #[.int .i64 1, .string ⟨#[]⟩, .string ⟨#[98]⟩, .slice q 0 c]) := by
  unfold lB RdE
  exact ⟨q, c, rfl, Nat.zero_le _, fun h => by simp at h⟩
theorem rdUAB {P : Nat → Prop} {w : World} {g : Nat} (hA : Arr w 31 g [.int .i64 1, .string ⟨#[]⟩, .string ⟨#[97]⟩, .slice none 0 0, .int .i64 1, .string ⟨#[]⟩, .string ⟨#[98]⟩, .slice none 0 0]) (hg : P g) : RdE P w uAB (.agg #[.int .i64 3, .string ⟨#[]⟩, .string ⟨#[]⟩, .slice (some ⟨g, 0, none⟩) 2 2]) := by
  unfold uAB RdE
  refine ⟨_, _, rfl, Nat.le_refl _, fun _ => ⟨g, 0, rfl, hg, ?_⟩⟩
  exact CellsL.rdL (cs := [.int .i64 1, .string ⟨#[]⟩, .string ⟨#[97]⟩, .slice none 0 0, .int .i64 1, .string ⟨#[]⟩, .string ⟨#[98]⟩, .slice none 0 0]) ⟨rdA _ _ _ _, rdB _ _ _ _, trivial⟩ fun j u hj => by rw [Nat.zero_add, ← hj]; exact hA.cell j
theorem loadSG {ops : Array Oper} {rest : List Oper} {o : Oper} {a : Act} {Q : Exit → Act → World → Prop} {w : World} {b off : Nat} {x : Operand} {v : Value} (hr : w.rangeAt b off [v]) (hs : Region.wanted o (yielded ops a.tmps) = true ∧ o.op = .load 35 x ∧ a.eval x = .pointer (some ⟨b, off, none⟩))
    (hk : wpList Try.prog ops Q rest (a.put o.dst (.agg #[v])) w) : wpList Try.prog ops Q (o :: rest) a w :=
  wpList_step fun K hK => by
    rw [if_pos hs.1]
    exact wp_load_mid _ x hs.2.1 b off hs.2.2 [v] _ hr Try.underlying35 rfl (by kernel_rfl) (hK _ _ hk)
theorem loadEG {ops : Array Oper} {rest : List Oper} {o : Oper} {a : Act} {Q : Exit → Act → World → Prop} {w : World} {b off : Nat} {x : Operand} {u0 u1 u2 u3 : Value} (hr : w.rangeAt b off [u0, u1, u2, u3]) (hs : Region.wanted o (yielded ops a.tmps) = true ∧ o.op = .load 31 x ∧ a.eval x = .pointer (some ⟨b, off, none⟩))
    (hk : wpList Try.prog ops Q rest (a.put o.dst (.agg #[u0, u1, u2, u3])) w) : wpList Try.prog ops Q (o :: rest) a w :=
  wpList_step fun K hK => by
    rw [if_pos hs.1]
    exact wp_load_mid _ x hs.2.1 b off hs.2.2 [u0, u1, u2, u3] _ hr Try.underlying31 rfl (by kernel_rfl) (hK _ _ hk)
set_option maxRecDepth 100000 in
set_option maxHeartbeats 4000000 in
theorem awake_any (w : World) : Calls Try.prog 4 #[] w fun e w' => e = .returned (.bool true) ∧ Below w.heap.size w w' := by
  have HA0 : Hid (Arr ((w.alloc (.cells #[.int .i64 1, .string ⟨#[]⟩, .string ⟨#[97]⟩, .slice none 0 0] 31)).alloc (.cells #[.int .i64 1, .string ⟨#[]⟩, .string ⟨#[98]⟩, .slice none 0 0] 31)) 31 w.heap.size [.int .i64 1, .string ⟨#[]⟩, .string ⟨#[97]⟩, .slice none 0 0]) := (Arr.new' w _ _ _ rfl).alloc _
  have HB0 : Hid (Arr ((w.alloc (.cells #[.int .i64 1, .string ⟨#[]⟩, .string ⟨#[97]⟩, .slice none 0 0] 31)).alloc (.cells #[.int .i64 1, .string ⟨#[]⟩, .string ⟨#[98]⟩, .slice none 0 0] 31)) 31 (w.heap.size + 1) [.int .i64 1, .string ⟨#[]⟩, .string ⟨#[98]⟩, .slice none 0 0]) := Arr.new2 w _ _ _ _ rfl
  have HW0 : Hid (Below w.heap.size w ((w.alloc (.cells #[.int .i64 1, .string ⟨#[]⟩, .string ⟨#[97]⟩, .slice none 0 0] 31)).alloc (.cells #[.int .i64 1, .string ⟨#[]⟩, .string ⟨#[98]⟩, .slice none 0 0] 31))) := ((Below.refl _ _).alloc (Nat.le_refl _) _).alloc (by simp) _
  go_enter Try.func4, Try.ntmps4
  go_upto_region 3 with fail
  generalize ((w.alloc (.cells #[.int .i64 1, .string ⟨#[]⟩, .string ⟨#[97]⟩, .slice none 0 0] 31)).alloc (.cells #[.int .i64 1, .string ⟨#[]⟩, .string ⟨#[98]⟩, .slice none 0 0] 31)) = w0 at HA0 HB0 HW0 ⊢
  have a0 := HA0.out.cell 0
  have a1 := HA0.out.cell 1
  have a2 := HA0.out.cell 2
  have a3 := HA0.out.cell 3
  have b0 := HB0.out.cell 0
  have b1 := HB0.out.cell 1
  have b2 := HB0.out.cell 2
  have b3 := HB0.out.cell 3
  simp only [List.getElem?_cons_zero, List.getElem?_cons_succ] at a0 a1 a2 a3 b0 b1 b2 b3
  have hb1 : Below w0.heap.size w0 (w0.alloc (.cells #[.int .i64 1, .string ⟨#[]⟩, .string ⟨#[97]⟩, .slice none 0 0, .int .i64 1, .string ⟨#[]⟩, .string ⟨#[98]⟩, .slice none 0 0] 31)) := (Below.refl _ _).alloc (Nat.le_refl _) _
  have hb2 : Below w0.heap.size w0 ((w0.alloc (.cells #[.int .i64 1, .string ⟨#[]⟩, .string ⟨#[97]⟩, .slice none 0 0, .int .i64 1, .string ⟨#[]⟩, .string ⟨#[98]⟩, .slice none 0 0] 31)).alloc (.cells #[.int .i64 1, .string ⟨#[]⟩, .string ⟨#[98]⟩, .slice none 0 0, .int .i64 3, .string ⟨#[]⟩, .string ⟨#[]⟩, .slice (some ⟨w0.heap.size, 0, none⟩) 2 2] 31)) := hb1.alloc hb1.size _
  have hin : Arr ((w0.alloc (.cells #[.int .i64 1, .string ⟨#[]⟩, .string ⟨#[97]⟩, .slice none 0 0, .int .i64 1, .string ⟨#[]⟩, .string ⟨#[98]⟩, .slice none 0 0] 31)).alloc (.cells #[.int .i64 1, .string ⟨#[]⟩, .string ⟨#[98]⟩, .slice none 0 0, .int .i64 3, .string ⟨#[]⟩, .string ⟨#[]⟩, .slice (some ⟨w0.heap.size, 0, none⟩) 2 2] 31)) 31 w0.heap.size [.int .i64 1, .string ⟨#[]⟩, .string ⟨#[97]⟩, .slice none 0 0, .int .i64 1, .string ⟨#[]⟩, .string ⟨#[98]⟩, .slice none 0 0] := (Arr.new' w0 _ _ _ rfl).alloc _
  have hout : Arr ((w0.alloc (.cells #[.int .i64 1, .string ⟨#[]⟩, .string ⟨#[97]⟩, .slice none 0 0, .int .i64 1, .string ⟨#[]⟩, .string ⟨#[98]⟩, .slice none 0 0] 31)).alloc (.cells #[.int .i64 1, .string ⟨#[]⟩, .string ⟨#[98]⟩, .slice none 0 0, .int .i64 3, .string ⟨#[]⟩, .string ⟨#[]⟩, .slice (some ⟨w0.heap.size, 0, none⟩) 2 2] 31)) 31 (w0.heap.size + 1) [.int .i64 1, .string ⟨#[]⟩, .string ⟨#[98]⟩, .slice none 0 0, .int .i64 3, .string ⟨#[]⟩, .string ⟨#[]⟩, .slice (some ⟨w0.heap.size, 0, none⟩) 2 2] := Arr.new2 w0 _ _ _ _ rfl
  have hz2 : ((w0.alloc (.cells #[.int .i64 1, .string ⟨#[]⟩, .string ⟨#[97]⟩, .slice none 0 0, .int .i64 1, .string ⟨#[]⟩, .string ⟨#[98]⟩, .slice none 0 0] 31)).alloc (.cells #[.int .i64 1, .string ⟨#[]⟩, .string ⟨#[98]⟩, .slice none 0 0, .int .i64 3, .string ⟨#[]⟩, .string ⟨#[]⟩, .slice (some ⟨w0.heap.size, 0, none⟩) 2 2] 31)).heap.size = w0.heap.size + 2 := by simp
  have hrd : RdE (Bt w0.heap.size (w0.heap.size + 2)) ((w0.alloc (.cells #[.int .i64 1, .string ⟨#[]⟩, .string ⟨#[97]⟩, .slice none 0 0, .int .i64 1, .string ⟨#[]⟩, .string ⟨#[98]⟩, .slice none 0 0] 31)).alloc (.cells #[.int .i64 1, .string ⟨#[]⟩, .string ⟨#[98]⟩, .slice none 0 0, .int .i64 3, .string ⟨#[]⟩, .string ⟨#[]⟩, .slice (some ⟨w0.heap.size, 0, none⟩) 2 2] 31)) uIn (.agg #[.int .i64 3, .string ⟨#[]⟩, .string ⟨#[]⟩, .slice (some ⟨w0.heap.size + 1, 0, none⟩) 2 2]) := by
    unfold uIn RdE
    refine ⟨_, _, rfl, Nat.le_refl _, fun _ => ⟨w0.heap.size + 1, 0, rfl, ⟨by omega, by omega⟩, ?_⟩⟩
    exact CellsL.rdL (cs := [.int .i64 1, .string ⟨#[]⟩, .string ⟨#[98]⟩, .slice none 0 0, .int .i64 3, .string ⟨#[]⟩, .string ⟨#[]⟩, .slice (some ⟨w0.heap.size, 0, none⟩) 2 2]) ⟨rdB _ _ _ _, rdUAB hin ⟨by omega, by omega⟩, trivial⟩ fun j u hj => by rw [Nat.zero_add, ← hj]; exact hout.cell j
  have HC := cexpr_any hrd (fun b hb => by rw [hz2]; exact hb.2) uIn_size uIn_form
  rw [uIn_can] at HC
  replace HC := Lib.hid HC
  have HWa := Lib.hid (HW0.out.trans (hb2.mono HW0.out.size))
  have HAa := Lib.hid (HA0.out.later hb2)
  have HBa := Lib.hid (HB0.out.later hb2)
  clear hb1 hb2 hin hout hz2 hrd
  go_wp2_with fail
  refine HC.out.mono ?_
  rintro e w3 ⟨v3, rfl, r3, c3⟩
  have HW3 := Lib.hid (HWa.out.trans (c3.mono HWa.out.size))
  have HA3 := Lib.hid (HAa.out.later c3)
  have HB3 := Lib.hid (HBa.out.later c3)
  obtain ⟨q3, d3, hv3, _, _⟩ := r3.form
  have hv3' : v3 = .agg #[.int .i64 3, .string ⟨#[]⟩, .string ⟨#[]⟩, .slice q3 2 d3] := hv3
  subst hv3'
  clear hv3
  have R3 : Hid (∀ W, Below w3.heap.size w3 W → RdE (fun b => b < w3.heap.size) W uAB (.agg #[.int .i64 3, .string ⟨#[]⟩, .string ⟨#[]⟩, .slice q3 2 d3])) := fun W hW => (r3.imp (Q := fun b => b < w3.heap.size) fun b hb => hb.2).below hW (fun b hb => hb)
  have HR3 : Hid (Arr (w3.alloc (.cells #[.int .i64 3, .string ⟨#[]⟩, .string ⟨#[]⟩, .slice q3 2 d3] 31)) 31 w3.heap.size [.int .i64 3, .string ⟨#[]⟩, .string ⟨#[]⟩, .slice q3 2 d3]) := Arr.new' w3 _ _ _ rfl
  have hb4 : Below w3.heap.size w3 (w3.alloc (.cells #[.int .i64 3, .string ⟨#[]⟩, .string ⟨#[]⟩, .slice q3 2 d3] 31)) := (Below.refl _ _).alloc (Nat.le_refl _) _
  have HX4 := Lib.hid hb4
  have HA4 := Lib.hid (HA3.out.later hb4)
  have HB4 := Lib.hid (HB3.out.later hb4)
  have HW4 := Lib.hid (HW3.out.trans (hb4.mono HW3.out.size))
  clear hb4 a0 a1 a2 a3 b0 b1 b2 b3 HC HWa HAa HBa c3 r3 HW3 HA3 HB3 HA0 HB0 HW0
  go_upto_region 4 with fail
  generalize w3.alloc (.cells #[.int .i64 3, .string ⟨#[]⟩, .string ⟨#[]⟩, .slice q3 2 d3] 31) = w4 at HR3 HX4 HA4 HB4 HW4 ⊢
  have a0 := HA4.out.cell 0
  have a1 := HA4.out.cell 1
  have a2 := HA4.out.cell 2
  have a3 := HA4.out.cell 3
  simp only [List.getElem?_cons_zero, List.getElem?_cons_succ] at a0 a1 a2 a3
  have hb5 : Below w4.heap.size w4 (w4.alloc (.cells #[.int .i64 1, .string ⟨#[]⟩, .string ⟨#[97]⟩, .slice none 0 0, .int .i64 1, .string ⟨#[]⟩, .string ⟨#[97]⟩, .slice none 0 0] 31)) := (Below.refl _ _).alloc (Nat.le_refl _) _
  have hia : Arr (w4.alloc (.cells #[.int .i64 1, .string ⟨#[]⟩, .string ⟨#[97]⟩, .slice none 0 0, .int .i64 1, .string ⟨#[]⟩, .string ⟨#[97]⟩, .slice none 0 0] 31)) 31 w4.heap.size [.int .i64 1, .string ⟨#[]⟩, .string ⟨#[97]⟩, .slice none 0 0, .int .i64 1, .string ⟨#[]⟩, .string ⟨#[97]⟩, .slice none 0 0] := Arr.new' w4 _ _ _ rfl
  have hz5 : (w4.alloc (.cells #[.int .i64 1, .string ⟨#[]⟩, .string ⟨#[97]⟩, .slice none 0 0, .int .i64 1, .string ⟨#[]⟩, .string ⟨#[97]⟩, .slice none 0 0] 31)).heap.size = w4.heap.size + 1 := by simp
  have hrd : RdE (Bt w4.heap.size (w4.heap.size + 1)) (w4.alloc (.cells #[.int .i64 1, .string ⟨#[]⟩, .string ⟨#[97]⟩, .slice none 0 0, .int .i64 1, .string ⟨#[]⟩, .string ⟨#[97]⟩, .slice none 0 0] 31)) iAA (.agg #[.int .i64 4, .string ⟨#[]⟩, .string ⟨#[]⟩, .slice (some ⟨w4.heap.size, 0, none⟩) 2 2]) := by
    unfold iAA RdE
    refine ⟨_, _, rfl, Nat.le_refl _, fun _ => ⟨w4.heap.size, 0, rfl, ⟨by omega, by omega⟩, ?_⟩⟩
    exact CellsL.rdL (cs := [.int .i64 1, .string ⟨#[]⟩, .string ⟨#[97]⟩, .slice none 0 0, .int .i64 1, .string ⟨#[]⟩, .string ⟨#[97]⟩, .slice none 0 0]) ⟨rdA _ _ _ _, rdA _ _ _ _, trivial⟩ fun j u hj => by rw [Nat.zero_add, ← hj]; exact hia.cell j
  have HC := cexpr_any hrd (fun b hb => by rw [hz5]; exact hb.2) iAA_size iAA_form
  rw [iAA_can] at HC
  replace HC := Lib.hid HC
  have HXa := Lib.hid (HX4.out.trans (hb5.mono HX4.out.size))
  have HRa := Lib.hid (HR3.out.later hb5)
  have HAa := Lib.hid (HA4.out.later hb5)
  have HBa := Lib.hid (HB4.out.later hb5)
  have HWa := Lib.hid (HW4.out.trans (hb5.mono HW4.out.size))
  clear hb5 hia hz5 hrd HX4 HR3 HA4 HB4 HW4
  go_wp2_with fail
  refine HC.out.mono ?_
  rintro e w5 ⟨v5, rfl, r5, c5⟩
  obtain ⟨q5, d5, hv5, _, _⟩ := r5.form
  have hv5' : v5 = .agg #[.int .i64 1, .string ⟨#[]⟩, .string ⟨#[97]⟩, .slice q5 0 d5] := hv5
  subst hv5'
  clear hv5
  have hb6 : Below w5.heap.size w5 (w5.alloc (.cells #[.int .i64 1, .string ⟨#[]⟩, .string ⟨#[97]⟩, .slice q5 0 d5] 31)) := (Below.refl _ _).alloc (Nat.le_refl _) _
  have cc := c5.trans (hb6.mono c5.size)
  have HF5 : Hid (Arr (w5.alloc (.cells #[.int .i64 1, .string ⟨#[]⟩, .string ⟨#[97]⟩, .slice q5 0 d5] 31)) 31 w5.heap.size [.int .i64 1, .string ⟨#[]⟩, .string ⟨#[97]⟩, .slice q5 0 d5]) := Arr.new' w5 _ _ _ rfl
  have HX6 := Lib.hid (HXa.out.trans (cc.mono HXa.out.size))
  have HR6 := Lib.hid (HRa.out.later cc)
  have HA6 := Lib.hid (HAa.out.later cc)
  have HB6 := Lib.hid (HBa.out.later cc)
  have HW6 := Lib.hid (HWa.out.trans (cc.mono HWa.out.size))
  clear hb6 cc c5 r5 HXa HRa HAa HBa HWa HC a0 a1 a2 a3
  go_upto_region 5 with fail
  generalize w5.alloc (.cells #[.int .i64 1, .string ⟨#[]⟩, .string ⟨#[97]⟩, .slice q5 0 d5] 31) = w6 at HF5 HX6 HR6 HA6 HB6 HW6 ⊢
  have hb7 : Below w6.heap.size w6 (w6.alloc (.cells #[.string ⟨#[98]⟩, .slice none 0 0, .string ⟨#[97]⟩, .slice none 0 0] 39)) := (Below.refl _ _).alloc (Nat.le_refl _) _
  have hda : Arr (w6.alloc (.cells #[.string ⟨#[98]⟩, .slice none 0 0, .string ⟨#[97]⟩, .slice none 0 0] 39)) 39 w6.heap.size [.string ⟨#[98]⟩, .slice none 0 0, .string ⟨#[97]⟩, .slice none 0 0] := Arr.new' w6 _ _ _ rfl
  have hdr : DR (w6.alloc (.cells #[.string ⟨#[98]⟩, .slice none 0 0, .string ⟨#[97]⟩, .slice none 0 0] 39)) w6.heap.size ⟨#[98]⟩ ⟨#[97]⟩ := ⟨hda.lt, ⟨hda.cell 0, hda.cell 1, hda.cell 2, hda.cell 3⟩, fun j => hda.free j⟩
  have HC := Lib.hid (csch2 (c := 2) hdr)
  have HXa := Lib.hid (HX6.out.trans (hb7.mono HX6.out.size))
  have HRa := Lib.hid (HR6.out.later hb7)
  have HFa := Lib.hid (HF5.out.later hb7)
  have HAa := Lib.hid (HA6.out.later hb7)
  have HBa := Lib.hid (HB6.out.later hb7)
  have HWa := Lib.hid (HW6.out.trans (hb7.mono HW6.out.size))
  clear hb7 hda hdr HX6 HR6 HF5 HA6 HB6 HW6
  go_wp2_with fail
  refine HC.out.mono ?_
  rintro e w7 ⟨g, c, rfl, _, hs, c7⟩
  unfold SD at hs
  rw [if_pos ord_ab] at hs
  have hb8 : Below w7.heap.size w7 (w7.alloc (.cells #[.slice (some ⟨g, 0, none⟩) 2 c] 35)) := (Below.refl _ _).alloc (Nat.le_refl _) _
  have cc := c7.trans (hb8.mono c7.size)
  have HS8 : Hid (Arr (w7.alloc (.cells #[.slice (some ⟨g, 0, none⟩) 2 c] 35)) 35 w7.heap.size [.slice (some ⟨g, 0, none⟩) 2 c]) := Arr.new' w7 _ _ _ rfl
  have HD8 := Lib.hid (hs.later hb8)
  have HX8 := Lib.hid (HXa.out.trans (cc.mono HXa.out.size))
  have HR8 := Lib.hid (HRa.out.later cc)
  have HF8 := Lib.hid (HFa.out.later cc)
  have HA8 := Lib.hid (HAa.out.later cc)
  have HB8 := Lib.hid (HBa.out.later cc)
  have HW8 := Lib.hid (HWa.out.trans (cc.mono HWa.out.size))
  clear hb8 cc c7 hs HXa HRa HFa HAa HBa HWa HC
  go_upto_region 6 with fail
  generalize w7.alloc (.cells #[.slice (some ⟨g, 0, none⟩) 2 c] 35) = w8 at HS8 HD8 HX8 HR8 HF8 HA8 HB8 HW8 ⊢
  have s0 := HS8.out.cell 0
  have a0 := HA8.out.cell 0
  have a1 := HA8.out.cell 1
  have a2 := HA8.out.cell 2
  have a3 := HA8.out.cell 3
  have b0 := HB8.out.cell 0
  have b1 := HB8.out.cell 1
  have b2 := HB8.out.cell 2
  have b3 := HB8.out.cell 3
  have r0 := HR8.out.cell 0
  have r1 := HR8.out.cell 1
  have r2 := HR8.out.cell 2
  have r3 := HR8.out.cell 3
  simp only [List.getElem?_cons_zero, List.getElem?_cons_succ] at s0 a0 a1 a2 a3 b0 b1 b2 b3 r0 r1 r2 r3
  have hb9 : Below w8.heap.size w8 (w8.alloc (.cells #[.int .i64 1, .string ⟨#[]⟩, .string ⟨#[97]⟩, .slice none 0 0, .int .i64 1, .string ⟨#[]⟩, .string ⟨#[98]⟩, .slice none 0 0] 31)) := (Below.refl _ _).alloc (Nat.le_refl _) _
  have hi9 : Arr (w8.alloc (.cells #[.int .i64 1, .string ⟨#[]⟩, .string ⟨#[97]⟩, .slice none 0 0, .int .i64 1, .string ⟨#[]⟩, .string ⟨#[98]⟩, .slice none 0 0] 31)) 31 w8.heap.size [.int .i64 1, .string ⟨#[]⟩, .string ⟨#[97]⟩, .slice none 0 0, .int .i64 1, .string ⟨#[]⟩, .string ⟨#[98]⟩, .slice none 0 0] := Arr.new' w8 _ _ _ rfl
  have HC := rcompare_any (sizeE uAB) uAB uAB _ _ _ (fun b => b = w8.heap.size) (w8.alloc (.cells #[.int .i64 1, .string ⟨#[]⟩, .string ⟨#[97]⟩, .slice none 0 0, .int .i64 1, .string ⟨#[]⟩, .string ⟨#[98]⟩, .slice none 0 0] 31)) (Nat.le_refl _) uAB_size uAB_size uAB_ok uAB_ok (R3.out _ (HX8.out.trans (hb9.mono HX8.out.size))) (rdUAB hi9 rfl) (fun b hb => Nat.lt_of_lt_of_le hb (HX8.out.trans (hb9.mono HX8.out.size)).size) (fun b hb => by rw [hb]; simp)
  rw [cmpE_self] at HC
  replace HC := Lib.hid HC
  have HXa := Lib.hid (HX8.out.trans (hb9.mono HX8.out.size))
  have HFa := Lib.hid (HF8.out.later hb9)
  have HAa := Lib.hid (HA8.out.later hb9)
  have HSa := Lib.hid (HS8.out.later hb9)
  have HDa := Lib.hid (HD8.out.later hb9)
  have HWa := Lib.hid (HW8.out.trans (hb9.mono HW8.out.size))
  clear hb9 hi9 HX8 HR8 HF8 HA8 HB8 HW8 HS8 HD8 R3
  go_wp2_with fail
  refine HC.out.mono ?_
  rintro e w9 ⟨rfl, c9⟩
  have HF9 := Lib.hid (HFa.out.later c9)
  have HA9 := Lib.hid (HAa.out.later c9)
  have HS9 := Lib.hid (HSa.out.later c9)
  have HD9 := Lib.hid (HDa.out.later c9)
  have HW9 := Lib.hid (HWa.out.trans (c9.mono HWa.out.size))
  clear c9 HXa HFa HAa HSa HDa HWa HC s0 a0 a1 a2 a3 b0 b1 b2 b3 r0 r1 r2 r3
  have HC := rcompare_any (sizeE lA) lA lA _ _ (fun _ => False) (fun _ => False) w9 (Nat.le_refl _) lA_size lA_size lA_ok lA_ok (rdA _ _ q5 d5) (rdA _ _ none 0) (fun b hb => hb.elim) (fun b hb => hb.elim)
  rw [cmpE_self] at HC
  replace HC := Lib.hid HC
  have HRF := Lib.hid HF9.out.range
  have HRA := Lib.hid HA9.out.range
  go_wp2_with (first
    | ((with_reducible refine loadEG (x := .tmp 4) (o := ⟨some 38, _, _, _, _, _⟩) HRF.out ?_ ?_); exact ⟨rfl, rfl, by rfl⟩)
    | ((with_reducible refine loadEG (x := .tmp 1) (o := ⟨some 39, _, _, _, _, _⟩) HRA.out ?_ ?_); exact ⟨rfl, rfl, by rfl⟩))
  refine HC.out.mono ?_
  rintro e w10 ⟨rfl, c10⟩
  have HS10 := Lib.hid (HS9.out.later c10)
  have HD10 := Lib.hid (HD9.out.later c10)
  have HW10 := Lib.hid (HW9.out.trans (c10.mono HW9.out.size))
  clear c10 HF9 HA9 HS9 HD9 HW9 HC HRF HRA
  have s0 := HS10.out.cell 0
  have k0 := HD10.out.2.1.1
  simp only [List.getElem?_cons_zero] at s0
  have HC := Lib.hid (is2 (c := c) HD10.out ord_ba)
  have HRS := Lib.hid HS10.out.range
  go_wp2_with ((with_reducible refine loadSG (x := .tmp 5) (o := ⟨some 52, _, _, _, _, _⟩) HRS.out ?_ ?_); exact ⟨rfl, rfl, by rfl⟩)
  refine HC.out.mono ?_
  rintro e w11 ⟨rfl, c11⟩
  have HW11 := Lib.hid (HW10.out.trans (c11.mono HW10.out.size))
  clear c11 HS10 HD10 HW10 HC HRS s0 k0
  have hb12 : Below w11.heap.size w11 (w11.alloc (.cells #[.string ⟨#[98]⟩, .string ⟨#[]⟩, .string ⟨#[98]⟩, .string ⟨#[]⟩] 27)) := (Below.refl _ _).alloc (Nat.le_refl _) _
  have hi12 : (w11.alloc (.cells #[.string ⟨#[98]⟩, .string ⟨#[]⟩, .string ⟨#[98]⟩, .string ⟨#[]⟩] 27)).rangeAt w11.heap.size 0 ([(⟨#[98]⟩, ⟨#[]⟩), ((⟨#[98]⟩, ⟨#[]⟩) : Yl)].flatMap yenc) := (Arr.new' w11 27 #[.string ⟨#[98]⟩, .string ⟨#[]⟩, .string ⟨#[98]⟩, .string ⟨#[]⟩] [.string ⟨#[98]⟩, .string ⟨#[]⟩, .string ⟨#[98]⟩, .string ⟨#[]⟩] rfl).range
  have HC := ctypes_any (c := 2) hi12 (by simp) (by decide)
  rw [bb_one] at HC
  replace HC := Lib.hid HC
  have HWa := Lib.hid (HW11.out.trans (hb12.mono HW11.out.size))
  clear hb12 hi12 HW11
  go_wp2_with fail
  refine HC.out.mono ?_
  rintro e w12 ⟨g2, c2, rfl, _, _, _, c12, _⟩
  have HW12 := Lib.hid (HWa.out.trans (c12.mono HWa.out.size))
  clear c12 HWa HC
  go_wp2_with fail
  go_ret
  exact ⟨rfl, HW12.out⟩
end Go.Proofs.Ytdnmgemjhpkekaa
/-
  A slice of structs among the arguments, opened, for any kind of element.
-/
namespace Go.Proofs.Ytdnmgemjhpkekaa
open Go.ChangeShapes Go.WideShapes Go.ChangeAt Go.RowKit Go.Deep
set_option linter.unusedVariables false
set_option linter.unusedSectionVars false
set_option linter.unusedSimpArgs false

theorem flat_lenK {α : Type} {c : α → List Value} {k : Nat} (hc : ∀ t, (c t).length = k) : ∀ (l : List α), (l.flatMap c).length = l.length * k
  | [] => by simp
  | x :: l => by rw [List.flatMap_cons, List.length_append, flat_lenK hc l, List.length_cons, hc x, Nat.succ_mul]; omega
theorem flat_getK {α : Type} {c : α → List Value} {k : Nat} (hc : ∀ t, (c t).length = k) (hk : 0 < k) : ∀ (l : List α) (t : Nat), (l.flatMap c)[t]? = (l[t / k]?).bind fun x => (c x)[t % k]?
  | [], t => by simp
  | x :: l, t => by
    rw [List.flatMap_cons]
    by_cases h : t < k
    · rw [List.getElem?_append_left (by rw [hc]; exact h), Nat.div_eq_of_lt h, Nat.mod_eq_of_lt h]; rfl
    · have h2 : k ≤ t := Nat.le_of_not_lt h
      rw [List.getElem?_append_right (by rw [hc]; exact h2), hc, flat_getK hc hk l (t - k), Nat.div_eq_sub_div hk h2, Nat.mod_eq_sub_mod h2]; rfl
/-- The value v is a slice whose elements l lie as their cells c say; an empty one may point anywhere. -/
def RdS {α : Type} (c : α → List Value) (w : World) (v : Value) (l : List α) : Prop :=
  (v = .slice none 0 0 ∧ l = []) ∨ ∃ (a : Addr) (cap : Nat), v = .slice (some a) l.length cap ∧ l.length ≤ cap ∧ (0 < l.length → ∃ b off, a = ⟨b, off, none⟩ ∧ b < w.heap.size ∧ w.rangeAt b off (l.flatMap c))
theorem RdS.below {α : Type} {c : α → List Value} {w w' : World} {v : Value} {l : List α} (h : RdS c w v l) (hb : Below w.heap.size w w') : RdS c w' v l := by
  rcases h with h | ⟨a, cap, h1, h2, h3⟩
  · exact .inl h
  · refine .inr ⟨a, cap, h1, h2, fun h0 => ?_⟩
    obtain ⟨b, off, e, hlt, hr⟩ := h3 h0
    refine ⟨b, off, e, Nat.lt_of_lt_of_le hlt hb.size, fun j u hu => ?_⟩
    have := hr j u hu
    unfold World.cell? at this ⊢
    rw [hb.block b hlt]
    exact this
theorem flat_rowK {α : Type} {c : α → List Value} {k : Nat} (hc : ∀ t, (c t).length = k) (hk : 0 < k) {w : World} {b off : Nat} {l : List α} (h : w.rangeAt b off (l.flatMap c)) {i : Nat} (hi : i < l.length) : w.rangeAt b (off + i * k) (c l[i]) := fun j v hv => by
  have hj : j < k := by rw [← hc l[i]]; exact (List.getElem?_eq_some_iff.1 hv).1
  have h1 : (i * k + j) / k = i := by rw [Nat.mul_comm, Nat.mul_add_div hk, Nat.div_eq_of_lt hj, Nat.add_zero]
  have h2 : (i * k + j) % k = j := by rw [Nat.mul_comm, Nat.mul_add_mod, Nat.mod_eq_of_lt hj]
  have := h (i * k + j) v (by rw [flat_getK hc hk, h1, h2, List.getElem?_eq_getElem hi]; exact hv)
  rwa [← Nat.add_assoc] at this
/-- What a walk needs of a slice that is read: where its elements lie. -/
theorem RdS.form {α : Type} {c : α → List Value} {k : Nat} (hc : ∀ t, (c t).length = k) (hk : 0 < k) {w : World} {v : Value} {l : List α} (h : RdS c w v l) :
    ∃ p cap, v = .slice p l.length cap ∧ ∀ i, (hi : i < l.length) → ∃ b off, p = some ⟨b, off, none⟩ ∧ b < w.heap.size ∧ w.rangeAt b (off + i * k) (c l[i]) := by
  rcases h with ⟨h1, h2⟩ | ⟨a, cap, h1, h2, h3⟩
  · subst h1 h2
    exact ⟨none, 0, rfl, fun i hi => absurd hi (by simp)⟩
  · refine ⟨some a, cap, h1, fun i hi => ?_⟩
    obtain ⟨b, off, e, hlt, hr⟩ := h3 (by omega)
    exact ⟨b, off, by rw [e], hlt, flat_rowK hc hk hr hi⟩
section
variable {H : Type} {enc : TypeId × Value → H}
theorem wAll_mem {P : Program} {e : TypeId} : ∀ {l : List (DataW H)} {d : DataW H}, d ∈ l → ∀ n ∈ d.weights P e, n ∈ DataW.weightsAll P e l
  | [], _, h, _, _ => by cases h
  | d0 :: l, d, h, n, hn => by
    simp only [DataW.weightsAll, List.mem_append]
    rcases List.mem_cons.1 h with rfl | h
    · exact .inl hn
    · exact .inr (wAll_mem h n hn)
theorem sl_open {α : Type} (inh : α) {T E : TypeId} {k : Nat} (c : α → List Value) (hc : ∀ t, (c t).length = k) (hk : 0 < k) (R Sz : α → Prop) {w : World} (hT : Try.prog.underlying T = some (.slice E)) (hC : Try.prog.cellsOf E = k) (hB : 1 ≤ Try.prog.bytesOf E)
    (hE : ∀ (fuel : Nat) (cs : List Value) (d : DataW H) (p : List MemPlace), cs.length = k → DataW.trod enc Try.prog w 0 (fun _ => true) true fuel E cs = some (d, p) → ∃ t, cs = c t ∧ R t ∧ ((∀ n ∈ d.weights Try.prog E, n ≤ reachBytes) → Sz t))
    {v : Value} {d : DataW H} {p : List MemPlace} {fuel : Nat} (hf : DataW.trod enc Try.prog w 0 (fun _ => true) true fuel T [v] = some (d, p)) :
    ∃ l : List α, RdS c w v l ∧ (∀ t ∈ l, R t) ∧ ((∀ n ∈ d.weights Try.prog T, n ≤ reachBytes) → l.length ≤ 140737488355328 ∧ ∀ t ∈ l, Sz t) := by
  rcases open_slice hT hf with ⟨hcs, hx⟩ | ⟨a, len, cap, m, n, D, Pl, hcs, _, hlc, hcm, hm, hx, hi⟩
  · obtain rfl : v = .slice none 0 0 := by simpa using hcs
    exact ⟨[], .inl ⟨rfl, rfl⟩, fun t ht => absurd ht List.not_mem_nil, fun _ => ⟨by simp, fun t ht => absurd ht List.not_mem_nil⟩⟩
  · obtain rfl : v = .slice (some a) len cap := by simpa using hcs
    simp only [if_true] at hm
    subst hm
    have key : ∀ i, ∃ t : α, i < len → w.cells? 0 (a.add (i * k)) k = some (c t) ∧ R t ∧ ((∀ n ∈ (D i).weights Try.prog E, n ≤ reachBytes) → Sz t) := by
      intro i
      by_cases hil : i < len
      · obtain ⟨cs', h1, h2⟩ := hi i (by omega)
        rw [hC] at h1
        obtain ⟨t, rfl, hr, hs⟩ := hE _ _ _ _ (World.cells?_some h1).2.1 h2
        exact ⟨t, fun _ => ⟨h1, hr, hs⟩⟩
      · exact ⟨inh, fun h => absurd h hil⟩
    obtain ⟨f, hf2⟩ := Classical.axiomOfChoice key
    have hlen : ((List.range len).map f).length = len := by simp
    refine ⟨(List.range len).map f, .inr ⟨a, m, by rw [hlen], by rw [hlen]; omega, fun h0 => ?_⟩, fun t ht => ?_, fun hw => ⟨?_, fun t ht => ?_⟩⟩
    · rw [hlen] at h0
      obtain ⟨b, off, spot⟩ := a
      have hat0 := (World.cells?_some (hf2 0 h0).1).2.2 0 hk
      have hc0 : w.cell? (Addr.add ⟨b, off, spot⟩ 0) = (c (f 0))[0]? := by
        rw [← hat0, Go.Deep.add_add, Nat.zero_mul]
      rw [List.getElem?_eq_getElem (by rw [hc]; exact hk)] at hc0
      have hspot : spot = none := by simpa [Addr.add] using World.cell?_spot hc0
      subst hspot
      have hb := World.block_lt_of_cell? w _ hc0
      refine ⟨b, off, rfl, by simpa [Addr.add] using hb, fun j u hu => ?_⟩
      rw [flat_getK hc hk] at hu
      obtain ⟨x, hx1, hx2⟩ := Option.bind_eq_some_iff.1 hu
      have hlt : j / k < len := by rw [← hlen]; exact (List.getElem?_eq_some_iff.1 hx1).1
      rw [List.getElem?_map, List.getElem?_range hlt] at hx1
      obtain rfl : f (j / k) = x := by simpa using hx1
      have hat := (World.cells?_some (hf2 _ hlt).1).2.2 (j % k) (Nat.mod_lt _ hk)
      rw [hx2] at hat
      have hj : j / k * k + j % k = j := by rw [Nat.mul_comm]; exact Nat.div_add_mod j k
      rw [← hat, Go.Deep.add_add, hj, show (Addr.add ⟨b, off, none⟩ j) = ⟨b, off + j, none⟩ by cases j <;> simp [Addr.add]]
    · obtain ⟨i, hi1, rfl⟩ := List.mem_map.1 ht
      exact (hf2 i (List.mem_range.1 hi1)).2.1
    · obtain ⟨rfl, _⟩ := Prod.mk.inj hx
      have h1 := hw (((List.range len).map D).length + ((List.range (m - len)).map fun j => D (len + j)).length |>.mul (Try.prog.bytesOf E)) (by
        unfold DataW.weights
        rw [hT]
        exact List.mem_cons_self)
      have h2 := reachBytes_lt
      have h3 : ((List.range len).map D).length + ((List.range (m - len)).map fun j => D (len + j)).length ≤ (((List.range len).map D).length + ((List.range (m - len)).map fun j => D (len + j)).length) * Try.prog.bytesOf E := Nat.le_mul_of_pos_right _ hB
      have h4 : (((List.range len).map D).length + ((List.range (m - len)).map fun j => D (len + j)).length) * Try.prog.bytesOf E ≤ reachBytes := h1
      rw [hlen]
      simp only [List.length_map, List.length_range] at h3 h4
      omega
    · obtain ⟨i, hi1, rfl⟩ := List.mem_map.1 ht
      obtain ⟨rfl, _⟩ := Prod.mk.inj hx
      refine (hf2 i (List.mem_range.1 hi1)).2.2 fun n hn => hw n ?_
      unfold DataW.weights
      rw [hT]
      simp only [List.mem_cons, List.mem_append]
      exact .inr (.inl (wAll_mem (d := D i) (List.mem_map.2 ⟨i, hi1, rfl⟩) n hn))
end
end Go.Proofs.Ytdnmgemjhpkekaa
