/-
  slices.Clone, cloneMembers, Clone on the law's schema.
-/
import Derived.Test.YtijokgddfcfcbaaDoorScD
import Derived.Test.YtijokgddfcfcbaaDoorExF
import Derived.Laws.OwnMore
namespace Go.Proofs.YtijokgddfcfcbaaDoor
open Go.ChangeShapes Go.WideShapes Go.ChangeAt Go.RowKit
set_option linter.unusedVariables false

theorem Cl.take {w : World} {t : TypeId} {g : Nat} {cs rest : List Value} (h : Arr w t g (cs ++ rest)) : Cl w g cs := ⟨h.lt, fun i hi => by rw [h.cell i, List.getElem?_append_left hi]⟩
theorem Tryd.infoAc : (Tryd.prog.info? 29).map (fun i => (i.zero, i.size, i.bytes)) = some (some (.agg #[.string ByteArray.empty, .string ByteArray.empty]), 2, 32) := by kernel_rfl
theorem eqSlA (a : Addr) (n c : Nat) (w : World) : (binOp BinOp.eql 22 (.slice (some a) n c) (.slice none 0 0)).run Tryd.prog w = .ok (.bool false) w := by kernel_rfl
theorem app1A {ops : Array Oper} {rest : List Oper} {o : Oper} {a : Act} {Q : Exit → Act → World → Prop} {W : World} {g c : Nat} (hgd : o.guard = none) (s x : Operand) (ho : o.op = .call { callee := .builtin .append, args := #[s, x], argTypes := #[22, 22] })
    (hs : a.eval s = .slice (some ⟨W.heap.size, 0, none⟩) 0 0) (hx : a.eval x = .slice (some ⟨g, 0, none⟩) 1 c) (hc : Cl (W.alloc (.cells #[] 29)) g [.string ⟨#[117, 115, 101, 114]⟩, .string ⟨#[]⟩])
    (h : ∀ g' c' rst w', W.heap.size ≤ g' → Arr w' 29 g' (.string ⟨#[117, 115, 101, 114]⟩ :: .string ⟨#[]⟩ :: rst) → Below W.heap.size W w' → wpList Tryd.prog ops Q rest (a.put o.dst (.slice (some ⟨g', 0, none⟩) 1 c')) w') : wpList Tryd.prog ops Q (o :: rest) a (W.alloc (.cells #[] 29)) := by
  obtain ⟨i0, hi, hz0, hz1, hz2⟩ := info_parts Tryd.infoAc
  have hown : (W.alloc (.cells #[] 29)).ownsRow W.heap.size 29 2 (.slice (some ⟨W.heap.size, 0, none⟩) 0 0) 0 [] := World.ownsRow_lit W #[] 0 (Nat.le_refl _) (Nat.zero_le _) rfl
  have hb0 : Below W.heap.size W (W.alloc (.cells #[] 29)) := (Below.refl _ _).alloc (Nat.le_refl _) _
  refine wpList_append_own_at _ hgd s x 22 ho W.heap.size 29 i0 _ 2 32 Tryd.underlying22 hi hz0 hz1 hz2 rfl (by decide) _ 0 [] hs hown ⟨g, 0, none⟩ 1 c [.string ⟨#[117, 115, 101, 114]⟩, .string ⟨#[]⟩] hx rfl ?_ ?_ (by unfold maxLen; omega) (by omega) hb0.size ?_
  · intro j u hu
    have hj : j < ([.string ⟨#[117, 115, 101, 114]⟩, .string ⟨#[]⟩] : List Value).length := (List.getElem?_eq_some_iff.1 hu).1
    have := hc.2 j hj
    rw [hu] at this
    cases j <;> simpa [Addr.add] using this
  · intro u hu
    simp only [List.mem_cons, List.not_mem_nil, or_false] at hu
    rcases hu with rfl | rfl <;> rfl
  · intro v' w' r1 r2 r3 r4
    have hb := hb0.trans ((Below.refl W.heap.size _).grown r2 hb0.size fun k hk => by obtain rfl := Option.some.inj hk; exact Nat.le_refl _)
    rcases r1.2 with ⟨hv, hn⟩ | ⟨g', cap, cur, hv, h0, hg, hcap, _, hcz, htk⟩
    · omega
    · subst hv
      refine h g' cap (cur.toList.drop 2) w' h0 ?_ hb
      unfold Arr
      rw [hg, show (.string ⟨#[117, 115, 101, 114]⟩ :: .string ⟨#[]⟩ :: List.drop 2 cur.toList) = cur.toList from by
        conv => rhs; rw [← List.take_append_drop 2 cur.toList]
        rw [show List.take 2 cur.toList = [.string ⟨#[117, 115, 101, 114]⟩, .string ⟨#[]⟩] from htk]; rfl]
set_option maxRecDepth 100000 in
set_option maxHeartbeats 2000000 in
theorem cloneA {W : World} {g c : Nat} (hg : Cl W g [.string ⟨#[117, 115, 101, 114]⟩, .string ⟨#[]⟩]) : Calls Tryd.prog 38 #[.slice (some ⟨g, 0, none⟩) 1 c] W fun r w' => ∃ g' c' rst, r = .returned (.slice (some ⟨g', 0, none⟩) 1 c') ∧ W.heap.size ≤ g' ∧ Arr w' 29 g' (.string ⟨#[117, 115, 101, 114]⟩ :: .string ⟨#[]⟩ :: rst) ∧ Below W.heap.size W w' := by
  have HC := Lib.hid (hg.alloc (.cells #[] 29))
  have hq := eqSlA
  clear hg
  go_enter Tryd.func38, Tryd.ntmps38
  go_wp2_with (at_builtin; refine app1A rfl _ _ rfl rfl rfl HC.out ?_)
  intro g1 c1 rst w1 h1 a1 b1
  have HF := Lib.hid (And.intro h1 (And.intro a1 b1))
  clear h1 a1 b1 HC
  go_wp2_with fail
  go_ret
  exact ⟨_, _, _, rfl, HF.out.1, HF.out.2.1, HF.out.2.2⟩
theorem Tryd.infoMc : (Tryd.prog.info? 27).map (fun i => (i.zero, i.size, i.bytes)) = some (some (.agg #[.string ByteArray.empty, .int .i64 0, .slice none 0 0, .int .i64 0, .string ByteArray.empty, .string ByteArray.empty, .slice none 0 0]), 7, 112) := by kernel_rfl
theorem eqSlM (a : Addr) (n c : Nat) (w : World) : (binOp BinOp.eql 32 (.slice (some a) n c) (.slice none 0 0)).run Tryd.prog w = .ok (.bool false) w := by kernel_rfl
theorem app1M {ops : Array Oper} {rest : List Oper} {o : Oper} {a : Act} {Q : Exit → Act → World → Prop} {W : World} {g c : Nat} {p pc : Nat} (hgd : o.guard = none) (s x : Operand) (ho : o.op = .call { callee := .builtin .append, args := #[s, x], argTypes := #[32, 32] })
    (hs : a.eval s = .slice (some ⟨W.heap.size, 0, none⟩) 0 0) (hx : a.eval x = .slice (some ⟨g, 0, none⟩) 1 c) (hc : Cl (W.alloc (.cells #[] 27)) g [.string ⟨#[97]⟩, .int .i64 1, .slice (some ⟨p, 0, none⟩) 1 pc, .int .i64 0, .string ⟨#[]⟩, .string ⟨#[]⟩, .slice none 0 0])
    (h : ∀ g' c' rst w', W.heap.size ≤ g' → Arr w' 27 g' (.string ⟨#[97]⟩ :: .int .i64 1 :: .slice (some ⟨p, 0, none⟩) 1 pc :: .int .i64 0 :: .string ⟨#[]⟩ :: .string ⟨#[]⟩ :: .slice none 0 0 :: rst) → Below W.heap.size W w' → wpList Tryd.prog ops Q rest (a.put o.dst (.slice (some ⟨g', 0, none⟩) 1 c')) w') : wpList Tryd.prog ops Q (o :: rest) a (W.alloc (.cells #[] 27)) := by
  obtain ⟨i0, hi, hz0, hz1, hz2⟩ := info_parts Tryd.infoMc
  have hown : (W.alloc (.cells #[] 27)).ownsRow W.heap.size 27 7 (.slice (some ⟨W.heap.size, 0, none⟩) 0 0) 0 [] := World.ownsRow_lit W #[] 0 (Nat.le_refl _) (Nat.zero_le _) rfl
  have hb0 : Below W.heap.size W (W.alloc (.cells #[] 27)) := (Below.refl _ _).alloc (Nat.le_refl _) _
  refine wpList_append_own_at _ hgd s x 32 ho W.heap.size 27 i0 _ 7 112 Tryd.underlying32 hi hz0 hz1 hz2 rfl (by decide) _ 0 [] hs hown ⟨g, 0, none⟩ 1 c [.string ⟨#[97]⟩, .int .i64 1, .slice (some ⟨p, 0, none⟩) 1 pc, .int .i64 0, .string ⟨#[]⟩, .string ⟨#[]⟩, .slice none 0 0] hx rfl ?_ ?_ (by unfold maxLen; omega) (by omega) hb0.size ?_
  · intro j u hu
    have hj : j < ([.string ⟨#[97]⟩, .int .i64 1, .slice (some ⟨p, 0, none⟩) 1 pc, .int .i64 0, .string ⟨#[]⟩, .string ⟨#[]⟩, .slice none 0 0] : List Value).length := (List.getElem?_eq_some_iff.1 hu).1
    have := hc.2 j hj
    rw [hu] at this
    cases j <;> simpa [Addr.add] using this
  · intro u hu
    simp only [List.mem_cons, List.not_mem_nil, or_false] at hu
    rcases hu with rfl | rfl | rfl | rfl | rfl | rfl | rfl <;> rfl
  · intro v' w' r1 r2 r3 r4
    have hb := hb0.trans ((Below.refl W.heap.size _).grown r2 hb0.size fun k hk => by obtain rfl := Option.some.inj hk; exact Nat.le_refl _)
    rcases r1.2 with ⟨hv, hn⟩ | ⟨g', cap, cur, hv, h0, hg, hcap, _, hcz, htk⟩
    · omega
    · subst hv
      refine h g' cap (cur.toList.drop 7) w' h0 ?_ hb
      unfold Arr
      rw [hg, show (.string ⟨#[97]⟩ :: .int .i64 1 :: .slice (some ⟨p, 0, none⟩) 1 pc :: .int .i64 0 :: .string ⟨#[]⟩ :: .string ⟨#[]⟩ :: .slice none 0 0 :: List.drop 7 cur.toList) = cur.toList from by
        conv => rhs; rw [← List.take_append_drop 7 cur.toList]
        rw [show List.take 7 cur.toList = [.string ⟨#[97]⟩, .int .i64 1, .slice (some ⟨p, 0, none⟩) 1 pc, .int .i64 0, .string ⟨#[]⟩, .string ⟨#[]⟩, .slice none 0 0] from htk]; rfl]
set_option maxRecDepth 100000 in
set_option maxHeartbeats 2000000 in
theorem cloneM {W : World} {g c : Nat} {p pc : Nat} (hg : Cl W g [.string ⟨#[97]⟩, .int .i64 1, .slice (some ⟨p, 0, none⟩) 1 pc, .int .i64 0, .string ⟨#[]⟩, .string ⟨#[]⟩, .slice none 0 0]) : Calls Tryd.prog 37 #[.slice (some ⟨g, 0, none⟩) 1 c] W fun r w' => ∃ g' c' rst, r = .returned (.slice (some ⟨g', 0, none⟩) 1 c') ∧ W.heap.size ≤ g' ∧ Arr w' 27 g' (.string ⟨#[97]⟩ :: .int .i64 1 :: .slice (some ⟨p, 0, none⟩) 1 pc :: .int .i64 0 :: .string ⟨#[]⟩ :: .string ⟨#[]⟩ :: .slice none 0 0 :: rst) ∧ Below W.heap.size W w' := by
  have HC := Lib.hid (hg.alloc (.cells #[] 27))
  have hq := eqSlM
  clear hg
  go_enter Tryd.func37, Tryd.ntmps37
  go_wp2_with (at_builtin; refine app1M rfl _ _ rfl rfl rfl HC.out ?_)
  intro g1 c1 rst w1 h1 a1 b1
  have HF := Lib.hid (And.intro h1 (And.intro a1 b1))
  clear h1 a1 b1 HC
  go_wp2_with fail
  go_ret
  exact ⟨_, _, _, rfl, HF.out.1, HF.out.2.1, HF.out.2.2⟩
theorem Tryd.infoDc : (Tryd.prog.info? 34).map (fun i => (i.zero, i.size, i.bytes)) = some (some (.agg #[.string ByteArray.empty, .slice none 0 0]), 2, 40) := by kernel_rfl
theorem eqSlD (a : Addr) (n c : Nat) (w : World) : (binOp BinOp.eql 35 (.slice (some a) n c) (.slice none 0 0)).run Tryd.prog w = .ok (.bool false) w := by kernel_rfl
theorem app1D {ops : Array Oper} {rest : List Oper} {o : Oper} {a : Act} {Q : Exit → Act → World → Prop} {W : World} {g c : Nat} {m mc : Nat} (hgd : o.guard = none) (s x : Operand) (ho : o.op = .call { callee := .builtin .append, args := #[s, x], argTypes := #[35, 35] })
    (hs : a.eval s = .slice (some ⟨W.heap.size, 0, none⟩) 0 0) (hx : a.eval x = .slice (some ⟨g, 0, none⟩) 1 c) (hc : Cl (W.alloc (.cells #[] 34)) g [.string ⟨#[100]⟩, .slice (some ⟨m, 0, none⟩) 1 mc])
    (h : ∀ g' c' rst w', W.heap.size ≤ g' → Arr w' 34 g' (.string ⟨#[100]⟩ :: .slice (some ⟨m, 0, none⟩) 1 mc :: rst) → Below W.heap.size W w' → wpList Tryd.prog ops Q rest (a.put o.dst (.slice (some ⟨g', 0, none⟩) 1 c')) w') : wpList Tryd.prog ops Q (o :: rest) a (W.alloc (.cells #[] 34)) := by
  obtain ⟨i0, hi, hz0, hz1, hz2⟩ := info_parts Tryd.infoDc
  have hown : (W.alloc (.cells #[] 34)).ownsRow W.heap.size 34 2 (.slice (some ⟨W.heap.size, 0, none⟩) 0 0) 0 [] := World.ownsRow_lit W #[] 0 (Nat.le_refl _) (Nat.zero_le _) rfl
  have hb0 : Below W.heap.size W (W.alloc (.cells #[] 34)) := (Below.refl _ _).alloc (Nat.le_refl _) _
  refine wpList_append_own_at _ hgd s x 35 ho W.heap.size 34 i0 _ 2 40 Tryd.underlying35 hi hz0 hz1 hz2 rfl (by decide) _ 0 [] hs hown ⟨g, 0, none⟩ 1 c [.string ⟨#[100]⟩, .slice (some ⟨m, 0, none⟩) 1 mc] hx rfl ?_ ?_ (by unfold maxLen; omega) (by omega) hb0.size ?_
  · intro j u hu
    have hj : j < ([.string ⟨#[100]⟩, .slice (some ⟨m, 0, none⟩) 1 mc] : List Value).length := (List.getElem?_eq_some_iff.1 hu).1
    have := hc.2 j hj
    rw [hu] at this
    cases j <;> simpa [Addr.add] using this
  · intro u hu
    simp only [List.mem_cons, List.not_mem_nil, or_false] at hu
    rcases hu with rfl | rfl <;> rfl
  · intro v' w' r1 r2 r3 r4
    have hb := hb0.trans ((Below.refl W.heap.size _).grown r2 hb0.size fun k hk => by obtain rfl := Option.some.inj hk; exact Nat.le_refl _)
    rcases r1.2 with ⟨hv, hn⟩ | ⟨g', cap, cur, hv, h0, hg, hcap, _, hcz, htk⟩
    · omega
    · subst hv
      refine h g' cap (cur.toList.drop 2) w' h0 ?_ hb
      unfold Arr
      rw [hg, show (.string ⟨#[100]⟩ :: .slice (some ⟨m, 0, none⟩) 1 mc :: List.drop 2 cur.toList) = cur.toList from by
        conv => rhs; rw [← List.take_append_drop 2 cur.toList]
        rw [show List.take 2 cur.toList = [.string ⟨#[100]⟩, .slice (some ⟨m, 0, none⟩) 1 mc] from htk]; rfl]
set_option maxRecDepth 100000 in
set_option maxHeartbeats 2000000 in
theorem cloneD {W : World} {g c : Nat} {m mc : Nat} (hg : Cl W g [.string ⟨#[100]⟩, .slice (some ⟨m, 0, none⟩) 1 mc]) : Calls Tryd.prog 23 #[.slice (some ⟨g, 0, none⟩) 1 c] W fun r w' => ∃ g' c' rst, r = .returned (.slice (some ⟨g', 0, none⟩) 1 c') ∧ W.heap.size ≤ g' ∧ Arr w' 34 g' (.string ⟨#[100]⟩ :: .slice (some ⟨m, 0, none⟩) 1 mc :: rst) ∧ Below W.heap.size W w' := by
  have HC := Lib.hid (hg.alloc (.cells #[] 34))
  have hq := eqSlD
  clear hg
  go_enter Tryd.func23, Tryd.ntmps23
  go_wp2_with (at_builtin; refine app1D rfl _ _ rfl rfl rfl HC.out ?_)
  intro g1 c1 rst w1 h1 a1 b1
  have HF := Lib.hid (And.intro h1 (And.intro a1 b1))
  clear h1 a1 b1 HC
  go_wp2_with fail
  go_ret
  exact ⟨_, _, _, rfl, HF.out.1, HF.out.2.1, HF.out.2.2⟩
def CMPost (W : World) (r : Ending) (w' : World) : Prop := ∃ (g1 c1 g2 c2 : Nat) (q : Option Addr) (c : Nat), r = .returned (.slice (some ⟨g1, 0, none⟩) 1 c1) ∧ W.heap.size ≤ g1 ∧ W.heap.size ≤ g2 ∧ Cl w' g1 [.string ⟨#[97]⟩, .int .i64 1, .slice (some ⟨g2, 0, none⟩) 1 c2, .int .i64 0, .string ⟨#[]⟩, .string ⟨#[]⟩, .slice q 0 c] ∧ Cl w' g2 [.string ⟨#[117, 115, 101, 114]⟩, .string ⟨#[]⟩] ∧ Below W.heap.size W w'
theorem exClone0 (W : World) : Calls Tryd.prog 39 #[.agg #[.int .i64 0, .string ⟨#[]⟩, .string ⟨#[]⟩, .slice none 0 0]] W fun r w' => ∃ q c, r = .returned (.agg #[.int .i64 0, .string ⟨#[]⟩, .string ⟨#[]⟩, .slice q 0 c]) ∧ Below W.heap.size W w' :=
  (clone_any _ ex0 _ (fun _ => False) W (Nat.le_refl _) (by decide) (rdZero _ _) (fun _ h => h.elim)).mono fun r w' ⟨v', h1, h2, h3⟩ => by
    obtain ⟨q, c, rfl, _⟩ := h2.form
    exact ⟨q, c, h1, h3⟩
set_option maxRecDepth 100000 in
set_option maxHeartbeats 2000000 in
theorem cloneMs {W : World} {m mc p pc : Nat} (hm : Cl W m [.string ⟨#[97]⟩, .int .i64 1, .slice (some ⟨p, 0, none⟩) 1 pc, .int .i64 0, .string ⟨#[]⟩, .string ⟨#[]⟩, .slice none 0 0]) (hp : Cl W p [.string ⟨#[117, 115, 101, 114]⟩, .string ⟨#[]⟩]) : Calls Tryd.prog 24 #[.slice (some ⟨m, 0, none⟩) 1 mc] W (CMPost W) := by
  have HI := Lib.hid (cloneM (c := mc) hm)
  have HP := Lib.hid hp
  clear hm hp
  go_enter Tryd.func24, Tryd.ntmps24
  go_wp2_with fail
  refine HI.out.mono ?_
  rintro r w1 ⟨g1, c1, rst, rfl, l1, a1, b1⟩
  have HB1 := Lib.hid b1
  have HL1 : Hid (W.heap.size ≤ g1) := l1
  have HA1 := Lib.hid a1
  have HBX : Hid (Arr (w1.alloc (.cells #[.string ⟨#[97]⟩, .int .i64 1, .slice (some ⟨p, 0, none⟩) 1 pc, .int .i64 0, .string ⟨#[]⟩, .string ⟨#[]⟩, .slice none 0 0] 27)) 27 w1.heap.size [.string ⟨#[97]⟩, .int .i64 1, .slice (some ⟨p, 0, none⟩) 1 pc, .int .i64 0, .string ⟨#[]⟩, .string ⟨#[]⟩, .slice none 0 0]) := Arr.new' _ _ _ _ rfl
  have HC := Lib.hid (cloneA (c := pc) ((HP.out.later b1).alloc (.cells #[.string ⟨#[97]⟩, .int .i64 1, .slice (some ⟨p, 0, none⟩) 1 pc, .int .i64 0, .string ⟨#[]⟩, .string ⟨#[]⟩, .slice none 0 0] 27)))
  have HB2 : Hid (Below W.heap.size W (w1.alloc (.cells #[.string ⟨#[97]⟩, .int .i64 1, .slice (some ⟨p, 0, none⟩) 1 pc, .int .i64 0, .string ⟨#[]⟩, .string ⟨#[]⟩, .slice none 0 0] 27))) := HB1.out.alloc b1.size _
  have HA2 : Hid (Arr (w1.alloc (.cells #[.string ⟨#[97]⟩, .int .i64 1, .slice (some ⟨p, 0, none⟩) 1 pc, .int .i64 0, .string ⟨#[]⟩, .string ⟨#[]⟩, .slice none 0 0] 27)) 27 g1 (.string ⟨#[97]⟩ :: .int .i64 1 :: .slice (some ⟨p, 0, none⟩) 1 pc :: .int .i64 0 :: .string ⟨#[]⟩ :: .string ⟨#[]⟩ :: .slice none 0 0 :: rst)) := a1.alloc _
  have HG1 : Hid (g1 < w1.heap.size) := a1.lt
  have e0 := HA1.out.cell 0
  have e1 := HA1.out.cell 1
  have e2 := HA1.out.cell 2
  have e3 := HA1.out.cell 3
  have e4 := HA1.out.cell 4
  have e5 := HA1.out.cell 5
  have e6 := HA1.out.cell 6
  have ef0 := HA1.out.free 0
  have ef1 := HA1.out.free 1
  have ef2 := HA1.out.free 2
  have ef3 := HA1.out.free 3
  have ef4 := HA1.out.free 4
  have ef5 := HA1.out.free 5
  have ef6 := HA1.out.free 6
  simp only [List.getElem?_cons_zero, List.getElem?_cons_succ] at e0 e1 e2 e3 e4 e5 e6
  clear l1 a1 b1 HP HI
  go_wp2_with fail
  refine wp_loop_rounds 2 ?_
  rw [rounds_succ]
  go_wp2_with fail
  refine HC.out.mono ?_
  rintro r w3 ⟨g2, c2, rst2, rfl, l2, aa2, b2⟩
  have hs1 : (w1.alloc (.cells #[.string ⟨#[97]⟩, .int .i64 1, .slice (some ⟨p, 0, none⟩) 1 pc, .int .i64 0, .string ⟨#[]⟩, .string ⟨#[]⟩, .slice none 0 0] 27)).heap.size = w1.heap.size + 1 := by simp
  have HG2 : Hid (w1.heap.size + 1 ≤ g2) := by rw [hs1] at l2; exact l2
  have HA3 : Hid (Arr w3 29 g2 (.string ⟨#[117, 115, 101, 114]⟩ :: .string ⟨#[]⟩ :: rst2)) := aa2
  have HM3 := Lib.hid (HA2.out.later b2)
  have HX3 := Lib.hid (HBX.out.later b2)
  have HB3 := Lib.hid (HB2.out.trans (b2.mono HB2.out.size))
  have HM4 : Hid (Arr (w3.setCell ⟨g1, 2, none⟩ (.slice (some ⟨g2, 0, none⟩) 1 c2)) 27 g1 (((.string ⟨#[97]⟩ :: .int .i64 1 :: .slice (some ⟨p, 0, none⟩) 1 pc :: .int .i64 0 :: .string ⟨#[]⟩ :: .string ⟨#[]⟩ :: .slice none 0 0 :: rst)).set 2 (.slice (some ⟨g2, 0, none⟩) 1 c2))) := HM3.out.set 2 _
  have HX4 : Hid (Arr (w3.setCell ⟨g1, 2, none⟩ (.slice (some ⟨g2, 0, none⟩) 1 c2)) 27 w1.heap.size [.string ⟨#[97]⟩, .int .i64 1, .slice (some ⟨p, 0, none⟩) 1 pc, .int .i64 0, .string ⟨#[]⟩, .string ⟨#[]⟩, .slice none 0 0]) := HX3.out.setCell (by have := HG1.out; simp only [ne_eq]; omega) _
  have HA4 : Hid (Arr (w3.setCell ⟨g1, 2, none⟩ (.slice (some ⟨g2, 0, none⟩) 1 c2)) 29 g2 (.string ⟨#[117, 115, 101, 114]⟩ :: .string ⟨#[]⟩ :: rst2)) := HA3.out.setCell (by have := HG1.out; have := HG2.out; simp only [ne_eq]; omega) _
  have HB4 : Hid (Below W.heap.size W (w3.setCell ⟨g1, 2, none⟩ (.slice (some ⟨g2, 0, none⟩) 1 c2))) := HB3.out.setCell (p := ⟨g1, 2, none⟩) HL1.out _
  have HE := Lib.hid (exClone0 (w3.setCell ⟨g1, 2, none⟩ (.slice (some ⟨g2, 0, none⟩) 1 c2)))
  clear e0 e1 e2 e3 e4 e5 e6 ef0 ef1 ef2 ef3 ef4 ef5 ef6 l2 b2 HC
  have m0 := HM3.out.cell 0
  have m1 := HM3.out.cell 1
  have m2 := HM3.out.cell 2
  have m3 := HM3.out.cell 3
  have m4 := HM3.out.cell 4
  have m5 := HM3.out.cell 5
  have m6 := HM3.out.cell 6
  have mf0 := HM3.out.free 0
  have mf1 := HM3.out.free 1
  have mf2 := HM3.out.free 2
  have mf3 := HM3.out.free 3
  have mf4 := HM3.out.free 4
  have mf5 := HM3.out.free 5
  have mf6 := HM3.out.free 6
  simp only [List.getElem?_cons_zero, List.getElem?_cons_succ] at m0 m1 m2 m3 m4 m5 m6
  have x0 := HX4.out.cell 0
  have x1 := HX4.out.cell 1
  have x2 := HX4.out.cell 2
  have x3 := HX4.out.cell 3
  have x4 := HX4.out.cell 4
  have x5 := HX4.out.cell 5
  have x6 := HX4.out.cell 6
  simp only [List.getElem?_cons_zero, List.getElem?_cons_succ] at x0 x1 x2 x3 x4 x5 x6
  go_wp2_with fail
  refine HE.out.mono ?_
  rintro r w5 ⟨q, c, rfl, b5⟩
  have HM5 := Lib.hid (HM4.out.later b5)
  have HA5 := Lib.hid (HA4.out.later b5)
  have HB5 := Lib.hid (HB4.out.trans (b5.mono HB4.out.size))
  clear m0 m1 m2 m3 m4 m5 m6 mf0 mf1 mf2 mf3 mf4 mf5 mf6 x0 x1 x2 x3 x4 x5 x6 b5 HE
  have hm5 := HM5.out
  simp only [List.set_cons_zero, List.set_cons_succ] at hm5
  have m0 := hm5.cell 0
  have m1 := hm5.cell 1
  have m2 := hm5.cell 2
  have m3 := hm5.cell 3
  have m4 := hm5.cell 4
  have m5 := hm5.cell 5
  have m6 := hm5.cell 6
  have mf0 := hm5.free 0
  have mf1 := hm5.free 1
  have mf2 := hm5.free 2
  have mf3 := hm5.free 3
  have mf4 := hm5.free 4
  have mf5 := hm5.free 5
  have mf6 := hm5.free 6
  simp only [List.getElem?_cons_zero, List.getElem?_cons_succ] at m0 m1 m2 m3 m4 m5 m6
  go_wp2_with fail
  have hA := ((((hm5.set 3 (.int .i64 0)).set 4 (.string ⟨#[]⟩)).set 5 (.string ⟨#[]⟩)).set 6 (.slice q 0 c))
  have hB := ((((HB5.out.setCell (p := ⟨g1, 3, none⟩) HL1.out (.int .i64 0)).setCell (p := ⟨g1, 4, none⟩) HL1.out (.string ⟨#[]⟩)).setCell (p := ⟨g1, 5, none⟩) HL1.out (.string ⟨#[]⟩)).setCell (p := ⟨g1, 6, none⟩) HL1.out (.slice q 0 c))
  have hL := ((((HA5.out.setCell (a := ⟨g1, 3, none⟩) (by have := HG1.out; have := HG2.out; simp only [ne_eq]; omega) (.int .i64 0)).setCell (a := ⟨g1, 4, none⟩) (by have := HG1.out; have := HG2.out; simp only [ne_eq]; omega) (.string ⟨#[]⟩)).setCell (a := ⟨g1, 5, none⟩) (by have := HG1.out; have := HG2.out; simp only [ne_eq]; omega) (.string ⟨#[]⟩)).setCell (a := ⟨g1, 6, none⟩) (by have := HG1.out; have := HG2.out; simp only [ne_eq]; omega) (.slice q 0 c))
  simp only [List.set_cons_zero, List.set_cons_succ] at hA
  have HF := Lib.hid (And.intro hA (And.intro hB hL))
  clear hA hB hL hm5 m0 m1 m2 m3 m4 m5 m6
  rw [rounds_succ]
  go_wp2_with fail
  go_ret
  exact ⟨g1, c1, g2, c2, q, c, rfl, HL1.out, by have := HG2.out; have := HG1.out; have := HL1.out; omega, Cl.take (cs := [.string ⟨#[97]⟩, .int .i64 1, .slice (some ⟨g2, 0, none⟩) 1 c2, .int .i64 0, .string ⟨#[]⟩, .string ⟨#[]⟩, .slice q 0 c]) HF.out.1, Cl.take (cs := [.string ⟨#[117, 115, 101, 114]⟩, .string ⟨#[]⟩]) HF.out.2.2, HF.out.2.1⟩
def CSPost (W : World) (r : Ending) (w' : World) : Prop := ∃ (g0 c0 g1 c1 g2 c2 : Nat) (q : Option Addr) (c : Nat), r = .returned (.agg #[.slice (some ⟨g0, 0, none⟩) 1 c0]) ∧ Cl w' g0 [.string ⟨#[100]⟩, .slice (some ⟨g1, 0, none⟩) 1 c1] ∧ Cl w' g1 [.string ⟨#[97]⟩, .int .i64 1, .slice (some ⟨g2, 0, none⟩) 1 c2, .int .i64 0, .string ⟨#[]⟩, .string ⟨#[]⟩, .slice q 0 c] ∧ Cl w' g2 [.string ⟨#[117, 115, 101, 114]⟩, .string ⟨#[]⟩] ∧ Below W.heap.size W w'
set_option maxRecDepth 100000 in
set_option maxHeartbeats 2000000 in
theorem cloneS {W : World} {d dc m mc p pc : Nat} (hd : Cl W d [.string ⟨#[100]⟩, .slice (some ⟨m, 0, none⟩) 1 mc]) (hm : Cl W m [.string ⟨#[97]⟩, .int .i64 1, .slice (some ⟨p, 0, none⟩) 1 pc, .int .i64 0, .string ⟨#[]⟩, .string ⟨#[]⟩, .slice none 0 0]) (hp : Cl W p [.string ⟨#[117, 115, 101, 114]⟩, .string ⟨#[]⟩]) : Calls Tryd.prog 11 #[.agg #[.slice (some ⟨d, 0, none⟩) 1 dc]] W (CSPost W) := by
  have HB0 : Hid (Below W.heap.size W ((W.alloc (.cells #[.slice (some ⟨d, 0, none⟩) 1 dc] 37)).alloc (.cells #[.slice none 0 0] 37))) := ((Below.refl _ _).alloc (Nat.le_refl _) _).alloc (by simp) _
  have HR0 : Hid (Arr ((W.alloc (.cells #[.slice (some ⟨d, 0, none⟩) 1 dc] 37)).alloc (.cells #[.slice none 0 0] 37)) 37 (W.heap.size + 1) [.slice none 0 0]) := Arr.new2 _ _ _ _ _ rfl
  have HI := Lib.hid (cloneD (c := dc) ((hd.alloc _).alloc _ : Cl ((W.alloc (.cells #[.slice (some ⟨d, 0, none⟩) 1 dc] 37)).alloc (.cells #[.slice none 0 0] 37)) _ _))
  have HM : Hid (Cl ((W.alloc (.cells #[.slice (some ⟨d, 0, none⟩) 1 dc] 37)).alloc (.cells #[.slice none 0 0] 37)) m [.string ⟨#[97]⟩, .int .i64 1, .slice (some ⟨p, 0, none⟩) 1 pc, .int .i64 0, .string ⟨#[]⟩, .string ⟨#[]⟩, .slice none 0 0]) := (hm.alloc _).alloc _
  have HP : Hid (Cl ((W.alloc (.cells #[.slice (some ⟨d, 0, none⟩) 1 dc] 37)).alloc (.cells #[.slice none 0 0] 37)) p [.string ⟨#[117, 115, 101, 114]⟩, .string ⟨#[]⟩]) := (hp.alloc _).alloc _
  have HS2 : Hid (((W.alloc (.cells #[.slice (some ⟨d, 0, none⟩) 1 dc] 37)).alloc (.cells #[.slice none 0 0] 37)).heap.size = W.heap.size + 2) := by show _ = _; simp
  clear hd hm hp
  go_enter Tryd.func11, Tryd.ntmps11
  go_wp2_with fail
  refine HI.out.mono ?_
  rintro r w1 ⟨g0, c0, rst, rfl, l1, a1, b1⟩
  have HL0 : Hid (W.heap.size + 2 ≤ g0) := by rw [HS2.out] at l1; exact l1
  have HB1 := Lib.hid (HB0.out.trans (b1.mono HB0.out.size))
  have HR1 := Lib.hid (HR0.out.later b1)
  have HG0 : Hid (g0 < w1.heap.size) := a1.lt
  have HA1 := Lib.hid (a1.alloc (.cells #[.string ⟨#[100]⟩, .slice (some ⟨m, 0, none⟩) 1 mc] 34))
  have HB2 : Hid (Below W.heap.size W (w1.alloc (.cells #[.string ⟨#[100]⟩, .slice (some ⟨m, 0, none⟩) 1 mc] 34))) := HB1.out.alloc HB1.out.size _
  have HR2 := Lib.hid (HR1.out.alloc (.cells #[.string ⟨#[100]⟩, .slice (some ⟨m, 0, none⟩) 1 mc] 34))
  have HBX : Hid (Arr (w1.alloc (.cells #[.string ⟨#[100]⟩, .slice (some ⟨m, 0, none⟩) 1 mc] 34)) 34 w1.heap.size [.string ⟨#[100]⟩, .slice (some ⟨m, 0, none⟩) 1 mc]) := Arr.new' _ _ _ _ rfl
  have HC := Lib.hid (cloneMs (mc := mc) ((HM.out.later b1).alloc (.cells #[.string ⟨#[100]⟩, .slice (some ⟨m, 0, none⟩) 1 mc] 34)) ((HP.out.later b1).alloc (.cells #[.string ⟨#[100]⟩, .slice (some ⟨m, 0, none⟩) 1 mc] 34)))
  have e0 := a1.cell 0
  have e1 := a1.cell 1
  have ef0 := a1.free 0
  have ef1 := a1.free 1
  simp only [List.getElem?_cons_zero, List.getElem?_cons_succ] at e0 e1
  clear l1 a1 b1 HM HP HI
  go_wp2_with fail
  refine wp_loop_rounds 2 ?_
  rw [rounds_succ]
  go_wp2_with fail
  refine HC.out.mono ?_
  rintro r w3 ⟨g1, c1, g2, c2, q, c, rfl, l1, l2, k1, k2, b3⟩
  have hs1 : (w1.alloc (.cells #[.string ⟨#[100]⟩, .slice (some ⟨m, 0, none⟩) 1 mc] 34)).heap.size = w1.heap.size + 1 := by simp
  have HG1 : Hid (w1.heap.size + 1 ≤ g1) := by rw [hs1] at l1; exact l1
  have HG2 : Hid (w1.heap.size + 1 ≤ g2) := by rw [hs1] at l2; exact l2
  have HD3 := Lib.hid (HA1.out.later b3)
  have HR3 := Lib.hid (HR2.out.later b3)
  have HB3 := Lib.hid (HB2.out.trans (b3.mono HB2.out.size))
  have HK1 := Lib.hid k1
  have HK2 := Lib.hid k2
  clear e0 e1 ef0 ef1 l1 l2 k1 k2 b3 HC hs1
  have m0 := HD3.out.cell 0
  have m1 := HD3.out.cell 1
  have mf0 := HD3.out.free 0
  have mf1 := HD3.out.free 1
  simp only [List.getElem?_cons_zero, List.getElem?_cons_succ] at m0 m1
  have hD4 := HD3.out.set 1 (.slice (some ⟨g1, 0, none⟩) 1 c1)
  simp only [List.set_cons_zero, List.set_cons_succ] at hD4
  have HD4 := Lib.hid hD4
  have hne : ∀ {g : Nat} {cs : List Value}, Cl w3 g cs → g ≠ g0 → Cl (w3.setCell ⟨g0, 1, none⟩ (.slice (some ⟨g1, 0, none⟩) 1 c1)) g cs := fun h hn => ⟨by simpa [World.setCell] using h.1, fun i hi => (World.cell?_of_block (w := w3) (Below.heap_setCell w3 ⟨g0, 1, none⟩ _ _ hn)).trans (h.2 i hi)⟩
  have HK3 := Lib.hid (hne HK1.out (by have := HG0.out; have := HG1.out; omega))
  have HK4 := Lib.hid (hne HK2.out (by have := HG0.out; have := HG2.out; omega))
  have HB4 : Hid (Below W.heap.size W (w3.setCell ⟨g0, 1, none⟩ (.slice (some ⟨g1, 0, none⟩) 1 c1))) := HB3.out.setCell (p := ⟨g0, 1, none⟩) (Nat.le_trans (by omega) HL0.out) _
  have HR4 : Hid (Arr (w3.setCell ⟨g0, 1, none⟩ (.slice (some ⟨g1, 0, none⟩) 1 c1)) 37 (W.heap.size + 1) [.slice none 0 0]) := HR3.out.setCell (by have := HL0.out; simp only [ne_eq]; omega) _
  clear hne hD4
  go_wp2_with fail
  rw [rounds_succ]
  clear m0 m1 mf0 mf1
  have r0 := HR4.out.cell 0
  have rf0 := HR4.out.free 0
  simp only [List.getElem?_cons_zero] at r0
  go_wp2_with fail
  have hB5 := HB4.out.setCell (p := ⟨W.heap.size + 1, 0, none⟩) (by simp) (.slice (some ⟨g0, 0, none⟩) 1 c0)
  have hR5 := HR4.out.set 0 (.slice (some ⟨g0, 0, none⟩) 1 c0)
  have hne : ∀ {g : Nat} {cs : List Value}, Cl (w3.setCell ⟨g0, 1, none⟩ (.slice (some ⟨g1, 0, none⟩) 1 c1)) g cs → W.heap.size + 1 < g → Cl ((w3.setCell ⟨g0, 1, none⟩ (.slice (some ⟨g1, 0, none⟩) 1 c1)).setCell ⟨W.heap.size + 1, 0, none⟩ (.slice (some ⟨g0, 0, none⟩) 1 c0)) g cs := fun h hn => ⟨by simpa [World.setCell] using h.1, fun i hi => (World.cell?_of_block (Below.heap_setCell _ ⟨W.heap.size + 1, 0, none⟩ _ _ (by simp only [ne_eq]; omega))).trans (h.2 i hi)⟩
  have c0' := hR5.cell 0
  simp only [List.set_cons_zero, List.getElem?_cons_zero] at c0'
  refine bodyPost_ret (v := .agg #[.slice (some ⟨g0, 0, none⟩) 1 c0]) ?_ rfl ⟨g0, c0, g1, c1, g2, c2, q, c, rfl, hne (Cl.take (cs := [.string ⟨#[100]⟩, .slice (some ⟨g1, 0, none⟩) 1 c1]) HD4.out) (by have := HL0.out; omega), hne HK3.out (by have := HL0.out; have := HG0.out; have := HG1.out; omega), hne HK4.out (by have := HL0.out; have := HG0.out; have := HG2.out; omega), hB5⟩
  simp [results, Tryd.results11, go_sem, c0']
end Go.Proofs.YtijokgddfcfcbaaDoor
