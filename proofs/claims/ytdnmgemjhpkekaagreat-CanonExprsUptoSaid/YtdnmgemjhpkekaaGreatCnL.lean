/-
  canon.Schema on two definitions without members.
-/
import Derived.Test.YtdnmgemjhpkekaaGreatCnJ
import Derived.Test.YtdnmgemjhpkekaaGreatStepC
namespace Go.Proofs.YtdnmgemjhpkekaaGreat
open Go.ChangeShapes Go.WideShapes Go.ChangeAt Go.RowKit Go.Lib Go.Sort
set_option linter.unusedVariables false

def cloneDf_ren : Go.Shelf.Ren := ⟨fun | 41 => 38 | n => n, fun | 22 => 30 | 23 => 36 | 4 => 4 | n => n, fun | n => n⟩
theorem cloneDf : Go.Proofs.SlLaysE0.n41 Tryz.prog cloneDf_ren := {
  mixed := by kernel_rfl
  f41 := ⟨Tryz.f38.name, by decide, Tryz.func38.trans (congrArg some (by kernel_rfl))⟩
  t4 := Tryz.underlying4
  a4 := Tryz.isAgg4
  z4 := Tryz.sizeOf4
  v4 := Tryz.zeroValue4
  t22 := Tryz.underlying30
  a22 := Tryz.isAgg30
  z22 := Tryz.sizeOf30
  v22 := Tryz.zeroValue30 }
theorem eqlM (w : World) : (binOp BinOp.eql 34 (.slice none 0 0) (.slice none 0 0)).run Tryz.prog w = .ok (.bool true) w := by kernel_rfl
set_option maxRecDepth 100000 in
theorem cloneM_nil (w : World) : Calls Tryz.prog 59 #[.slice none 0 0] w fun e w' => e = .returned (.slice none 0 0) ∧ w = w' := by
  have hq := eqlM
  go_enter Tryz.func59, Tryz.ntmps59
  go_wp2_with fail
  go_ret
  exact ⟨rfl, rfl⟩
set_option maxRecDepth 100000 in
theorem isortM_nil (w : World) (f : Value) : Calls Tryz.prog 63 #[.slice none 0 0, .int .i64 0, .int .i64 0, f] w fun e w' => e = .returned (.tuple #[]) ∧ w = w' := by
  go_enter Tryz.func63, Tryz.ntmps63
  go_wp2_with fail
  go_loopw [8] (fun iv wr => iv = .int .i64 1 ∧ wr = w) (fun _ _ => 0)
  case atStart => exact ⟨rfl, rfl⟩
  case round =>
    obtain ⟨rfl, rfl⟩ := hrel
    go_wp2_with fail
    go_end0
    exact ⟨rfl, rfl⟩
set_option maxRecDepth 100000 in
theorem stableM_nil (w : World) (f : Value) : Calls Tryz.prog 42 #[.slice none 0 0, .int .i64 0, f] w fun e w' => e = .returned (.tuple #[]) ∧ w = w' := by
  go_enter Tryz.func42, Tryz.ntmps42
  go_wp2_with fail
  go_loopw [7, 8] (fun av bv wr => av = .int .i64 0 ∧ bv = .int .i64 20 ∧ wr = w) (fun _ _ _ => 0)
  case atStart => exact ⟨rfl, rfl, rfl⟩
  case round =>
    obtain ⟨rfl, rfl, rfl⟩ := hrel
    go_wp2_with fail
    refine (isortM_nil _ _).mono ?_
    rintro e w1 ⟨rfl, rfl⟩
    go_wp2_with fail
    go_loopw [6] (fun kv wr' => kv = .int .i64 20 ∧ wr' = wr) (fun _ _ => 0)
    case atStart => exact ⟨rfl, rfl⟩
    case round =>
      obtain ⟨rfl, rfl⟩ := hrel
      go_wp2_with fail
      go_end0
      exact ⟨rfl, rfl⟩
set_option maxRecDepth 100000 in
theorem sortsM_nil (w : World) (f : Value) : Calls Tryz.prog 26 #[.slice none 0 0, f] w fun e w' => e = .returned (.tuple #[]) ∧ w = w' := by
  go_enter Tryz.func26, Tryz.ntmps26
  go_wp2_with fail
  refine (stableM_nil _ _).mono ?_
  rintro e w1 ⟨rfl, rfl⟩
  go_wp2_with fail
  go_end0
  exact ⟨rfl, rfl⟩
/-- Two definitions without members. -/
def DR (w : World) (g : Nat) (n1 n2 : ByteArray) : Prop := g < w.heap.size ∧ (w.cell? ⟨g, 0, none⟩ = some (.string n1) ∧ w.cell? ⟨g, 1, none⟩ = some (.slice none 0 0) ∧ w.cell? ⟨g, 2, none⟩ = some (.string n2) ∧ w.cell? ⟨g, 3, none⟩ = some (.slice none 0 0)) ∧ ∀ j, w.frozen? ⟨g, j, none⟩ = false
theorem DR.later {w w' : World} {g : Nat} {n1 n2 : ByteArray} (h : DR w g n1 n2) (hb : Below w.heap.size w w') : DR w' g n1 n2 := by
  have hk : ∀ j, w'.cell? ⟨g, j, none⟩ = w.cell? ⟨g, j, none⟩ := fun j => World.cell?_of_block (a := ⟨g, j, none⟩) (hb.block g h.1)
  have hf : ∀ j, w'.frozen? ⟨g, j, none⟩ = w.frozen? ⟨g, j, none⟩ := fun j => World.frozen?_of_block (a := ⟨g, j, none⟩) (hb.block g h.1)
  exact ⟨Nat.lt_of_lt_of_le h.1 hb.size, ⟨(hk 0).trans h.2.1.1, (hk 1).trans h.2.1.2.1, (hk 2).trans h.2.1.2.2.1, (hk 3).trans h.2.1.2.2.2⟩, fun j => (hf j).trans (h.2.2 j)⟩
theorem DR.other {w : World} {g : Nat} {n1 n2 : ByteArray} (h : DR w g n1 n2) {a : Addr} (ha : g ≠ a.block) (v : Value) : DR (w.setCell a v) g n1 n2 := by
  have hb := Below.heap_setCell w a v g ha
  have hk : ∀ j, (w.setCell a v).cell? ⟨g, j, none⟩ = w.cell? ⟨g, j, none⟩ := fun j => World.cell?_of_block (a := ⟨g, j, none⟩) hb
  exact ⟨by simpa [World.setCell] using h.1, ⟨(hk 0).trans h.2.1.1, (hk 1).trans h.2.1.2.1, (hk 2).trans h.2.1.2.2.1, (hk 3).trans h.2.1.2.2.2⟩, fun j => by rw [World.frozen?_setCell]; exact h.2.2 j⟩
theorem ad_ne {g i j : Nat} (h : i ≠ j) : (⟨g, i, none⟩ : Addr) ≠ ⟨g, j, none⟩ := fun e => h (by injection e)
theorem soC {w : World} {g : Nat} {v : Value} (i j : Nat) (h : i ≠ j) : (w.setCell ⟨g, i, none⟩ v).cell? ⟨g, j, none⟩ = w.cell? ⟨g, j, none⟩ := World.cell?_setCell_other _ _ _ _ (ad_ne h)
theorem ssC {w : World} {g i : Nat} {v u : Value} (h : w.cell? ⟨g, i, none⟩ = some u) : (w.setCell ⟨g, i, none⟩ v).cell? ⟨g, i, none⟩ = some v := World.cell?_setCell_same _ _ _ h
section
variable {w : World} {g : Nat} {n1 n2 : ByteArray}
theorem DR.nil1 (h : DR w g n1 n2) : DR (w.setCell ⟨g, 1, none⟩ (.slice none 0 0)) g n1 n2 :=
  ⟨by simpa [World.setCell] using h.1, ⟨(soC 1 0 (by decide)).trans h.2.1.1, ssC h.2.1.2.1, (soC 1 2 (by decide)).trans h.2.1.2.2.1, (soC 1 3 (by decide)).trans h.2.1.2.2.2⟩, fun j => by rw [World.frozen?_setCell]; exact h.2.2 j⟩
theorem DR.nil3 (h : DR w g n1 n2) : DR (w.setCell ⟨g, 3, none⟩ (.slice none 0 0)) g n1 n2 :=
  ⟨by simpa [World.setCell] using h.1, ⟨(soC 3 0 (by decide)).trans h.2.1.1, (soC 3 1 (by decide)).trans h.2.1.2.1, (soC 3 2 (by decide)).trans h.2.1.2.2.1, ssC h.2.1.2.2.2⟩, fun j => by rw [World.frozen?_setCell]; exact h.2.2 j⟩
theorem DR.s0 (h : DR w g n1 n2) (m : ByteArray) : DR (w.setCell ⟨g, 0, none⟩ (.string m)) g m n2 :=
  ⟨by simpa [World.setCell] using h.1, ⟨ssC h.2.1.1, (soC 0 1 (by decide)).trans h.2.1.2.1, (soC 0 2 (by decide)).trans h.2.1.2.2.1, (soC 0 3 (by decide)).trans h.2.1.2.2.2⟩, fun j => by rw [World.frozen?_setCell]; exact h.2.2 j⟩
theorem DR.s2 (h : DR w g n1 n2) (m : ByteArray) : DR (w.setCell ⟨g, 2, none⟩ (.string m)) g n1 m :=
  ⟨by simpa [World.setCell] using h.1, ⟨(soC 2 0 (by decide)).trans h.2.1.1, (soC 2 1 (by decide)).trans h.2.1.2.1, ssC h.2.1.2.2.1, (soC 2 3 (by decide)).trans h.2.1.2.2.2⟩, fun j => by rw [World.frozen?_setCell]; exact h.2.2 j⟩
end
theorem grown_set {w wr : World} {g : Nat} (h : w.grownBy wr (some g)) (k : Nat) (v : Value) : w.grownBy (wr.setCell ⟨g, k, none⟩ v) (some g) := grown_tr h (grown_cells g [v] k wr)
/-- .. in order. -/
def SD (w : World) (g : Nat) (n1 n2 : ByteArray) : Prop := if ord n2 n1 < 0 then DR w g n2 n1 else DR w g n1 n2
theorem SD.drew {w : World} {g : Nat} {n1 n2 : ByteArray} (h : SD w g n1 n2) : SD w.drew g n1 n2 := by
  unfold SD at h ⊢
  split
  · rw [if_pos (by assumption)] at h; exact h.later (Below.refl _ _).drew
  · rw [if_neg (by assumption)] at h; exact h.later (Below.refl _ _).drew
theorem stillD {ops : Array Oper} {rest : List Oper} {o : Oper} {a : Act} {Q' : Act → Prop} {w : World} {b off : Nat} {x : Operand} {u : ByteArray} {v : Value} (hr : w.rangeAt b off [.string u, v]) (hs : Region.wanted o (yielded ops a.tmps) = true ∧ o.op = .load 36 x ∧ a.eval x = .pointer (some ⟨b, off, none⟩))
    (hk : wpStill Tryz.prog ops w Q' rest (a.put o.dst (.agg #[.string u, v]))) : wpStill Tryz.prog ops w Q' (o :: rest) a := by
  refine wpStill_step (fun K hK => ?_)
  rw [if_pos hs.1]
  unfold Oper.still execOp
  simp only [hs.2.1, hs.2.2, Instr.loadAt, Instr.sureAddr, Sem.run_bind, Sem.run_pure, Result.andThen_ok, run_loadVar_mid w b off _ [.string u, v] _ hr Tryz.underlying36 rfl (by kernel_rfl)]
  exact ⟨rfl, hK _ hk⟩
theorem DR.r0 {w : World} {g : Nat} {n1 n2 : ByteArray} (h : DR w g n1 n2) : w.rangeAt g 0 [.string n1, .slice none 0 0] := fun j u hj => by
  match j, hj with
  | 0, hj => simp only [List.getElem?_cons_zero, Option.some.injEq] at hj; subst hj; exact h.2.1.1
  | 1, hj => simp only [List.getElem?_cons_succ, List.getElem?_cons_zero, Option.some.injEq] at hj; subst hj; exact h.2.1.2.1
  | j + 2, hj => simp at hj
theorem DR.r2 {w : World} {g : Nat} {n1 n2 : ByteArray} (h : DR w g n1 n2) : w.rangeAt g 2 [.string n2, .slice none 0 0] := fun j u hj => by
  match j, hj with
  | 0, hj => simp only [List.getElem?_cons_zero, Option.some.injEq] at hj; subst hj; exact h.2.1.2.2.1
  | 1, hj => simp only [List.getElem?_cons_succ, List.getElem?_cons_zero, Option.some.injEq] at hj; subst hj; exact h.2.1.2.2.2
  | j + 2, hj => simp at hj
set_option maxRecDepth 100000 in
set_option maxHeartbeats 4000000 in
/-- cloneMembers of none. -/
theorem cms_nil (w : World) : Calls Tryz.prog 39 #[.slice none 0 0] w fun e w' => e = .returned (.slice none 0 0) ∧ w = w' := by
  go_enter Tryz.func39, Tryz.ntmps39
  go_wp2_with fail
  refine (cloneM_nil _).mono ?_
  rintro e w1 ⟨rfl, rfl⟩
  go_wp2_with fail
  go_loopw [10] (fun iv wr => iv = .int .i64 0 ∧ wr = w) (fun _ _ => 0)
  case atStart => exact ⟨rfl, rfl⟩
  case round =>
    obtain ⟨rfl, rfl⟩ := hrel
    go_wp2_with fail
    go_ret
    exact ⟨rfl, rfl⟩
/-- Clone of two definitions. -/
theorem cloneD2 {w : World} {g c : Nat} {n1 n2 : ByteArray} (h : DR w g n1 n2) : Calls Tryz.prog 38 #[.slice (some ⟨g, 0, none⟩) 2 c] w fun e w' => ∃ g' c', e = .returned (.slice (some ⟨g', 0, none⟩) 2 c') ∧ w.heap.size ≤ g' ∧ DR w' g' n1 n2 ∧ Below w.heap.size w w' := by
  obtain ⟨i0, hi0⟩ : ∃ i, Tryz.prog.info? 36 = some i := Option.isSome_iff_exists.1 (by kernel_rfl)
  have q1 : (Tryz.prog.info? 36).bind (·.zero) = some (.agg #[.string ByteArray.empty, .slice none 0 0]) := by kernel_rfl
  have q2 : (Tryz.prog.info? 36).map (·.size) = some 2 := by kernel_rfl
  have q3 : (Tryz.prog.info? 36).map (·.bytes) = some 40 := by kernel_rfl
  rw [hi0] at q1 q2 q3
  refine (AnyE.slices_Clone cloneDf i0 _ 2 40 hi0 q1 (Option.some.inj q2) (Option.some.inj q3) (by kernel_rfl) (by omega) (fun _ => by kernel_rfl) g 0 2 c [.string n1, .slice none 0 0, .string n2, .slice none 0 0] w rfl (by decide) (by omega) (fun j u hj => ?_) (fun u hu => ?_)).mono ?_
  · rw [Nat.zero_add]
    match j, hj with
    | 0, hj => simp only [List.getElem?_cons_zero, Option.some.injEq] at hj; subst hj; exact h.2.1.1
    | 1, hj => simp only [List.getElem?_cons_succ, List.getElem?_cons_zero, Option.some.injEq] at hj; subst hj; exact h.2.1.2.1
    | 2, hj => simp only [List.getElem?_cons_succ, List.getElem?_cons_zero, Option.some.injEq] at hj; subst hj; exact h.2.1.2.2.1
    | 3, hj => simp only [List.getElem?_cons_succ, List.getElem?_cons_zero, Option.some.injEq] at hj; subst hj; exact h.2.1.2.2.2
    | j + 4, hj => simp at hj
  · simp only [List.mem_cons, List.not_mem_nil, or_false] at hu
    rcases hu with rfl | rfl | rfl | rfl <;> rfl
  · rintro e w1 ⟨v', rfl, ho, hn, hb⟩
    have ho' := ho
    rcases ho.2 with ⟨e0, _⟩ | ⟨g', cap, cur, rfl, g1, g2, _⟩
    · exact absurd e0 hn
    · have hc : ∀ j u, [Value.string n1, .slice none 0 0, .string n2, .slice none 0 0][j]? = some u → w1.cell? ⟨g', j, none⟩ = some u := fun j u hj => by
        have := ho'.cells rfl j u hj
        rwa [show (Addr.add ⟨g', 0, none⟩ j) = ⟨g', j, none⟩ by cases j <;> simp [Addr.add]] at this
      exact ⟨g', cap, rfl, g1, ⟨(Array.getElem?_eq_some_iff.1 g2).1, ⟨hc 0 _ rfl, hc 1 _ rfl, hc 2 _ rfl, hc 3 _ rfl⟩, fun j => ho'.frozenAt j⟩, hb⟩
set_option maxRecDepth 100000 in
set_option maxHeartbeats 4000000 in
/-- The order of definitions. -/
theorem cmpD_any (a b : ByteArray) (w : World) : Calls Tryz.prog 24 #[.agg #[.string a, .slice none 0 0], .agg #[.string b, .slice none 0 0]] w fun e w' => e = .returned (.int .i64 (ord a b)) ∧ Below w.heap.size w w' := by
  have hb : Below w.heap.size w ((w.alloc (.cells #[.string a, .slice none 0 0] 36)).alloc (.cells #[.string b, .slice none 0 0] 36)) := ((Below.refl _ _).alloc (Nat.le_refl _) _).alloc (by simp) _
  have HB := Lib.hid hb
  have H1 := Lib.hid (Tryz.strings_Compare a b)
  have HO : Hid (Lib.compareBytes a.data.toList b.data.toList = ord a b) := rfl
  clear hb
  go_enter Tryz.func24, Tryz.ntmps24
  go_wp2_with fail
  refine (H1.out _).mono ?_
  rintro e w1 ⟨rfl, rfl⟩
  rw [HO.out]
  go_wp2_with fail
  go_ret
  exact ⟨rfl, HB.out⟩
set_option maxRecDepth 100000 in
set_option maxHeartbeats 4000000 in
theorem isortD2 {w : World} {g c : Nat} {n1 n2 : ByteArray} (h : DR w g n1 n2) : Calls Tryz.prog 60 #[.slice (some ⟨g, 0, none⟩) 2 c, .int .i64 0, .int .i64 2, .func (.func 24) #[] #[]] w fun e w' => e = .returned (.tuple #[]) ∧ w.grownBy w' (some g) ∧ SD w' g n1 n2 := by
  have HD0 := Lib.hid h
  clear h
  go_enter Tryz.func60, Tryz.ntmps60
  go_wp2_with fail
  go_loopw [8] (fun iv wr => (iv = .int .i64 1 ∧ Hid (DR wr g n1 n2) ∧ Hid (w.grownBy wr (some g))) ∨ (iv = .int .i64 2 ∧ Hid (w.grownBy wr (some g) ∧ SD wr g n1 n2))) (fun iv _ => 2 - (intOf iv).toNat)
  case atStart => exact .inl ⟨rfl, HD0.out, grown_refl _ _⟩
  case round =>
    rcases hrel with ⟨rfl, HD1, HB1⟩ | ⟨rfl, HF⟩
    · go_wp2_with fail
      go_loopw [9] (fun jv wr => (jv = .int .i64 1 ∧ Hid (DR wr g n1 n2) ∧ Hid (w.grownBy wr (some g))) ∨ (jv = .int .i64 0 ∧ Hid (w.grownBy wr (some g) ∧ SD wr g n1 n2))) (fun jv _ => (intOf jv).toNat)
      case atStart => exact .inl ⟨rfl, HD1.out, HB1.out⟩
      case round =>
        rcases hrel with ⟨rfl, HD, HB⟩ | ⟨rfl, HF⟩
        · have bd : Below wr.heap.size wr wr.drew := (Below.refl _ _).drew
          have HDd := Lib.hid (HD.out.later bd)
          have HBd := Lib.hid (grown_below HB.out bd)
          clear bd HD HB HD1 HB1 HD0
          go_wp2_with fail
          refine region_tail 14 (by kernel_rfl) (by kernel_rfl) ?_
          simp only [List.take_succ_cons, List.take_zero, List.drop_succ_cons, List.drop_zero]
          have R0 := Lib.hid HDd.out.r0
          have R2 := Lib.hid HDd.out.r2
          repeat first
            | still_step
            | (rw [show IntKind.i64.wrap 0 = 0 from rfl]; still_step)
            | ((with_reducible refine stillD (x := .tmp 25) (o := ⟨some 26, _, _, _, _, _⟩) R2.out ?_ ?_); exact ⟨rfl, rfl, by go_simp⟩)
            | ((with_reducible refine stillD (x := .tmp 30) (o := ⟨some 31, _, _, _, _, _⟩) R0.out ?_ ?_); exact ⟨rfl, rfl, by go_simp⟩)
          refine wpStill_nil ?_
          clear R0 R2
          generalize wr.drew = wc at HDd HBd ⊢
          have HQ := Lib.hid (cmpD_any n2 n1 wc)
          obtain ⟨q, hq⟩ : ∃ q, q = ord n2 n1 := ⟨_, rfl⟩
          rw [← hq] at HQ
          have HQE := Lib.hid hq
          clear hq
          go_wp2_with fail
          refine HQ.out.mono ?_
          rintro e w3 ⟨rfl, b3⟩
          have HD := Lib.hid (HDd.out.later b3)
          have HB := Lib.hid (grown_below HBd.out b3)
          clear b3 HQ HDd HBd
          by_cases hneg : q < 0
          · have HDX : Hid (DR w3.drew g n1 n2) := HD.out.later (Below.refl _ _).drew
            have HBX : Hid (w.grownBy w3.drew (some g)) := grown_below HB.out (Below.refl _ _).drew
            have k0 := HDX.out.2.1.1
            have k1 := HDX.out.2.1.2.1
            have k2 := HDX.out.2.1.2.2.1
            have k3 := HDX.out.2.1.2.2.2
            have f0 := HDX.out.2.2 0
            have f1 := HDX.out.2.2 1
            have f2 := HDX.out.2.2 2
            have f3 := HDX.out.2.2 3
            have HNG := Lib.hid hneg
            clear HD HB
            have HD := HDX
            have HB := HBX
            clear HDX HBX
            generalize w3 = wr at HD HB k0 k1 k2 k3 f0 f1 f2 f3 ⊢
            go_wp2_with fail
            refine wp_region_noPanic ?_
            refine wp_region_held_drew (S := fun _ => True) (by kernel_rfl) trivial (fun hHeld => ?_)
            try simp only [Act.put]
            generalize wr.drew = wd at HD HB k0 k1 k2 k3 f0 f1 f2 f3 ⊢
            refine wpAnyH_take (i := 0) (oi := ⟨some 37, _, _, _, _, _⟩) (v := .slice (some ⟨g, 0, none⟩) 2 c) rfl (by kernel_rfl) (by kernel_rfl) (by kernel_rfl) (fun _ _ _ h => h) (.inl ⟨by rfl, fun w' hSw => ?_⟩) hHeld ?_
            focus (skip; clear hHeld; go_simp)
            try simp only [Act.put, List.setIfInBounds_toArray, List.set_cons_zero, List.set_cons_succ]
            refine wpAnyH_take (i := 1) (oi := ⟨some 38, _, _, _, _, _⟩) (v := .int .i64 1) rfl (by kernel_rfl) (by kernel_rfl) (by kernel_rfl) (fun _ _ _ h => h) (.inl ⟨by rfl, fun w' hSw => ?_⟩) hHeld ?_
            focus (skip; clear hHeld; go_simp)
            try simp only [Act.put, List.setIfInBounds_toArray, List.set_cons_zero, List.set_cons_succ]
            refine wpAnyH_take (i := 2) (oi := ⟨some 39, _, _, _, _, _⟩) (v := .slice (some ⟨g, 0, none⟩) 2 c) rfl (by kernel_rfl) (by kernel_rfl) (by kernel_rfl) (fun _ _ _ h => h) (.inl ⟨by rfl, fun w' hSw => ?_⟩) hHeld ?_
            focus (skip; clear hHeld; go_simp)
            try simp only [Act.put, List.setIfInBounds_toArray, List.set_cons_zero, List.set_cons_succ]
            refine wpAnyH_take (i := 3) (oi := ⟨some 40, _, _, _, _, _⟩) (v := .int .i64 1) rfl (by kernel_rfl) (by kernel_rfl) (by kernel_rfl) (fun _ _ _ h => h) (.inl ⟨by rfl, fun w' hSw => ?_⟩) hHeld ?_
            focus (skip; clear hHeld; go_simp)
            try simp only [Act.put, List.setIfInBounds_toArray, List.set_cons_zero, List.set_cons_succ]
            refine wpAnyH_take (i := 4) (oi := ⟨some 41, _, _, _, _, _⟩) (v := .int .i64 0) rfl (by kernel_rfl) (by kernel_rfl) (by kernel_rfl) (fun _ _ _ h => h) (.inl ⟨by rfl, fun w' hSw => ?_⟩) hHeld ?_
            focus (have hw0 : IntKind.i64.wrap 0 = 0 := rfl; clear hHeld; go_simp)
            try simp only [Act.put, List.setIfInBounds_toArray, List.set_cons_zero, List.set_cons_succ]
            refine wpAnyH_take (i := 5) (oi := ⟨some 42, _, _, _, _, _⟩) (v := .slice (some ⟨g, 0, none⟩) 2 c) rfl (by kernel_rfl) (by kernel_rfl) (by kernel_rfl) (fun _ _ _ h => h) (.inl ⟨by rfl, fun w' hSw => ?_⟩) hHeld ?_
            focus (skip; clear hHeld; go_simp)
            try simp only [Act.put, List.setIfInBounds_toArray, List.set_cons_zero, List.set_cons_succ]
            refine wpAnyH_take (i := 6) (oi := ⟨some 43, _, _, _, _, _⟩) (v := .int .i64 1) rfl (by kernel_rfl) (by kernel_rfl) (by kernel_rfl) (fun _ _ _ h => h) (.inl ⟨by rfl, fun w' hSw => ?_⟩) hHeld ?_
            focus (skip; clear hHeld; go_simp)
            try simp only [Act.put, List.setIfInBounds_toArray, List.set_cons_zero, List.set_cons_succ]
            refine wpAnyH_take (i := 7) (oi := ⟨some 44, _, _, _, _, _⟩) (v := .int .i64 0) rfl (by kernel_rfl) (by kernel_rfl) (by kernel_rfl) (fun _ _ _ h => h) (.inl ⟨by rfl, fun w' hSw => ?_⟩) hHeld ?_
            focus (have hw0 : IntKind.i64.wrap 0 = 0 := rfl; clear hHeld; go_simp)
            try simp only [Act.put, List.setIfInBounds_toArray, List.set_cons_zero, List.set_cons_succ]
            refine wpAnyH_take (i := 8) (oi := ⟨some 45, _, _, _, _, _⟩) (v := .pointer (some ⟨g, 0, none⟩)) rfl (by kernel_rfl) (by kernel_rfl) (by kernel_rfl) (fun _ _ _ h => h) (.inl ⟨by rfl, fun w' hSw => ?_⟩) hHeld ?_
            focus (skip; clear hHeld; go_simp)
            try simp only [Act.put, List.setIfInBounds_toArray, List.set_cons_zero, List.set_cons_succ]
            refine wpAnyH_take (i := 10) (oi := ⟨some 47, _, _, _, _, _⟩) (v := .slice (some ⟨g, 0, none⟩) 2 c) rfl (by kernel_rfl) (by kernel_rfl) (by kernel_rfl) (fun _ _ _ h => h) (.inl ⟨by rfl, fun w' hSw => ?_⟩) hHeld ?_
            focus (skip; clear hHeld; go_simp)
            try simp only [Act.put, List.setIfInBounds_toArray, List.set_cons_zero, List.set_cons_succ]
            refine wpAnyH_take (i := 11) (oi := ⟨some 48, _, _, _, _, _⟩) (v := .int .i64 1) rfl (by kernel_rfl) (by kernel_rfl) (by kernel_rfl) (fun _ _ _ h => h) (.inl ⟨by rfl, fun w' hSw => ?_⟩) hHeld ?_
            focus (skip; clear hHeld; go_simp)
            try simp only [Act.put, List.setIfInBounds_toArray, List.set_cons_zero, List.set_cons_succ]
            refine wpAnyH_take (i := 12) (oi := ⟨some 49, _, _, _, _, _⟩) (v := .pointer (some ⟨g, 2, none⟩)) rfl (by kernel_rfl) (by kernel_rfl) (by kernel_rfl) (fun _ _ _ h => h) (.inl ⟨by rfl, fun w' hSw => ?_⟩) hHeld ?_
            focus (skip; clear hHeld; go_simp)
            try simp only [Act.put, List.setIfInBounds_toArray, List.set_cons_zero, List.set_cons_succ]
            refine wpAnyH_ready (rs := [9, 13]) (by kernel_rfl) (by simp) ?_
            refine AllReadyH.cons (o := ⟨some 46, _, _, _, _, _⟩) rfl (fun K' hK' => ?_) (AllReadyH.cons (o := ⟨some 50, _, _, _, _, _⟩) rfl (fun K' hK' => ?_) AllReadyH.nil)
            · go_simp
              refine hK'.out _ _ trivial (fun _ => ?_)
              clear hK' K'
              try simp only [Act.put, List.setIfInBounds_toArray, List.set_cons_zero, List.set_cons_succ]
              refine wpAnyH_ready (rs := [13]) (by kernel_rfl) (by simp) ?_
              refine AllReadyH.cons (o := ⟨some 50, _, _, _, _, _⟩) rfl (fun K' hK' => ?_) AllReadyH.nil
              go_simp
              refine hK'.out _ _ trivial (fun _ => ?_)
              clear hK' K'
              try simp only [Act.put, List.setIfInBounds_toArray, List.set_cons_zero, List.set_cons_succ]
              refine wpAnyH_take (i := 14) (oi := ⟨some 51, _, _, _, _, _⟩) (v := .pointer (some ⟨g, 2, none⟩)) rfl (by kernel_rfl) (by kernel_rfl) (by kernel_rfl) (fun _ _ _ h => h) (.inl ⟨by rfl, fun w' hSw => ?_⟩) hHeld ?_
              focus (skip; clear hHeld; go_simp)
              try simp only [Act.put, List.setIfInBounds_toArray, List.set_cons_zero, List.set_cons_succ]
              refine wpAnyH_ready (rs := [15]) (by kernel_rfl) (by simp) ?_
              refine AllReadyH.cons (o := ⟨none, _, _, _, _, _⟩) rfl (fun K' hK' => ?_) AllReadyH.nil
              go_simp
              refine hK'.out _ _ trivial (fun _ => ?_)
              clear hK' K'
              try simp only [Act.put, List.setIfInBounds_toArray, List.set_cons_zero, List.set_cons_succ]
              have HD2 := Lib.hid ((HD.out.s2 n1).nil3)
              have HB2 := Lib.hid (grown_set (grown_set HB.out 2 (.string n1)) 3 (.slice none 0 0))
              clear k0 k1 k2 k3 f0 f1 f2 f3 HD HB
              generalize (wd.setCell ⟨g, 2, none⟩ (.string n1)).setCell ⟨g, 3, none⟩ (.slice none 0 0) = w1 at HD2 HB2 ⊢
              have k0 := HD2.out.2.1.1
              have k1 := HD2.out.2.1.2.1
              have f0 := HD2.out.2.2 0
              have f1 := HD2.out.2.2 1
              refine wpAnyH_take (i := 16) (oi := ⟨some 52, _, _, _, _, _⟩) (v := .pointer (some ⟨g, 0, none⟩)) rfl (by kernel_rfl) (by kernel_rfl) (by kernel_rfl) (fun _ _ _ h => h) (.inl ⟨by rfl, fun w' hSw => ?_⟩) hHeld ?_
              focus (skip; clear hHeld; go_simp)
              try simp only [Act.put, List.setIfInBounds_toArray, List.set_cons_zero, List.set_cons_succ]
              refine wpAnyH_ready (rs := [17]) (by kernel_rfl) (by simp) ?_
              refine AllReadyH.cons (o := ⟨none, _, _, _, _, _⟩) rfl (fun K' hK' => ?_) AllReadyH.nil
              go_simp
              refine hK'.out _ _ trivial (fun _ => ?_)
              clear hK' K'
              try simp only [Act.put, List.setIfInBounds_toArray, List.set_cons_zero, List.set_cons_succ]
              refine wpAnyH_done (by kernel_rfl) ?_ _
              refine NoPanic.normal ?_
              have HD3 := Lib.hid ((HD2.out.s0 n2).nil1)
              have HB3 := Lib.hid (grown_set (grown_set HB2.out 0 (.string n2)) 1 (.slice none 0 0))
              clear k0 k1 f0 f1 HD2 HB2
              generalize (w1.setCell ⟨g, 0, none⟩ (.string n2)).setCell ⟨g, 1, none⟩ (.slice none 0 0) = w2 at HD3 HB3 ⊢
              have HFN : Hid (w.grownBy w2 (some g) ∧ SD w2 g n1 n2) := ⟨HB3.out, by unfold SD; rw [if_pos (by rw [← HQE.out]; exact HNG.out)]; exact HD3.out⟩
              clear HD3 HB3
              go_wp2_with fail
              go_roundw
              case rel => exact .inr ⟨by go_num, HFN.out⟩
              case measure => simp [intOf]
            · go_simp
              refine hK'.out _ _ trivial (fun _ => ?_)
              clear hK' K'
              try simp only [Act.put, List.setIfInBounds_toArray, List.set_cons_zero, List.set_cons_succ]
              refine wpAnyH_ready (rs := [9]) (by kernel_rfl) (by simp) ?_
              refine AllReadyH.cons (o := ⟨some 46, _, _, _, _, _⟩) rfl (fun K' hK' => ?_) AllReadyH.nil
              go_simp
              refine hK'.out _ _ trivial (fun _ => ?_)
              clear hK' K'
              try simp only [Act.put, List.setIfInBounds_toArray, List.set_cons_zero, List.set_cons_succ]
              refine wpAnyH_take (i := 14) (oi := ⟨some 51, _, _, _, _, _⟩) (v := .pointer (some ⟨g, 2, none⟩)) rfl (by kernel_rfl) (by kernel_rfl) (by kernel_rfl) (fun _ _ _ h => h) (.inl ⟨by rfl, fun w' hSw => ?_⟩) hHeld ?_
              focus (skip; clear hHeld; go_simp)
              try simp only [Act.put, List.setIfInBounds_toArray, List.set_cons_zero, List.set_cons_succ]
              refine wpAnyH_ready (rs := [15]) (by kernel_rfl) (by simp) ?_
              refine AllReadyH.cons (o := ⟨none, _, _, _, _, _⟩) rfl (fun K' hK' => ?_) AllReadyH.nil
              go_simp
              refine hK'.out _ _ trivial (fun _ => ?_)
              clear hK' K'
              try simp only [Act.put, List.setIfInBounds_toArray, List.set_cons_zero, List.set_cons_succ]
              have HD2 := Lib.hid ((HD.out.s2 n1).nil3)
              have HB2 := Lib.hid (grown_set (grown_set HB.out 2 (.string n1)) 3 (.slice none 0 0))
              clear k0 k1 k2 k3 f0 f1 f2 f3 HD HB
              generalize (wd.setCell ⟨g, 2, none⟩ (.string n1)).setCell ⟨g, 3, none⟩ (.slice none 0 0) = w1 at HD2 HB2 ⊢
              have k0 := HD2.out.2.1.1
              have k1 := HD2.out.2.1.2.1
              have f0 := HD2.out.2.2 0
              have f1 := HD2.out.2.2 1
              refine wpAnyH_take (i := 16) (oi := ⟨some 52, _, _, _, _, _⟩) (v := .pointer (some ⟨g, 0, none⟩)) rfl (by kernel_rfl) (by kernel_rfl) (by kernel_rfl) (fun _ _ _ h => h) (.inl ⟨by rfl, fun w' hSw => ?_⟩) hHeld ?_
              focus (skip; clear hHeld; go_simp)
              try simp only [Act.put, List.setIfInBounds_toArray, List.set_cons_zero, List.set_cons_succ]
              refine wpAnyH_ready (rs := [17]) (by kernel_rfl) (by simp) ?_
              refine AllReadyH.cons (o := ⟨none, _, _, _, _, _⟩) rfl (fun K' hK' => ?_) AllReadyH.nil
              go_simp
              refine hK'.out _ _ trivial (fun _ => ?_)
              clear hK' K'
              try simp only [Act.put, List.setIfInBounds_toArray, List.set_cons_zero, List.set_cons_succ]
              refine wpAnyH_done (by kernel_rfl) ?_ _
              refine NoPanic.normal ?_
              have HD3 := Lib.hid ((HD2.out.s0 n2).nil1)
              have HB3 := Lib.hid (grown_set (grown_set HB2.out 0 (.string n2)) 1 (.slice none 0 0))
              clear k0 k1 f0 f1 HD2 HB2
              generalize (w1.setCell ⟨g, 0, none⟩ (.string n2)).setCell ⟨g, 1, none⟩ (.slice none 0 0) = w2 at HD3 HB3 ⊢
              have HFN : Hid (w.grownBy w2 (some g) ∧ SD w2 g n1 n2) := ⟨HB3.out, by unfold SD; rw [if_pos (by rw [← HQE.out]; exact HNG.out)]; exact HD3.out⟩
              clear HD3 HB3
              go_wp2_with fail
              go_roundw
              case rel => exact .inr ⟨by go_num, HFN.out⟩
              case measure => simp [intOf]
          · have HFN : Hid (w.grownBy w3 (some g) ∧ SD w3 g n1 n2) := ⟨HB.out, by unfold SD; rw [if_neg (by rw [← HQE.out]; exact hneg)]; exact HD.out⟩
            clear HD HB
            go_wp2_with fail
            go_roundw
            case rel => exact .inr ⟨by go_num, HFN.out⟩
            case measure => simp [intOf]
        · clear HD1 HB1 HD0
          have HFd : Hid (w.grownBy wr.drew (some g) ∧ SD wr.drew g n1 n2) := ⟨grown_below HF.out.1 (Below.refl _ _).drew, HF.out.2.drew⟩
          go_wp2_with fail
          refine wp_region_noPanic ?_
          refine wp_region_held_drew (S := fun _ => True) (by kernel_rfl) trivial (fun hHeld => ?_)
          try simp only [Act.put]
          clear HF
          generalize wr.drew = wc at HFd ⊢
          refine wpAnyH_take (i := 0) (oi := ⟨some 18, _, _, _, _, _⟩) (v := .int .i64 0) rfl (by kernel_rfl) (by kernel_rfl) (by kernel_rfl) (fun _ _ _ h => h) (.inl ⟨by rfl, fun w' hSw => ?_⟩) hHeld ?_
          focus (skip; clear hHeld; go_simp)
          try simp only [Act.put, List.setIfInBounds_toArray, List.set_cons_zero, List.set_cons_succ]
          refine wpAnyH_take (i := 1) (oi := ⟨some 19, _, _, _, _, _⟩) (v := .int .i64 0) rfl (by kernel_rfl) (by kernel_rfl) (by kernel_rfl) (fun _ _ _ h => h) (.inl ⟨by rfl, fun w' hSw => ?_⟩) hHeld ?_
          focus (skip; clear hHeld; go_simp)
          try simp only [Act.put, List.setIfInBounds_toArray, List.set_cons_zero, List.set_cons_succ]
          refine wpAnyH_take (i := 2) (oi := ⟨some 20, _, _, _, _, _⟩) (v := .bool false) rfl (by kernel_rfl) (by kernel_rfl) (by kernel_rfl) (fun _ _ _ h => h) (.inl ⟨by rfl, fun w' hSw => ?_⟩) hHeld ?_
          focus (skip; clear hHeld; go_simp)
          try simp only [Act.put, List.setIfInBounds_toArray, List.set_cons_zero, List.set_cons_succ]
          refine wpAnyH_take (i := 3) (oi := ⟨some 21, _, _, _, _, _⟩) (v := .bool false) rfl (by kernel_rfl) (by kernel_rfl) (by kernel_rfl) (fun _ _ _ h => h) (.inl ⟨by rfl, fun w' hSw => ?_⟩) hHeld ?_
          focus (skip; clear hHeld; go_simp)
          try simp only [Act.put, List.setIfInBounds_toArray, List.set_cons_zero, List.set_cons_succ]
          refine wpAnyH_take (i := 4) (oi := ⟨some 22, _, _, _, _, _⟩) (v := undef) rfl (by kernel_rfl) (by kernel_rfl) (by kernel_rfl) (fun _ _ _ h => h) (.inr ⟨by rfl, rfl⟩) hHeld ?_
          try simp only [Act.put, List.setIfInBounds_toArray, List.set_cons_zero, List.set_cons_succ]
          refine wpAnyH_take (i := 5) (oi := ⟨some 23, _, _, _, _, _⟩) (v := undef) rfl (by kernel_rfl) (by kernel_rfl) (by kernel_rfl) (fun _ _ _ h => h) (.inr ⟨by rfl, rfl⟩) hHeld ?_
          try simp only [Act.put, List.setIfInBounds_toArray, List.set_cons_zero, List.set_cons_succ]
          refine wpAnyH_take (i := 6) (oi := ⟨some 24, _, _, _, _, _⟩) (v := undef) rfl (by kernel_rfl) (by kernel_rfl) (by kernel_rfl) (fun _ _ _ h => h) (.inr ⟨by rfl, rfl⟩) hHeld ?_
          try simp only [Act.put, List.setIfInBounds_toArray, List.set_cons_zero, List.set_cons_succ]
          refine wpAnyH_take (i := 7) (oi := ⟨some 25, _, _, _, _, _⟩) (v := undef) rfl (by kernel_rfl) (by kernel_rfl) (by kernel_rfl) (fun _ _ _ h => h) (.inr ⟨by rfl, rfl⟩) hHeld ?_
          try simp only [Act.put, List.setIfInBounds_toArray, List.set_cons_zero, List.set_cons_succ]
          refine wpAnyH_take (i := 8) (oi := ⟨some 26, _, _, _, _, _⟩) (v := undef) rfl (by kernel_rfl) (by kernel_rfl) (by kernel_rfl) (fun _ _ _ h => h) (.inr ⟨by rfl, rfl⟩) hHeld ?_
          try simp only [Act.put, List.setIfInBounds_toArray, List.set_cons_zero, List.set_cons_succ]
          refine wpAnyH_take (i := 9) (oi := ⟨some 27, _, _, _, _, _⟩) (v := undef) rfl (by kernel_rfl) (by kernel_rfl) (by kernel_rfl) (fun _ _ _ h => h) (.inr ⟨by rfl, rfl⟩) hHeld ?_
          try simp only [Act.put, List.setIfInBounds_toArray, List.set_cons_zero, List.set_cons_succ]
          refine wpAnyH_take (i := 10) (oi := ⟨some 28, _, _, _, _, _⟩) (v := undef) rfl (by kernel_rfl) (by kernel_rfl) (by kernel_rfl) (fun _ _ _ h => h) (.inr ⟨by rfl, rfl⟩) hHeld ?_
          try simp only [Act.put, List.setIfInBounds_toArray, List.set_cons_zero, List.set_cons_succ]
          refine wpAnyH_take (i := 11) (oi := ⟨some 29, _, _, _, _, _⟩) (v := undef) rfl (by kernel_rfl) (by kernel_rfl) (by kernel_rfl) (fun _ _ _ h => h) (.inr ⟨by rfl, rfl⟩) hHeld ?_
          try simp only [Act.put, List.setIfInBounds_toArray, List.set_cons_zero, List.set_cons_succ]
          refine wpAnyH_take (i := 12) (oi := ⟨some 30, _, _, _, _, _⟩) (v := undef) rfl (by kernel_rfl) (by kernel_rfl) (by kernel_rfl) (fun _ _ _ h => h) (.inr ⟨by rfl, rfl⟩) hHeld ?_
          try simp only [Act.put, List.setIfInBounds_toArray, List.set_cons_zero, List.set_cons_succ]
          refine wpAnyH_take (i := 13) (oi := ⟨some 31, _, _, _, _, _⟩) (v := undef) rfl (by kernel_rfl) (by kernel_rfl) (by kernel_rfl) (fun _ _ _ h => h) (.inr ⟨by rfl, rfl⟩) hHeld ?_
          try simp only [Act.put, List.setIfInBounds_toArray, List.set_cons_zero, List.set_cons_succ]
          refine wpAnyH_take (i := 14) (oi := ⟨some 32, _, _, _, _, _⟩) (v := undef) rfl (by kernel_rfl) (by kernel_rfl) (by kernel_rfl) (fun _ _ _ h => h) (.inr ⟨by rfl, rfl⟩) hHeld ?_
          try simp only [Act.put, List.setIfInBounds_toArray, List.set_cons_zero, List.set_cons_succ]
          refine wpAnyH_take (i := 15) (oi := ⟨some 33, _, _, _, _, _⟩) (v := undef) rfl (by kernel_rfl) (by kernel_rfl) (by kernel_rfl) (fun _ _ _ h => h) (.inr ⟨by rfl, rfl⟩) hHeld ?_
          try simp only [Act.put, List.setIfInBounds_toArray, List.set_cons_zero, List.set_cons_succ]
          refine wpAnyH_take (i := 16) (oi := ⟨some 34, _, _, _, _, _⟩) (v := .bool false) rfl (by kernel_rfl) (by kernel_rfl) (by kernel_rfl) (fun _ _ _ h => h) (.inl ⟨by rfl, fun w' hSw => ?_⟩) hHeld ?_
          focus (skip; clear hHeld; go_simp)
          try simp only [Act.put, List.setIfInBounds_toArray, List.set_cons_zero, List.set_cons_succ]
          refine wpAnyH_done (by kernel_rfl) ?_ _
          refine NoPanic.normal ?_
          go_wp2_with fail
          go_roundw
          case rel => exact .inr ⟨by go_num, HFd.out⟩
          case measure => simp [intOf]
    · go_wp2_with fail
      go_end0
      exact ⟨rfl, HF.out⟩
end Go.Proofs.YtdnmgemjhpkekaaGreat
