/-
  vestrylaw23.MergeMatchesReference.
-/
import Derived.Test.YtebbbiikphfjcaaMgV
namespace Go.Proofs.Ytebbbiikphfjcaa
open Go.ChangeShapes Go.WideShapes Go.ChangeAt Go.RowKit
set_option linter.unusedVariables false

theorem TwoR.fresh {B : Nat} {w : World} {v3 v4 u : Value} {all : List Tu} {vs : List Value} {ls : List (List Tu)} (h : TwoR B w v3 v4 all vs ls) (hf : FreshB w.heap.size u) : Apt u v3 ∧ Apt u v4 :=
  ⟨fun k h1 h2 => absurd (hf k h1) (by have := (h.r3.lt k h2).2; omega), fun k h1 h2 => absurd (hf k h1) (by have := (h.r4.lt k h2).2; omega)⟩
theorem TwoR.rev {B : Nat} {w : World} {v3 v4 vx : Value} {all lx : List Tu} {vs : List Value} {ls : List (List Tu)} (h : TwoR B w v3 v4 all vs ls) (hx : TuSl w vx lx) (ha : Apt vx v4) : RevR B w v4 vs ls vx lx := ⟨h.r4, fun j u hj => ⟨(h.el j u hj).1, (h.el j u hj).2.2⟩, hx, ha⟩
theorem RevR.below {B : Nat} {w w' : World} {v4 vx : Value} {lx : List Tu} {vs : List Value} {ls : List (List Tu)} (h : RevR B w v4 vs ls vx lx) (hb : Below w.heap.size w w') : RevR B w' v4 vs ls vx lx := h.later hb
/-- A list of tuples among others: its value, and what it reads as. -/
abbrev Vl := Value × List Tu
def c1 (x : Vl) : List Value := [x.1]
theorem c1_length (x : Vl) : (c1 x).length = 1 := rfl
/-- What the first loop has made of the first i lists. -/
structure LInv (A : List Vl) (i : Nat) (ls : List (List Tu)) (all : List Tu) : Prop where
  e1 : ls = (A.take i).map fun x => sortedT x.2
  e2 : all = ((A.take i).map Prod.snd).flatten
  sm : ∀ x ∈ A.take i, (∀ t ∈ x.2, sizesT t 1000000) ∧ x.2.length ≤ 60
section
variable {A : List Vl} {i : Nat} {ls : List (List Tu)} {all : List Tu}
theorem LInv.nil (A : List Vl) : LInv A 0 [] [] := ⟨by simp, by simp, fun x hx => by simp at hx⟩
theorem LInv.next (h : LInv A i ls all) (hi : i < A.length) {x : Vl} (hx : x = A[i]) (hz : ∀ t ∈ x.2, sizesT t 1000000) (hl : x.2.length ≤ 60) : LInv A (i + 1) (ls ++ [sortedT x.2]) (all ++ x.2) := by
  have e : A.take (i + 1) = A.take i ++ [x] := by rw [List.take_add_one, List.getElem?_eq_getElem hi, hx]; rfl
  refine ⟨by rw [e, List.map_append, h.e1]; rfl, by rw [e, List.map_append, List.flatten_append, h.e2]; simp, fun y hy => ?_⟩
  rw [e] at hy
  rcases List.mem_append.1 hy with h1 | h1
  · exact h.sm y h1
  · rw [List.mem_singleton] at h1
    subst h1
    exact ⟨hz, hl⟩
theorem flat60 : ∀ (l : List (List Tu)), (∀ x ∈ l, x.length ≤ 60) → l.flatten.length ≤ 60 * l.length
  | [], _ => by simp
  | a :: r, h => by
    have h1 := flat60 r fun x hx => h x (by simp [hx])
    have h2 := h a (by simp)
    simp only [List.flatten_cons, List.length_append, List.length_cons]
    omega
theorem LInv.few (h : LInv A i ls all) (hi : i ≤ A.length) (hA : A.length ≤ 10) : ls.length ≤ 10 ∧ all.length ≤ 600 := by
  have h1 : (A.take i).length ≤ 10 := by rw [List.length_take]; omega
  refine ⟨by rw [h.e1, List.length_map]; exact h1, ?_⟩
  rw [h.e2]
  have := flat60 ((A.take i).map Prod.snd) fun x hx => by
    obtain ⟨y, hy, rfl⟩ := List.mem_map.1 hx
    exact (h.sm y hy).2
  rw [List.length_map] at this
  omega
theorem LInv.sz (h : LInv A i ls all) : ∀ t ∈ all, sizesT t 1000000 := fun t ht => by
  rw [h.e2] at ht
  obtain ⟨l, hl, ht⟩ := List.mem_flatten.1 ht
  obtain ⟨y, hy, rfl⟩ := List.mem_map.1 hl
  exact (h.sm y hy).1 t ht
theorem LInv.ris (h : LInv A i ls all) : ∀ l ∈ ls, Ris l := fun l hl => by
  rw [h.e1] at hl
  obtain ⟨y, _, rfl⟩ := List.mem_map.1 hl
  exact sorted_ris _
theorem LInv.flat (h : LInv A i ls all) (hi : i ≤ A.length) (hA : A.length ≤ 10) : ls.flatten.length ≤ 600 := by
  have h1 := (h.few hi hA).1
  have := flat60 ls fun x hx => by
    rw [h.e1] at hx
    obtain ⟨y, hy, rfl⟩ := List.mem_map.1 hx
    exact Nat.le_trans (sorted_few _) (h.sm y hy).2
  omega
theorem LInv.eqA (h : LInv A i ls all) : sortedT ls.flatten = sortedT all := ris_ext (sorted_ris _) (sorted_ris _) fun x => by
  rw [sorted_mem, sorted_mem, h.e1, h.e2, List.mem_flatten, List.mem_flatten]
  constructor
  · rintro ⟨l, hl, hx⟩
    obtain ⟨y, hy, rfl⟩ := List.mem_map.1 hl
    exact ⟨y.2, List.mem_map.2 ⟨y, hy, rfl⟩, (sorted_mem _ _).1 hx⟩
  · rintro ⟨l, hl, hx⟩
    obtain ⟨y, hy, rfl⟩ := List.mem_map.1 hl
    exact ⟨sortedT y.2, List.mem_map.2 ⟨y, hy, rfl⟩, (sorted_mem _ _).2 hx⟩
theorem LInv.lenA (h : LInv A A.length ls all) : ls.length = A.length := by rw [h.e1, List.length_map, List.take_length]
theorem LInv.at (h : LInv A A.length ls all) : ∀ k, (hk : k < A.length) → ls.getD k [] = sortedT A[k].2 ∧ (∀ t ∈ A[k].2, sizesT t 1000000) ∧ A[k].2.length ≤ 60 := fun k hk => by
  refine ⟨?_, h.sm _ (by rw [List.take_length]; exact List.getElem_mem hk)⟩
  rw [h.e1, List.take_length, List.getD_eq_getElem?_getD, List.getElem?_map, List.getElem?_eq_getElem hk]
  rfl
end
set_option maxRecDepth 100000 in
set_option maxHeartbeats 4000000 in
theorem mmref_any {w : World} {v : Value} {A : List Vl} (h : RdS c1 w v A) (hR : ∀ x ∈ A, TuRd w x.1 x.2) (hz : ∀ x ∈ A, x.2.length ≤ 140737488355328 ∧ ∀ t ∈ x.2, sizesT t 140737488355328) :
    Calls Try.prog 3 #[v] w fun e w' => e = .returned (.bool true) ∧ Below w.heap.size w w' := by
  have HB0 := Lib.hid (Below.refl w.heap.size w)
  have HRX := Lib.hid hR
  have HZX := Lib.hid hz
  obtain ⟨p, cap, rfl, hrow⟩ := h.form c1_length (by decide)
  have HEL : Hid (∀ i, (hi : i < A.length) → ∃ b off, p = some ⟨b, off, none⟩ ∧ ∀ w', Below w.heap.size w w' → w'.cell? ⟨b, off + i, none⟩ = some A[i].1) := fun i hi => by
    obtain ⟨b, off, e, hb, hr⟩ := hrow i hi
    refine ⟨b, off, e, fun w' hw => ?_⟩
    have h0 := range_below hr hb hw 0 A[i].1 rfl
    rw [Nat.mul_one, Nat.add_zero] at h0
    exact h0
  clear h hR hz hrow
  go_enter Try.func3, Try.ntmps3
  have HC1 := Lib.hid (mawake_any w)
  go_wp2_with fail
  refine HC1.out.mono ?_
  rintro e w1 ⟨rfl, b1⟩
  clear HC1
  have HB1 := Lib.hid (HB0.out.trans ((b1).mono HB0.out.size))
  clear b1 HB0
  by_cases h10 : 10 < A.length
  · have h10i : (10 : Int) < (A.length : Int) := by omega
    have HC52 := Lib.hid (mawake_any w1)
    go_wp2_with fail
    refine HC52.out.mono ?_
    rintro e w52 ⟨rfl, b52⟩
    clear HC52
    have HB52 := Lib.hid (HB1.out.trans ((b52).mono HB1.out.size))
    clear b52 HB1
    go_wp2_with fail
    go_ret
    exact ⟨rfl, HB52.out⟩
  have LA : Hid (A.length ≤ 10) := by show _ ≤ _; omega
  have h10i : ¬ (10 : Int) < (A.length : Int) := by omega
  go_wp2_with fail
  go_loopg [3, 4, 5] A.length (fun gg s3 s4 s5 wr => ∃ (i : Nat) (vs : List Value) (ls : List (List Tu)) (all : List Tu), i ≤ A.length ∧ A.length - i ≤ gg ∧ s5 = .int .i64 i ∧ Below w.heap.size w wr ∧ TwoR w.heap.size wr s3 s4 all vs ls ∧ LInv A i ls all)
  case atStart => exact ⟨0, [], [], [], Nat.zero_le _, by omega, rfl, HB1.out, TwoR.nil _ _, LInv.nil A⟩
  case round =>
    obtain ⟨i, vs, ls, all, hi, hgi, rfl, hB, hT, hL⟩ := hrel
    have HB := Lib.hid hB
    have HT := Lib.hid hT
    have HL := Lib.hid hL
    clear hB hT hL HB1 h10 h10i
    by_cases hlt : i < A.length
    · obtain ⟨b, off, rfl, hel⟩ := HEL.out i hlt
      have hrx := HRX.out _ (List.getElem_mem hlt)
      have hzx := HZX.out _ (List.getElem_mem hlt)
      obtain ⟨⟨u, x⟩, hx⟩ : ∃ y, y = A[i] := ⟨_, rfl⟩
      rw [← hx] at hel hrx hzx
      dsimp only at hel hrx hzx
      have HX := Lib.hid hx
      have HEX := Lib.hid hel
      obtain ⟨pu, cu, rfl, _⟩ := hrx.form tc_length (by decide)
      have HRU := Lib.hid hrx
      have hw : wrap64 ((i : Int) + 1) = (i : Int) + 1 := by unfold wrap64; have := LA.out; omega
      have HFE := Lib.hid (few_any (HRU.out.below HB.out) hzx.2 hzx.1)
      have hc := HEX.out wr HB.out
      clear hx hel hrx hzx
      go_wp2_with fail
      refine HFE.out.mono ?_
      rintro e w1 ⟨rfl, b1⟩
      have HB1 := Lib.hid (HB.out.trans (b1.mono HB.out.size))
      have HT1 := Lib.hid (HT.out.later b1)
      clear b1 HFE HB HT hc
      rcases hf : fewT x with _ | _
      · go_wp2_with fail
        go_ret
        exact ⟨rfl, HB1.out⟩
      · have hf' := fewT_out hf
        have ZX : Hid (∀ t ∈ x, sizesT t 1000000) := fun t ht => (hf'.1 t ht).mono (by decide)
        have LX : Hid (x.length ≤ 60) := hf'.2
        clear hf hf'
        have HSO := Lib.hid (rsorted_fresh (HRU.out.below HB1.out) ZX.out (by have := LX.out; omega))
        have hc := HEX.out w1 HB1.out
        go_wp2_with fail
        refine HSO.out.mono ?_
        rintro e w2 ⟨v2, rfl, f2, b2, t2⟩
        obtain ⟨q2, n2, m2, rfl⟩ : ∃ q n m, v2 = .slice q n m := by obtain ⟨a, b, e, _⟩ := t2.src; exact ⟨_, _, _, e⟩
        have AP := Lib.hid (HT1.out.fresh f2)
        have HT2 := Lib.hid (HT1.out.later b2)
        have ba : Below w2.heap.size w2 (w2.alloc (.cells #[.slice q2 n2 m2] 24)) := (Below.refl _ _).alloc (Nat.le_refl _) _
        have HB2 := Lib.hid ((HB1.out.trans (b2.mono HB1.out.size)).trans (ba.mono (HB1.out.trans (b2.mono HB1.out.size)).size))
        have HTA := Lib.hid (HT2.out.later ba)
        have HUA := Lib.hid (t2.below ba)
        have HCA : Hid ((w2.alloc (.cells #[.slice q2 n2 m2] 24)).cell? ⟨w2.heap.size, 0, none⟩ = some (.slice q2 n2 m2)) := (Arr.new' w2 _ #[.slice q2 n2 m2] [.slice q2 n2 m2] rfl).cell 0
        have NI : Hid (ls.length ≤ 10 ∧ all.length ≤ 600) := HL.out.few hi LA.out
        clear b2 t2 f2 ba HSO HB1 HT1 HT2 hc
        go_wp2_with (first
          | (at_builtin; refine appLv rfl _ _ rfl (B := w.heap.size) (u := .slice q2 n2 m2) (l := sortedT x) rfl HTA.out rfl HCA.out HUA.out AP.out.1 AP.out.2 (by have := NI.out; omega) HB2.out.size ?_; intro v4 w3 h4 b3; have HT3 := Lib.hid h4; have HB3 := Lib.hid (HB2.out.trans b3); have hc3 := HEX.out w3 HB3.out; have HY3 := Lib.hid (HRU.out.below HB3.out); clear h4 b3)
          | (at_builtin; refine appTv rfl _ _ rfl (B := w.heap.size) (y := x) rfl HT3.out rfl HY3.out (by have := NI.out; have := LX.out; omega) HB3.out.size ?_; intro v3 w4 h5 b4))
        have HB4 := Lib.hid (HB3.out.trans b4)
        have HT4 := Lib.hid h5
        clear b4 h5 HT3 HTA HCA HUA hc3 HY3
        go_wp2_with fail
        go_roundg (A.length - (i + 1))
        case measure => omega
        case rel => exact ⟨i + 1, _, _, _, by omega, Nat.le_refl _, by go_num, HB4.out, HT4.out, HL.out.next hlt HX.out ZX.out LX.out⟩
    · have NI : Hid (ls.length ≤ 10 ∧ all.length ≤ 600) := HL.out.few hi LA.out
      have hiA : i = A.length := by omega
      subst hiA
      obtain ⟨p4, c4, hs4, _⟩ := (HT.out.rev (vx := .slice none 0 0) (lx := []) (.inl ⟨rfl, rfl⟩) (fun k hk => by cases hk)).lls
      subst hs4
      have LN : Hid (ls.length = A.length) := HL.out.lenA
      have EU : Hid (sortedT ls.flatten = sortedT all) := HL.out.eqA
      have RL : Hid (∀ l ∈ ls, Ris l) := HL.out.ris
      have FL : Hid (ls.flatten.length ≤ 600) := HL.out.flat hi LA.out
      have SZ : Hid (∀ t ∈ all, sizesT t 1000000) := HL.out.sz
      have AT : Hid (∀ k, (hk : k < A.length) → ls.getD k [] = sortedT A[k].2 ∧ (∀ t ∈ A[k].2, sizesT t 1000000) ∧ A[k].2.length ≤ 60) := HL.out.at
      clear HL hi hgi hlt
      have HSW := Lib.hid (rsorted_fresh (ownsRow_sl HT.out.r3).rd SZ.out (by have := NI.out; omega))
      go_wp2_with fail
      refine HSW.out.mono ?_
      rintro e w5 ⟨vx, rfl, f5, b5, t5⟩
      have HR5 : Hid (RevR w.heap.size w5 (.slice p4 ls.length c4) vs ls vx (sortedT all)) := (HT.out.later b5).rev t5 (HT.out.fresh f5).2
      have HB5 := Lib.hid (HB.out.trans (b5.mono HB.out.size))
      clear b5 t5 f5 HSW HT HB
      obtain ⟨want, hwant⟩ : ∃ z, z = sortedT all := ⟨_, rfl⟩
      rw [← hwant] at HR5 EU
      have NW : Hid (want.length ≤ 140737488355328) := by show _ ≤ _; rw [hwant]; exact Nat.le_trans (sorted_few all) (Nat.le_trans NI.out.2 (by decide))
      clear hwant SZ
      have HC101 := Lib.hid (union_any HR5.out.lls RL.out (by have := NI.out; omega) (by have := FL.out; omega))
      go_wp2_with fail
      refine HC101.out.mono ?_
      rintro e w101 ⟨v101, rfl, b101, t101⟩
      clear HC101
      have U_101 : Hid (TuSl w101 v101 want) := by rw [← EU.out]; exact t101
      have HB101 := Lib.hid (HB5.out.trans ((b101).mono HB5.out.size))
      have R_101 := Lib.hid (HR5.out.below (b101))
      clear b101 HB5 HR5
      clear t101
      have HC102 := Lib.hid (samel_any U_101.out.rd R_101.out.ex.1.rd NW.out NW.out)
      rw [same_self] at HC102
      go_wp2_with fail
      refine HC102.out.mono ?_
      rintro e w102 ⟨rfl, b102⟩
      clear HC102
      have HB102 := Lib.hid (HB101.out.trans ((b102).mono HB101.out.size))
      have R_102 := Lib.hid (R_101.out.below (b102))
      have U_102 := Lib.hid (U_101.out.below (b102))
      clear b102 HB101 R_101 U_101
      clear U_102
      go_wp2_with fail
      go_loopg [7] ls.length (fun gg s7 wr => ∃ k : Nat, k ≤ ls.length ∧ ls.length - k ≤ gg ∧ s7 = .int .i64 k ∧ Below w.heap.size w wr ∧ RevR w.heap.size wr (.slice p4 ls.length c4) vs ls vx want)
      case atStart => exact ⟨0, Nat.zero_le _, by omega, rfl, HB102.out, R_102.out⟩
      case round =>
        obtain ⟨k, hk, hgk, rfl, hB, hR⟩ := hrel
        have HBQ := Lib.hid hB
        have HRQ := Lib.hid hR
        clear hB hR HB102 R_102
        by_cases hlt : k < ls.length
        · have hkA : k < A.length := by have := LN.out; omega
          obtain ⟨b, off, rfl, hel⟩ := HEL.out k hkA
          obtain ⟨gr, c1, u2, e1, _, _, ci, _, ti⟩ := HRQ.out.at hlt
          simp only [Value.slice.injEq, true_and] at e1
          obtain ⟨rfl, rfl⟩ := e1
          obtain ⟨ea, hza, hla⟩ := AT.out k hkA
          rw [ea] at ti
          have hrx := HRX.out _ (List.getElem_mem hkA)
          obtain ⟨⟨u, x⟩, hx⟩ : ∃ y, y = A[k] := ⟨_, rfl⟩
          rw [← hx] at hel hrx hza hla ti
          dsimp only at hel hrx hza hla ti
          have HTU := Lib.hid ti
          have ZX := Lib.hid hza
          have LX := Lib.hid hla
          obtain ⟨pu, cu, rfl, _⟩ := hrx.form tc_length (by decide)
          have HRU := Lib.hid hrx
          have NX : Hid ((sortedT x).length ≤ 140737488355328) := Nat.le_trans (sorted_few x) (Nat.le_trans LX.out (by decide))
          have HC1 : Hid (∀ w', Below wr.heap.size wr w' → w'.cell? ⟨gr, k, none⟩ = some u2) := fun w' h => by
            rw [← ci]; exact World.cell?_of_block (h.block gr (World.block_lt_of_cell? wr ⟨gr, k, none⟩ ci))
          have HC2 : Hid (∀ w', Below wr.heap.size wr w' → w'.cell? ⟨b, off + k, none⟩ = some (.slice pu x.length cu)) := fun w' h => hel w' (HBQ.out.trans (h.mono HBQ.out.size))
          have hw : wrap64 ((k : Int) + 1) = (k : Int) + 1 := by unfold wrap64; have := NI.out; omega
          have hkAi : (k : Int) < (A.length : Int) := by omega
          clear hx hel hrx hza hla ti ea ci
          go_wp2_with fail
          refine wp_region_noPanic ?_
          refine wp_region_held_drew (S := Below wr.heap.size wr) (by kernel_rfl) ((Below.refl _ _).drew) (fun hHeld => ?_)
          try simp only [Act.put]
          generalize wr.drew = wd at hHeld ⊢
          refine wpAnyH_take (i := 0) (oi := ⟨some 55, _, _, _, _, _⟩) (v := .slice (some ⟨gr, 0, none⟩) ls.length c4) rfl (by kernel_rfl) (by kernel_rfl) (by kernel_rfl) (fun _ _ _ h => h) (.inl ⟨by rfl, fun w' hSw => ?_⟩) hHeld ?_
          focus (skip; clear hHeld; go_simp)
          try simp only [Act.put, List.setIfInBounds_toArray, List.set_cons_zero, List.set_cons_succ]
          refine wpAnyH_take (i := 1) (oi := ⟨some 56, _, _, _, _, _⟩) (v := .int .i64 k) rfl (by kernel_rfl) (by kernel_rfl) (by kernel_rfl) (fun _ _ _ h => h) (.inl ⟨by rfl, fun w' hSw => ?_⟩) hHeld ?_
          focus (skip; clear hHeld; go_simp)
          try simp only [Act.put, List.setIfInBounds_toArray, List.set_cons_zero, List.set_cons_succ]
          refine wpAnyH_take (i := 2) (oi := ⟨some 57, _, _, _, _, _⟩) (v := .pointer (some ⟨gr, k, none⟩)) rfl (by kernel_rfl) (by kernel_rfl) (by kernel_rfl) (fun _ _ _ h => h) (.inl ⟨by rfl, fun w' hSw => ?_⟩) hHeld ?_
          focus (skip; clear hHeld; go_simp)
          try simp only [Act.put, List.setIfInBounds_toArray, List.set_cons_zero, List.set_cons_succ]
          refine wpAnyH_take (i := 3) (oi := ⟨some 58, _, _, _, _, _⟩) (v := u2) rfl (by kernel_rfl) (by kernel_rfl) (by kernel_rfl) (fun _ _ _ h => h) (.inl ⟨by rfl, fun w' hSw => ?_⟩) hHeld ?_
          focus (have hq' := HC1.out w' hSw; clear hHeld; go_simp)
          try simp only [Act.put, List.setIfInBounds_toArray, List.set_cons_zero, List.set_cons_succ]
          refine wpAnyH_take (i := 4) (oi := ⟨some 59, _, _, _, _, _⟩) (v := .slice (some ⟨b, off, none⟩) A.length cap) rfl (by kernel_rfl) (by kernel_rfl) (by kernel_rfl) (fun _ _ _ h => h) (.inl ⟨by rfl, fun w' hSw => ?_⟩) hHeld ?_
          focus (skip; clear hHeld; go_simp)
          try simp only [Act.put, List.setIfInBounds_toArray, List.set_cons_zero, List.set_cons_succ]
          refine wpAnyH_take (i := 5) (oi := ⟨some 60, _, _, _, _, _⟩) (v := .int .i64 k) rfl (by kernel_rfl) (by kernel_rfl) (by kernel_rfl) (fun _ _ _ h => h) (.inl ⟨by rfl, fun w' hSw => ?_⟩) hHeld ?_
          focus (skip; clear hHeld; go_simp)
          try simp only [Act.put, List.setIfInBounds_toArray, List.set_cons_zero, List.set_cons_succ]
          refine wpAnyH_take (i := 6) (oi := ⟨some 61, _, _, _, _, _⟩) (v := .pointer (some ⟨b, off + k, none⟩)) rfl (by kernel_rfl) (by kernel_rfl) (by kernel_rfl) (fun _ _ _ h => h) (.inl ⟨by rfl, fun w' hSw => ?_⟩) hHeld ?_
          focus (skip; clear hHeld; go_simp)
          try simp only [Act.put, List.setIfInBounds_toArray, List.set_cons_zero, List.set_cons_succ]
          refine wpAnyH_take (i := 7) (oi := ⟨some 62, _, _, _, _, _⟩) (v := .slice pu x.length cu) rfl (by kernel_rfl) (by kernel_rfl) (by kernel_rfl) (fun _ _ _ h => h) (.inl ⟨by rfl, fun w' hSw => ?_⟩) hHeld ?_
          focus (have hq' := HC2.out w' hSw; clear hHeld; go_simp)
          try simp only [Act.put, List.setIfInBounds_toArray, List.set_cons_zero, List.set_cons_succ]
          refine wpAnyH_ready (rs := [8]) (by kernel_rfl) (by simp) ?_
          refine AllReadyH.cons (o := ⟨some 63, _, _, _, _, _⟩) rfl (fun K' hK' => ?_) AllReadyH.nil
          refine stepw_call (R := fun v w'' => TuSl w'' v (sortedT x) ∧ Below wr.heap.size wr w'') (by rfl) ?_ ((rsorted_any (HRU.out.below (HBQ.out.trans (hHeld.mono HBQ.out.size))) ZX.out (by have := LX.out; omega)).mono fun e w'' ⟨v', h1, b1, h3⟩ => ⟨v', h1, h3, hHeld.trans (b1.mono hHeld.size)⟩) ?_
          focus go_simp
          rintro v63 w63 ⟨h63, hkn⟩
          refine hK'.out _ _ hkn (fun _ => ?_)
          clear hK' K' hHeld
          have hHeld := hkn
          clear hkn
          try simp only [Act.put, List.setIfInBounds_toArray, List.set_cons_zero, List.set_cons_succ]
          refine wpAnyH_ready (rs := [9]) (by kernel_rfl) (by simp) ?_
          refine AllReadyH.cons (o := ⟨some 64, _, _, _, _, _⟩) rfl (fun K' hK' => ?_) AllReadyH.nil
          refine stepw_call (R := fun v w'' => v = .bool true ∧ Below wr.heap.size wr w'') (by rfl) ?_ ((samel_any ((HTU.out.below hHeld).rd) h63.rd NX.out NX.out).mono fun e w'' ⟨h1, b1⟩ => ⟨_, h1, by rw [same_self], hHeld.trans (b1.mono hHeld.size)⟩) ?_
          focus go_simp
          rintro v w64 ⟨rfl, hkn⟩
          refine hK'.out _ _ hkn (fun _ => ?_)
          clear hK' K' hHeld
          have hHeld := hkn
          clear hkn
          try simp only [Act.put, List.setIfInBounds_toArray, List.set_cons_zero, List.set_cons_succ]
          clear h63
          refine wpAnyH_take (i := 10) (oi := ⟨some 65, _, _, _, _, _⟩) (v := .bool false) rfl (by kernel_rfl) (by kernel_rfl) (by kernel_rfl) (fun _ _ _ h => h) (.inl ⟨by rfl, fun w' hSw => ?_⟩) hHeld ?_
          focus (skip; clear hHeld; go_simp)
          try simp only [Act.put, List.setIfInBounds_toArray, List.set_cons_zero, List.set_cons_succ]
          refine wpAnyH_done (by kernel_rfl) ?_ _
          refine NoPanic.normal ?_
          have HBZ := Lib.hid (HBQ.out.trans (hHeld.mono HBQ.out.size))
          have HRZ := Lib.hid (HRQ.out.later hHeld)
          clear hHeld HC1 HC2
          go_wp2_with fail
          go_roundg (ls.length - (k + 1))
          case measure => omega
          case rel => exact ⟨k + 1, by omega, Nat.le_refl _, by go_num, HBZ.out, HRZ.out⟩
        · clear hk hgk
          have HREV := Lib.hid (rev_any HRQ.out (by have := NI.out; omega) HBQ.out.size)
          go_wp2_with fail
          refine HREV.out.mono ?_
          rintro e w6 ⟨rfl, b6, vs', ls', hr6, hpm⟩
          have HR6 := Lib.hid hr6
          have HB6 := Lib.hid (HBQ.out.trans b6)
          have HU6 := Lib.hid (union_any hr6.lls (fun l hl => RL.out l ((hpm.mem_iff).1 hl)) (by have := hpm.length_eq; have := NI.out; omega) (by have := hpm.flatten.length_eq; have := FL.out; omega))
          have EU6 : Hid (sortedT ls'.flatten = want) := by
            show _ = _
            rw [← EU.out]
            exact ris_ext (sorted_ris _) (sorted_ris _) fun x => by rw [sorted_mem, sorted_mem]; exact hpm.flatten.mem_iff
          clear b6 hr6 hpm HREV HRQ HBQ
          go_wp2_with fail
          refine HU6.out.mono ?_
          rintro e w7 ⟨v7, rfl, b7, t7⟩
          rw [EU6.out] at t7
          have HB7 := Lib.hid (HB6.out.trans (b7.mono HB6.out.size))
          have HSM := Lib.hid (samel_any t7.rd (HR6.out.ex.1.below b7).rd NW.out NW.out)
          rw [same_self] at HSM
          clear b7 t7 HU6 HR6 HB6 EU6
          go_wp2_with fail
          refine HSM.out.mono ?_
          rintro e w8 ⟨rfl, b8⟩
          have HB8 := Lib.hid (HB7.out.trans (b8.mono HB7.out.size))
          clear b8 HSM HB7
          go_wp2_with fail
          go_ret
          exact ⟨rfl, HB8.out⟩
end Go.Proofs.Ytebbbiikphfjcaa
