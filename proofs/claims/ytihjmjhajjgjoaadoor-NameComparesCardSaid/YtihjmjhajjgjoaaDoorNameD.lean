/-
  name.ParseAllowed, Object, Allowed.
-/
import Derived.Test.YtihjmjhajjgjoaaDoorNameC
namespace Go.Proofs.YtihjmjhajjgjoaaDoor
open Go.ChangeShapes Go.WideShapes Go.ChangeAt Go.RowKit
set_option linter.unusedVariables false

def hashA : ByteArray := ⟨#[35]⟩
def parseAll (s : ByteArray) : ByteArray × ByteArray × Nat × Nat :=
  if isName (cut3 s hashA).1 = false then (⟨#[]⟩, ⟨#[]⟩, 5, 0)
  else if (cut3 s hashA).2.2 = true ∧ isName (cut3 s hashA).2.1 = false then (⟨#[]⟩, ⟨#[]⟩, 5, (cut3 s hashA).1.size + 1)
  else ((cut3 s hashA).1, (cut3 s hashA).2.1, 0, 0)

set_option maxRecDepth 100000 in
set_option maxHeartbeats 1000000 in
theorem parseAll_any (s : ByteArray) (w : World) (h : Env w) (hs : s.size ≤ 1000000) : Calls Tryd.prog 20 #[.string s] w fun e w' =>
    e = .returned (.tuple #[.agg #[.string (parseAll s).1, .string (parseAll s).2.1], errOr (parseAll s).2.2.1 (parseAll s).2.2.2]) ∧ Below w.heap.size w w' := by
  have hb0 : Below w.heap.size w (w.alloc (.cells #[.string ⟨#[]⟩, .string ⟨#[]⟩] 34)) := (Below.refl w.heap.size w).alloc (Nat.le_refl _) _
  have he0 := h.below hb0
  obtain ⟨w0, hw0⟩ : ∃ w0, w0 = w.alloc (.cells #[.string ⟨#[]⟩, .string ⟨#[]⟩] 34) := ⟨_, rfl⟩
  have k0 : w0.heap[w.heap.size]? = some (.cells #[.string ⟨#[]⟩, .string ⟨#[]⟩] 34 (0, 0)) := by rw [hw0]; exact heap_alloc_new w _
  have z0 : w0.heap.size = w.heap.size + 1 := by rw [hw0]; simp
  rw [← hw0] at hb0 he0
  have HC := Lib.hid (cut_any s hashA w0 he0 hs)
  have HW := Lib.hid hw0
  have hsz := cut_size s hashA
  obtain ⟨a, b, f, hcut⟩ : ∃ a b f, cut3 s hashA = (a, b, f) := ⟨_, _, _, rfl⟩
  have HP : Hid (parseAll s = if isName a = false then (⟨#[]⟩, ⟨#[]⟩, 5, 0) else if f = true ∧ isName b = false then (⟨#[]⟩, ⟨#[]⟩, 5, a.size + 1) else (a, b, 0, 0)) := by
    show parseAll s = _; unfold parseAll; rw [hcut]
  rw [hcut] at hsz
  rw [hcut] at HC
  have K0 := Lib.hid k0
  have Z0 := Lib.hid z0
  have HE := Lib.hid he0
  have HB := Lib.hid hb0
  have hsa : a.size ≤ 1000000 := Nat.le_trans hsz hs
  clear hw0 k0 z0 he0 hb0 hcut hsz h
  go_enter Tryd.func20, Tryd.ntmps20
  go_wp2_with fail
  rw [← HW.out]
  refine HC.out.mono ?_
  rintro e w1 ⟨rfl, n1, rfl⟩
  have HE1 : Hid (Env (w0.drewN n1)) := HE.out
  have HB1 : Hid (Below w.heap.size w (w0.drewN n1)) := below_dr HB.out n1
  have K1 : Hid ((w0.drewN n1).heap[w.heap.size]? = some (.cells #[.string ⟨#[]⟩, .string ⟨#[]⟩] 34 (0, 0))) := K0.out
  have Z1 : Hid ((w0.drewN n1).heap.size = w.heap.size + 1) := Z0.out
  obtain ⟨w1, hw1⟩ : ∃ w1, w1 = w0.drewN n1 := ⟨_, rfl⟩
  rw [← hw1] at HE1 HB1 K1 Z1 ⊢
  clear hw1 HE HB K0 Z0 HC HW
  go_wp2_with fail
  refine (isName_any a _ HE1.out.1).mono ?_
  rintro e w2 ⟨rfl, b2⟩
  have HE2 := Lib.hid (HE1.out.below b2)
  have HB2 := Lib.hid (HB1.out.trans (b2.mono HB1.out.size))
  have K2 : Hid (w2.heap[w.heap.size]? = some (.cells #[.string ⟨#[]⟩, .string ⟨#[]⟩] 34 (0, 0))) := (b2.block w.heap.size (by have := Z1.out; omega)).trans K1.out
  have Z2 : Hid (w.heap.size < w2.heap.size) := by have h1 := b2.size; have h2 := Z1.out; show _ < _; omega
  clear b2 HE1 HB1 K1 Z1
  cases hna : isName a with
  | false =>
    have HR : Hid (parseAll s = (⟨#[]⟩, ⟨#[]⟩, 5, 0)) := by show _ = _; rw [HP.out, hna]; rfl
    clear hna
    have c0 : w2.cell? ⟨w.heap.size, 0, none⟩ = some (.string ⟨#[]⟩) := cell_of_row _ _ 0 _ _ _ K2.out
    have c1 : w2.cell? ⟨w.heap.size, 1, none⟩ = some (.string ⟨#[]⟩) := cell_of_row _ _ 1 _ _ _ K2.out
    have f0 : w2.frozen? ⟨w.heap.size, 0, none⟩ = false := frozen_of_row _ _ 0 _ _ K2.out
    have f1 : w2.frozen? ⟨w.heap.size, 1, none⟩ = false := frozen_of_row _ _ 1 _ _ K2.out
    have f2 : (w2.setCell ⟨w.heap.size, 0, none⟩ (.string ⟨#[]⟩)).frozen? ⟨w.heap.size, 1, none⟩ = false := by rw [World.frozen?_setCell]; exact f1
    go_wp2_with fail
    refine (new_any 5 0 _).mono ?_
    rintro e w3 ⟨rfl, rfl⟩
    go_wp2_with fail
    obtain ⟨q0, q1⟩ := set2 K2.out (.string ⟨#[]⟩) (.string ⟨#[]⟩)
    have B2 := below_set2 HB2.out (Nat.le_refl _) (.string ⟨#[]⟩) (.string ⟨#[]⟩)
    generalize ((w2.setCell ⟨w.heap.size, 0, none⟩ (.string ⟨#[]⟩)).setCell ⟨w.heap.size, 1, none⟩ (.string ⟨#[]⟩)) = W at *
    refine bodyPost_ret (v := .tuple #[.agg #[.string ⟨#[]⟩, .string ⟨#[]⟩], errV 5 0]) ?_ rfl ⟨by rw [HR.out]; rfl, B2⟩
    simp [results, Tryd.results20, go_sem]
    simp only [q0, q1, Result.andThen]
  | true =>
    have HNA := Lib.hid hna
    clear hna
    cases f with
    | true =>
      go_wp2_with fail
      refine (isName_any b _ HE2.out.1).mono ?_
      rintro e w3 ⟨rfl, b3⟩
      have HB3 := Lib.hid (HB2.out.trans (b3.mono HB2.out.size))
      have K3 : Hid (w3.heap[w.heap.size]? = some (.cells #[.string ⟨#[]⟩, .string ⟨#[]⟩] 34 (0, 0))) := (b3.block w.heap.size Z2.out).trans K2.out
      clear b3 HE2 HB2 K2 Z2
      cases hib : isName b with
      | false =>
        have HR : Hid (parseAll s = (⟨#[]⟩, ⟨#[]⟩, 5, a.size + 1)) := by show _ = _; rw [HP.out, hib, HNA.out]; rfl
        clear hib
        have hsa' : (a.size : Int) ≤ 1000000 := by omega
        have c0 : w3.cell? ⟨w.heap.size, 0, none⟩ = some (.string ⟨#[]⟩) := cell_of_row _ _ 0 _ _ _ K3.out
        have c1 : w3.cell? ⟨w.heap.size, 1, none⟩ = some (.string ⟨#[]⟩) := cell_of_row _ _ 1 _ _ _ K3.out
        have f0 : w3.frozen? ⟨w.heap.size, 0, none⟩ = false := frozen_of_row _ _ 0 _ _ K3.out
        have f1 : w3.frozen? ⟨w.heap.size, 1, none⟩ = false := frozen_of_row _ _ 1 _ _ K3.out
        have f2 : (w3.setCell ⟨w.heap.size, 0, none⟩ (.string ⟨#[]⟩)).frozen? ⟨w.heap.size, 1, none⟩ = false := by rw [World.frozen?_setCell]; exact f1
        go_wp2_with fail
        refine (new_any 5 _ _).mono ?_
        rintro e w4 ⟨rfl, rfl⟩
        go_wp2_with fail
        obtain ⟨q0, q1⟩ := set2 K3.out (.string ⟨#[]⟩) (.string ⟨#[]⟩)
        have B2 := below_set2 HB3.out (Nat.le_refl _) (.string ⟨#[]⟩) (.string ⟨#[]⟩)
        generalize ((w3.setCell ⟨w.heap.size, 0, none⟩ (.string ⟨#[]⟩)).setCell ⟨w.heap.size, 1, none⟩ (.string ⟨#[]⟩)) = W at *
        refine bodyPost_ret (v := .tuple #[.agg #[.string ⟨#[]⟩, .string ⟨#[]⟩], errV 5 ((a.size : Int) + 1)]) ?_ rfl ⟨by rw [HR.out]; rfl, B2⟩
        simp [results, Tryd.results20, go_sem]
        simp only [q0, q1, Result.andThen]
      | true =>
        have HR : Hid (parseAll s = (a, b, 0, 0)) := by show _ = _; rw [HP.out, hib, HNA.out]; rfl
        clear hib
        have c0 : w3.cell? ⟨w.heap.size, 0, none⟩ = some (.string ⟨#[]⟩) := cell_of_row _ _ 0 _ _ _ K3.out
        have c1 : w3.cell? ⟨w.heap.size, 1, none⟩ = some (.string ⟨#[]⟩) := cell_of_row _ _ 1 _ _ _ K3.out
        have f0 : w3.frozen? ⟨w.heap.size, 0, none⟩ = false := frozen_of_row _ _ 0 _ _ K3.out
        have f1 : w3.frozen? ⟨w.heap.size, 1, none⟩ = false := frozen_of_row _ _ 1 _ _ K3.out
        have f2 : (w3.setCell ⟨w.heap.size, 0, none⟩ (.string a)).frozen? ⟨w.heap.size, 1, none⟩ = false := by rw [World.frozen?_setCell]; exact f1
        go_wp2_with fail
        obtain ⟨q0, q1⟩ := set2 K3.out (.string a) (.string b)
        have B2 := below_set2 HB3.out (Nat.le_refl _) (.string a) (.string b)
        generalize ((w3.setCell ⟨w.heap.size, 0, none⟩ (.string a)).setCell ⟨w.heap.size, 1, none⟩ (.string b)) = W at *
        refine bodyPost_ret (v := .tuple #[.agg #[.string a, .string b], .nilIface]) ?_ rfl ⟨by rw [HR.out]; rfl, B2⟩
        simp [results, Tryd.results20, go_sem]
        simp only [q0, q1, Result.andThen]
    | false =>
      have HR : Hid (parseAll s = (a, b, 0, 0)) := by show _ = _; rw [HP.out, HNA.out]; rfl
      have c0 : w2.cell? ⟨w.heap.size, 0, none⟩ = some (.string ⟨#[]⟩) := cell_of_row _ _ 0 _ _ _ K2.out
      have c1 : w2.cell? ⟨w.heap.size, 1, none⟩ = some (.string ⟨#[]⟩) := cell_of_row _ _ 1 _ _ _ K2.out
      have f0 : w2.frozen? ⟨w.heap.size, 0, none⟩ = false := frozen_of_row _ _ 0 _ _ K2.out
      have f1 : w2.frozen? ⟨w.heap.size, 1, none⟩ = false := frozen_of_row _ _ 1 _ _ K2.out
      have f2 : (w2.setCell ⟨w.heap.size, 0, none⟩ (.string a)).frozen? ⟨w.heap.size, 1, none⟩ = false := by rw [World.frozen?_setCell]; exact f1
      go_wp2_with fail
      obtain ⟨q0, q1⟩ := set2 K2.out (.string a) (.string b)
      have B2 := below_set2 HB2.out (Nat.le_refl _) (.string a) (.string b)
      generalize ((w2.setCell ⟨w.heap.size, 0, none⟩ (.string a)).setCell ⟨w.heap.size, 1, none⟩ (.string b)) = W at *
      refine bodyPost_ret (v := .tuple #[.agg #[.string a, .string b], .nilIface]) ?_ rfl ⟨by rw [HR.out]; rfl, B2⟩
      simp [results, Tryd.results20, go_sem]
      simp only [q0, q1, Result.andThen]

/-- The text of two parts with a sign between them. -/
def objS (t i : ByteArray) : ByteArray := if isName t = true ∧ isId i = true then t ++ ⟨#[58]⟩ ++ i else ⟨#[]⟩
def objB (t i : ByteArray) : Bool := isName t && isId i
def allS (t r : ByteArray) : ByteArray := if isName t = true ∧ r = ⟨#[]⟩ then t else if isName t = true ∧ isName r = true then t ++ ⟨#[35]⟩ ++ r else ⟨#[]⟩
def allB (t r : ByteArray) : Bool := isName t && (decide (r = ⟨#[]⟩) || isName r)

set_option maxRecDepth 100000 in
theorem object_any (t i : ByteArray) (w : World) (h : Env w) (ht : t.size ≤ 1000000) (hi : i.size ≤ 1000000) : Calls Tryd.prog 15 #[.agg #[.string t, .string i]] w fun e w' =>
    e = .returned (.tuple #[.string (objS t i), .bool (objB t i)]) ∧ Below w.heap.size w w' := by
  have hb0 : Below w.heap.size w (w.alloc (.cells #[.string t, .string i] 25)) := (Below.refl w.heap.size w).alloc (Nat.le_refl _) _
  have HE := Lib.hid (h.below hb0)
  have HB := Lib.hid hb0
  have g1 : (t.size : Int) ≤ 1000000 := by omega
  have g2 : (i.size : Int) ≤ 1000000 := by omega
  clear h hb0
  go_enter Tryd.func15, Tryd.ntmps15
  go_wp2_with fail
  refine (isName_any t _ HE.out.1).mono ?_
  rintro e w1 ⟨rfl, b1⟩
  have k1 : w1.heap[w.heap.size]? = some (.cells #[.string t, .string i] 25 (0, 0)) := (b1.block w.heap.size (by simp)).trans (heap_alloc_new w _)
  have HB1 := Lib.hid (HB.out.trans (b1.mono HB.out.size))
  have c0 : w1.cell? ⟨w.heap.size, 0, none⟩ = some (.string t) := cell_of_row _ _ 0 _ _ _ k1
  have c1 : w1.cell? ⟨w.heap.size, 1, none⟩ = some (.string i) := cell_of_row _ _ 1 _ _ _ k1
  have K1 := Lib.hid k1
  have Z1 : Hid (w.heap.size < w1.heap.size) := Nat.lt_of_lt_of_le (by simp) b1.size
  clear b1 k1 HE HB
  cases hn : isName t with
  | false =>
    have HR : Hid (objS t i = ⟨#[]⟩ ∧ objB t i = false) := by constructor <;> simp [objS, objB, hn]
    clear hn
    go_wp2_with fail
    go_ret2
    exact ⟨by rw [HR.out.1, HR.out.2]; rfl, HB1.out⟩
  | true =>
    have HN := Lib.hid hn
    clear hn
    go_wp2_with fail
    refine (isId_any i _).mono ?_
    rintro e w2 ⟨rfl, b2⟩
    have k2 := (b2.block w.heap.size Z1.out).trans K1.out
    have HB2 := Lib.hid (HB1.out.trans (b2.mono HB1.out.size))
    have d0 : w2.cell? ⟨w.heap.size, 0, none⟩ = some (.string t) := cell_of_row _ _ 0 _ _ _ k2
    have d1 : w2.cell? ⟨w.heap.size, 1, none⟩ = some (.string i) := cell_of_row _ _ 1 _ _ _ k2
    clear b2 k2 K1 HB1 Z1 c0 c1
    cases hid : isId i with
    | false =>
      have HR : Hid (objS t i = ⟨#[]⟩ ∧ objB t i = false) := by constructor <;> simp [objS, objB, hid]
      clear hid
      go_wp2_with fail
      go_ret2
      exact ⟨by rw [HR.out.1, HR.out.2]; rfl, HB2.out⟩
    | true =>
      have HR : Hid (objS t i = t ++ ⟨#[58]⟩ ++ i ∧ objB t i = true) := by constructor <;> simp [objS, objB, hid, HN.out]
      clear hid
      go_wp2_with fail
      go_ret2
      exact ⟨by rw [HR.out.1, HR.out.2]; rfl, HB2.out⟩

set_option maxRecDepth 100000 in
theorem allowed_any (t r : ByteArray) (w : World) (h : Env w) (ht : t.size ≤ 1000000) (hr : r.size ≤ 1000000) : Calls Tryd.prog 18 #[.agg #[.string t, .string r]] w fun e w' =>
    e = .returned (.tuple #[.string (allS t r), .bool (allB t r)]) ∧ Below w.heap.size w w' := by
  have hb0 : Below w.heap.size w (w.alloc (.cells #[.string t, .string r] 34)) := (Below.refl w.heap.size w).alloc (Nat.le_refl _) _
  have HE := Lib.hid (h.below hb0)
  have HB := Lib.hid hb0
  have g1 : (t.size : Int) ≤ 1000000 := by omega
  have g2 : (r.size : Int) ≤ 1000000 := by omega
  clear h hb0
  go_enter Tryd.func18, Tryd.ntmps18
  go_wp2_with fail
  refine (isName_any t _ HE.out.1).mono ?_
  rintro e w1 ⟨rfl, b1⟩
  have k1 : w1.heap[w.heap.size]? = some (.cells #[.string t, .string r] 34 (0, 0)) := (b1.block w.heap.size (by simp)).trans (heap_alloc_new w _)
  have HB1 := Lib.hid (HB.out.trans (b1.mono HB.out.size))
  have HE1 := Lib.hid (HE.out.below b1)
  have c0 : w1.cell? ⟨w.heap.size, 0, none⟩ = some (.string t) := cell_of_row _ _ 0 _ _ _ k1
  have c1 : w1.cell? ⟨w.heap.size, 1, none⟩ = some (.string r) := cell_of_row _ _ 1 _ _ _ k1
  have K1 := Lib.hid k1
  have Z1 : Hid (w.heap.size < w1.heap.size) := Nat.lt_of_lt_of_le (by simp) b1.size
  clear b1 k1 HE HB
  cases hn : isName t with
  | false =>
    have HR : Hid (allS t r = ⟨#[]⟩ ∧ allB t r = false) := by constructor <;> simp [allS, allB, hn]
    clear hn
    go_wp2_with fail
    go_ret2
    exact ⟨by rw [HR.out.1, HR.out.2]; rfl, HB1.out⟩
  | true =>
    have HN := Lib.hid hn
    clear hn
    by_cases hz : r = ⟨#[]⟩
    · have HR : Hid (allS t r = t ∧ allB t r = true) := by constructor <;> simp [allS, allB, hz, HN.out]
      subst hz
      go_wp2_with fail
      go_ret2
      exact ⟨by rw [HR.out.1, HR.out.2]; rfl, HB1.out⟩
    · have hne : ¬ r.toList = [] := by
        intro e
        rw [toList_data] at e
        exact hz (bytes_inj e)
      have hne2 : r.toList.isEmpty = false := by
        cases h : r.toList with
        | nil => exact absurd h hne
        | cons a b => rfl
      have HZ : Hid (¬ r = ⟨#[]⟩) := hz
      clear hz
      go_wp2_with fail
      refine (isName_any r _ HE1.out.1).mono ?_
      rintro e w2 ⟨rfl, b2⟩
      have k2 := (b2.block w.heap.size Z1.out).trans K1.out
      have HB2 := Lib.hid (HB1.out.trans (b2.mono HB1.out.size))
      have d0 : w2.cell? ⟨w.heap.size, 0, none⟩ = some (.string t) := cell_of_row _ _ 0 _ _ _ k2
      have d1 : w2.cell? ⟨w.heap.size, 1, none⟩ = some (.string r) := cell_of_row _ _ 1 _ _ _ k2
      clear b2 k2 K1 HB1 Z1 c0 c1
      cases hid : isName r with
      | false =>
        have HR : Hid (allS t r = ⟨#[]⟩ ∧ allB t r = false) := by constructor <;> simp [allS, allB, hid, HZ.out]
        clear hid
        go_wp2_with fail
        go_ret2
        exact ⟨by rw [HR.out.1, HR.out.2]; rfl, HB2.out⟩
      | true =>
        have HR : Hid (allS t r = t ++ ⟨#[35]⟩ ++ r ∧ allB t r = true) := by constructor <;> simp [allS, allB, hid, HN.out, HZ.out]
        clear hid
        go_wp2_with fail
        go_ret2
        exact ⟨by rw [HR.out.1, HR.out.2]; rfl, HB2.out⟩
end Go.Proofs.YtihjmjhajjgjoaaDoor
