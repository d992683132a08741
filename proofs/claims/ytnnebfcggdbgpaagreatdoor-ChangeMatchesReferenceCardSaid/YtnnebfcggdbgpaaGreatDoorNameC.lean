/-
  fault.New, name.Object, ParseObject, Allowed, ParseAllowed.
-/
import Derived.Test.YtnnebfcggdbgpaaGreatDoorNameB
import Derived.Test.YtnnebfcggdbgpaaGreatDoorErrFind
namespace Go.Proofs.YtnnebfcggdbgpaaGreatDoor
open Go.ChangeShapes Go.WideShapes Go.ChangeAt Go.RowKit
set_option linter.unusedVariables false

def errW8 (c n : Int) : Value := .iface 141 (.agg #[.int .i64 c, .int .i64 n])
/-- What the package-level variables that the calls read hold. -/
def Env (w : World) : Prop := ResT w ∧ errAs.ErrT w ∧ ∃ m, w.cell? ⟨1, 0, none⟩ = some (.int .i64 m)
theorem Env.below {w w' : World} (h : Env w) (hb : Below w.heap.size w w') : Env w' := by
  obtain ⟨h1, h2, m, h3⟩ := h
  have l3 : 1 < w.heap.size := errAs.cell_lt h3
  exact ⟨h1.below hb h1.lt, h2.below hb h2.lt, m, (hb.cell (by exact l3)).trans h3⟩

set_option maxRecDepth 100000 in
theorem fnew8_any (c n : Int) (w : World) : Calls Tryz.prog 62 #[.int .i64 c, .int .i64 n] w fun e w' => e = .returned (errW8 c n) ∧ w = w' := by
  go_enter Tryz.func62, Tryz.ntmps62
  go_wp2_with fail
  go_ret
  exact ⟨rfl, rfl⟩

def bstr (l : List UInt8) : ByteArray := ⟨l.toArray⟩
theorem bstr_data (l : List UInt8) : (bstr l).data.toList = l := rfl
theorem bstr_back (s : ByteArray) : bstr s.data.toList = s := rfl
def colonA : ByteArray := ⟨#[58]⟩
def cut3 (s sep : ByteArray) : ByteArray × ByteArray × Bool := (bstr (Lib.cut s.data.toList sep.data.toList).1, bstr (Lib.cut s.data.toList sep.data.toList).2.1, (Lib.cut s.data.toList sep.data.toList).2.2)
theorem cut_any (s sep : ByteArray) (w : World) (h : Env w) (hs : s.size ≤ 1000000) : Calls Tryz.prog 61 #[.string s, .string sep] w fun e w' => e = .returned (.tuple #[.string (cut3 s sep).1, .string (cut3 s sep).2.1, .bool (cut3 s sep).2.2]) ∧ ∃ n, w' = w.drewN n := by
  obtain ⟨_, _, m, hm⟩ := h
  exact Tryz.strings_Cut s sep m w (by omega) hm

def parseObj (s : ByteArray) : ByteArray × ByteArray × Nat × Nat :=
  if (cut3 s colonA).2.2 = false ∨ isName (cut3 s colonA).1 = false then (⟨#[]⟩, ⟨#[]⟩, 5, 0)
  else if isId (cut3 s colonA).2.1 = false then (⟨#[]⟩, ⟨#[]⟩, 5, (cut3 s colonA).1.size + 1)
  else ((cut3 s colonA).1, (cut3 s colonA).2.1, 0, 0)
def errOr (c n : Nat) : Value := if c = 0 then .nilIface else errW8 c n
theorem below_dr {B : Nat} {w w' : World} (h : Below B w w') (n : Nat) : Below B w (w'.drewN n) := ⟨h.os, h.tape, h.output, h.size, h.block⟩

theorem set2 {w1 : World} {b : Nat} {u0 u1 : Value} {t : TypeId} (K : w1.heap[b]? = some (.cells #[u0, u1] t (0, 0))) (x y : Value) :
    ((w1.setCell ⟨b, 0, none⟩ x).setCell ⟨b, 1, none⟩ y).cell? ⟨b, 0, none⟩ = some x ∧ ((w1.setCell ⟨b, 0, none⟩ x).setCell ⟨b, 1, none⟩ y).cell? ⟨b, 1, none⟩ = some y := by
  have c0 : w1.cell? ⟨b, 0, none⟩ = some u0 := cell_of_row _ _ 0 _ _ _ K
  have c1 : w1.cell? ⟨b, 1, none⟩ = some u1 := cell_of_row _ _ 1 _ _ _ K
  constructor
  · rw [World.cell?_setCell_other _ ⟨b, 1, none⟩ ⟨b, 0, none⟩ _ (fun e => by injection e with _ e _; omega)]
    exact World.cell?_setCell_same _ _ _ c0
  · exact World.cell?_setCell_same _ _ _ ((World.cell?_setCell_other _ ⟨b, 0, none⟩ ⟨b, 1, none⟩ _ (fun e => by injection e with _ e _; omega)).trans c1)
theorem below_set2 {w w1 : World} {B b : Nat} (h : Below B w w1) (hb : B ≤ b) (x y : Value) : Below B w ((w1.setCell ⟨b, 0, none⟩ x).setCell ⟨b, 1, none⟩ y) := (h.setCell hb _).setCell hb _

theorem cut_size (s sep : ByteArray) : (cut3 s sep).1.size ≤ s.size := by
  have hs : s.data.toList.length = s.size := by rw [Array.length_toList]; rfl
  show (Lib.cut s.data.toList sep.data.toList).1.toArray.size ≤ s.size
  rw [List.size_toArray]
  unfold Lib.cut
  split
  · rw [List.length_take]; omega
  · rw [hs]; exact Nat.le_refl _

set_option maxRecDepth 100000 in
set_option maxHeartbeats 1000000 in
theorem parseObj_any (s : ByteArray) (w : World) (h : Env w) (hs : s.size ≤ 1000000) : Calls Tryz.prog 63 #[.string s] w fun e w' =>
    e = .returned (.tuple #[.agg #[.string (parseObj s).1, .string (parseObj s).2.1], errOr (parseObj s).2.2.1 (parseObj s).2.2.2]) ∧ Below w.heap.size w w' := by
  have hb0 : Below w.heap.size w (w.alloc (.cells #[.string ⟨#[]⟩, .string ⟨#[]⟩] 23)) := (Below.refl w.heap.size w).alloc (Nat.le_refl _) _
  have he0 := h.below hb0
  obtain ⟨w0, hw0⟩ : ∃ w0, w0 = w.alloc (.cells #[.string ⟨#[]⟩, .string ⟨#[]⟩] 23) := ⟨_, rfl⟩
  have k0 : w0.heap[w.heap.size]? = some (.cells #[.string ⟨#[]⟩, .string ⟨#[]⟩] 23 (0, 0)) := by rw [hw0]; exact heap_alloc_new w _
  have z0 : w0.heap.size = w.heap.size + 1 := by rw [hw0]; simp
  rw [← hw0] at hb0 he0
  have HC := Lib.hid (cut_any s colonA w0 he0 hs)
  have HW := Lib.hid hw0
  have hsz := cut_size s colonA
  obtain ⟨a, b, f, hcut⟩ : ∃ a b f, cut3 s colonA = (a, b, f) := ⟨_, _, _, rfl⟩
  have HP : Hid (parseObj s = if f = false ∨ isName a = false then (⟨#[]⟩, ⟨#[]⟩, 5, 0) else if isId b = false then (⟨#[]⟩, ⟨#[]⟩, 5, a.size + 1) else (a, b, 0, 0)) := by
    show parseObj s = _; unfold parseObj; rw [hcut]
  rw [hcut] at hsz
  rw [hcut] at HC
  have K0 := Lib.hid k0
  have Z0 := Lib.hid z0
  have HE := Lib.hid he0
  have HB := Lib.hid hb0
  have hsa : a.size ≤ 1000000 := Nat.le_trans hsz hs
  clear hw0 k0 z0 he0 hb0 hcut hsz h
  go_enter Tryz.func63, Tryz.ntmps63
  go_wp2_with fail
  rw [← HW.out]
  refine HC.out.mono ?_
  rintro e w1 ⟨rfl, n1, rfl⟩
  have HE1 : Hid (Env (w0.drewN n1)) := HE.out
  have HB1 : Hid (Below w.heap.size w (w0.drewN n1)) := below_dr HB.out n1
  have K1 : Hid ((w0.drewN n1).heap[w.heap.size]? = some (.cells #[.string ⟨#[]⟩, .string ⟨#[]⟩] 23 (0, 0))) := K0.out
  have Z1 : Hid ((w0.drewN n1).heap.size = w.heap.size + 1) := Z0.out
  obtain ⟨w1, hw1⟩ : ∃ w1, w1 = w0.drewN n1 := ⟨_, rfl⟩
  rw [← hw1] at HE1 HB1 K1 Z1 ⊢
  clear hw1 HE HB K0 Z0 HC HW
  cases f with
  | false =>
    have HR : Hid (parseObj s = (⟨#[]⟩, ⟨#[]⟩, 5, 0)) := by show _ = _; rw [HP.out]; rfl
    have c0 : w1.cell? ⟨w.heap.size, 0, none⟩ = some (.string ⟨#[]⟩) := cell_of_row _ _ 0 _ _ _ K1.out
    have c1 : w1.cell? ⟨w.heap.size, 1, none⟩ = some (.string ⟨#[]⟩) := cell_of_row _ _ 1 _ _ _ K1.out
    have f0 : w1.frozen? ⟨w.heap.size, 0, none⟩ = false := frozen_of_row _ _ 0 _ _ K1.out
    have f1 : w1.frozen? ⟨w.heap.size, 1, none⟩ = false := frozen_of_row _ _ 1 _ _ K1.out
    have f2 : (w1.setCell ⟨w.heap.size, 0, none⟩ (.string ⟨#[]⟩)).frozen? ⟨w.heap.size, 1, none⟩ = false := by rw [World.frozen?_setCell]; exact f1
    go_wp2_with fail
    refine (fnew8_any 5 0 _).mono ?_
    rintro e w2 ⟨rfl, rfl⟩
    go_wp2_with fail
    obtain ⟨q0, q1⟩ := set2 K1.out (.string ⟨#[]⟩) (.string ⟨#[]⟩)
    have B2 := below_set2 HB1.out (Nat.le_refl _) (.string ⟨#[]⟩) (.string ⟨#[]⟩)
    generalize ((w1.setCell ⟨w.heap.size, 0, none⟩ (.string ⟨#[]⟩)).setCell ⟨w.heap.size, 1, none⟩ (.string ⟨#[]⟩)) = W at *
    refine bodyPost_ret (v := .tuple #[.agg #[.string ⟨#[]⟩, .string ⟨#[]⟩], errW8 5 0]) ?_ rfl ⟨by rw [HR.out]; rfl, B2⟩
    simp [results, Tryz.results63, go_sem]
    simp only [q0, q1, Result.andThen]
  | true =>
    go_wp2_with fail
    refine (isName_any a _ HE1.out.1).mono ?_
    rintro e w2 ⟨rfl, b2⟩
    have HE2 := Lib.hid (HE1.out.below b2)
    have HB2 := Lib.hid (HB1.out.trans (b2.mono HB1.out.size))
    have K2 : Hid (w2.heap[w.heap.size]? = some (.cells #[.string ⟨#[]⟩, .string ⟨#[]⟩] 23 (0, 0))) := (b2.block w.heap.size (by have := Z1.out; omega)).trans K1.out
    have Z2 : Hid (w.heap.size < w2.heap.size) := by have h1 := b2.size; have h2 := Z1.out; show _ < _; omega
    clear b2 HE1 HB1 K1 Z1
    cases hna : isName a with
    | false =>
      have HR : Hid (parseObj s = (⟨#[]⟩, ⟨#[]⟩, 5, 0)) := by show _ = _; rw [HP.out, hna]; rfl
      clear hna
      have c0 : w2.cell? ⟨w.heap.size, 0, none⟩ = some (.string ⟨#[]⟩) := cell_of_row _ _ 0 _ _ _ K2.out
      have c1 : w2.cell? ⟨w.heap.size, 1, none⟩ = some (.string ⟨#[]⟩) := cell_of_row _ _ 1 _ _ _ K2.out
      have f0 : w2.frozen? ⟨w.heap.size, 0, none⟩ = false := frozen_of_row _ _ 0 _ _ K2.out
      have f1 : w2.frozen? ⟨w.heap.size, 1, none⟩ = false := frozen_of_row _ _ 1 _ _ K2.out
      have f2 : (w2.setCell ⟨w.heap.size, 0, none⟩ (.string ⟨#[]⟩)).frozen? ⟨w.heap.size, 1, none⟩ = false := by rw [World.frozen?_setCell]; exact f1
      go_wp2_with fail
      refine (fnew8_any 5 0 _).mono ?_
      rintro e w3 ⟨rfl, rfl⟩
      go_wp2_with fail
      obtain ⟨q0, q1⟩ := set2 K2.out (.string ⟨#[]⟩) (.string ⟨#[]⟩)
      have B2 := below_set2 HB2.out (Nat.le_refl _) (.string ⟨#[]⟩) (.string ⟨#[]⟩)
      generalize ((w2.setCell ⟨w.heap.size, 0, none⟩ (.string ⟨#[]⟩)).setCell ⟨w.heap.size, 1, none⟩ (.string ⟨#[]⟩)) = W at *
      refine bodyPost_ret (v := .tuple #[.agg #[.string ⟨#[]⟩, .string ⟨#[]⟩], errW8 5 0]) ?_ rfl ⟨by rw [HR.out]; rfl, B2⟩
      simp [results, Tryz.results63, go_sem]
      simp only [q0, q1, Result.andThen]
    | true =>
      have HNA := Lib.hid hna
      clear hna
      go_wp2_with fail
      refine (isId_any b _).mono ?_
      rintro e w3 ⟨rfl, b3⟩
      have HB3 := Lib.hid (HB2.out.trans (b3.mono HB2.out.size))
      have K3 : Hid (w3.heap[w.heap.size]? = some (.cells #[.string ⟨#[]⟩, .string ⟨#[]⟩] 23 (0, 0))) := (b3.block w.heap.size Z2.out).trans K2.out
      clear b3 HE2 HB2 K2 Z2
      cases hib : isId b with
      | false =>
        have HR : Hid (parseObj s = (⟨#[]⟩, ⟨#[]⟩, 5, a.size + 1)) := by show _ = _; rw [HP.out, hib, HNA.out]; rfl
        clear hib
        have hsa' : (a.size : Int) ≤ 1000000 := by omega
        have c0 : w3.cell? ⟨w.heap.size, 0, none⟩ = some (.string ⟨#[]⟩) := cell_of_row _ _ 0 _ _ _ K3.out
        have c1 : w3.cell? ⟨w.heap.size, 1, none⟩ = some (.string ⟨#[]⟩) := cell_of_row _ _ 1 _ _ _ K3.out
        have f0 : w3.frozen? ⟨w.heap.size, 0, none⟩ = false := frozen_of_row _ _ 0 _ _ K3.out
        have f1 : w3.frozen? ⟨w.heap.size, 1, none⟩ = false := frozen_of_row _ _ 1 _ _ K3.out
        have f2 : (w3.setCell ⟨w.heap.size, 0, none⟩ (.string ⟨#[]⟩)).frozen? ⟨w.heap.size, 1, none⟩ = false := by rw [World.frozen?_setCell]; exact f1
        go_wp2_with fail
        refine (fnew8_any 5 _ _).mono ?_
        rintro e w4 ⟨rfl, rfl⟩
        go_wp2_with fail
        obtain ⟨q0, q1⟩ := set2 K3.out (.string ⟨#[]⟩) (.string ⟨#[]⟩)
        have B2 := below_set2 HB3.out (Nat.le_refl _) (.string ⟨#[]⟩) (.string ⟨#[]⟩)
        generalize ((w3.setCell ⟨w.heap.size, 0, none⟩ (.string ⟨#[]⟩)).setCell ⟨w.heap.size, 1, none⟩ (.string ⟨#[]⟩)) = W at *
        refine bodyPost_ret (v := .tuple #[.agg #[.string ⟨#[]⟩, .string ⟨#[]⟩], errW8 5 ((a.size : Int) + 1)]) ?_ rfl ⟨by rw [HR.out]; rfl, B2⟩
        simp [results, Tryz.results63, go_sem]
        simp only [q0, q1, Result.andThen]
      | true =>
        have HR : Hid (parseObj s = (a, b, 0, 0)) := by show _ = _; rw [HP.out, hib, HNA.out]; rfl
        clear hib
        have c0 : w3.cell? ⟨w.heap.size, 0, none⟩ = some (.string ⟨#[]⟩) := cell_of_row _ _ 0 _ _ _ K3.out
        have c1 : w3.cell? ⟨w.heap.size, 1, none⟩ = some (.string ⟨#[]⟩) := cell_of_row _ _ 1 _ _ _ K3.out
        have f0 : w3.frozen? ⟨w.heap.size, 0, none⟩ = false := frozen_of_row _ _ 0 _ _ K3.out
        have f1 : w3.frozen? ⟨w.heap.size, 1, none⟩ = false := frozen_of_row _ _ 1 _ _ K3.out
        have f2 : (w3.setCell ⟨w.heap.size, 0, none⟩ (.string a)).frozen? ⟨w.heap.size, 1, none⟩ = false := by rw [World.frozen?_setCell]; exact f1
        go_wp2_with fail
        obtain ⟨q0, q1⟩ := set2 K3.out (.string a) (.string b)
        have B2 := below_set2 HB3.out (Nat.le_refl _) (.string a) (.string b)
        generalize ((w3.setCell ⟨w.heap.size, 0, none⟩ (.string a)).setCell ⟨w.heap.size, 1, none⟩ (.string b)) = W at *
        refine bodyPost_ret (v := .tuple #[.agg #[.string a, .string b], .nilIface]) ?_ rfl ⟨by rw [HR.out]; rfl, B2⟩
        simp [results, Tryz.results63, go_sem]
        simp only [q0, q1, Result.andThen]
end Go.Proofs.YtnnebfcggdbgpaaGreatDoor
