/-
  vestryref08.ParseObject and ParseAllowed.
-/
import Derived.Test.YtnnebfcggdbgpaaGreatDoorNameP
import Derived.RegionTactic
import Derived.BigRegion
namespace Go.Proofs.YtnnebfcggdbgpaaGreatDoor
open Go.ChangeShapes Go.WideShapes Go.ChangeAt Go.RowKit
set_option linter.unusedVariables false

theorem index_fnd (c : UInt8) : ∀ (l : List UInt8), Lib.index l [c] = if fnd l c < l.length then (fnd l c : Int) else -1
  | [] => by simp [Lib.index, fnd]
  | b :: l => by
    have ih := index_fnd c l
    have hf : fnd (b :: l) c = if (b == c) = true then 0 else fnd l c + 1 := by
      unfold fnd
      rw [List.findIdx_cons]
      cases h : (b == c) <;> simp
    show (if [c].isPrefixOf (b :: l) = true then (0 : Int) else if (Lib.index l [c] == -1) = true then -1 else Lib.index l [c] + 1) = _
    by_cases hb : b = c
    · subst hb
      have e1 : [b].isPrefixOf (b :: l) = true := by simp [List.isPrefixOf]
      rw [e1, hf]; simp
    · have e1 : [c].isPrefixOf (b :: l) = false := by simp [List.isPrefixOf]; exact fun e => hb e.symm
      have e2 : (b == c) = false := by rw [beq_eq_false_iff_ne]; exact hb
      rw [e1, hf, e2, ih]
      by_cases hk : fnd l c < l.length
      · have e3 : ((fnd l c : Int) == -1) = false := by rw [beq_eq_false_iff_ne]; omega
        rw [if_pos hk, e3]
        simp [hk]
      · rw [if_neg hk]
        simp [hk]
theorem cut_fnd (s : ByteArray) (c : UInt8) : cut3 s ⟨#[c]⟩ = if fnd s.data.toList c < s.size then (bstr (s.data.toList.take (fnd s.data.toList c)), bstr (s.data.toList.drop (fnd s.data.toList c + 1)), true) else (s, ⟨#[]⟩, false) := by
  have hl : s.data.toList.length = s.size := by rw [Array.length_toList]; rfl
  have h := index_fnd c s.data.toList
  unfold cut3 Lib.cut
  rw [show (⟨#[c]⟩ : ByteArray).data.toList = [c] from rfl, h, hl]
  by_cases hk : fnd s.data.toList c < s.size
  · rw [if_pos hk, if_pos hk, if_pos (by omega)]
    simp
  · rw [if_neg hk, if_neg hk, if_neg (by omega)]
    rfl

theorem ext_take (s : ByteArray) (k : Nat) : s.extract 0 k = bstr (s.data.toList.take k) := by
  apply bytes_inj
  rw [bstr_data]
  simp [ByteArray.data_extract]
theorem ext_drop (s : ByteArray) (k : Nat) : s.extract k s.size = bstr (s.data.toList.drop k) := by
  have hl : s.data.toList.length = s.size := by rw [Array.length_toList]; rfl
  apply bytes_inj
  rw [bstr_data]
  rw [ByteArray.data_extract, Array.toList_extract, List.extract_eq_take_drop, List.take_of_length_le]
  rw [List.length_drop, hl]; exact Nat.le_refl _
theorem take_size (s : ByteArray) (k : Nat) : (bstr (s.data.toList.take k)).size ≤ s.size := by
  have hl : s.data.toList.length = s.size := by rw [Array.length_toList]; rfl
  show (s.data.toList.take k).toArray.size ≤ s.size
  rw [List.size_toArray, List.length_take]; omega
theorem drop_size (s : ByteArray) (k : Nat) : (bstr (s.data.toList.drop k)).size ≤ s.size := by
  have hl : s.data.toList.length = s.size := by rw [Array.length_toList]; rfl
  show (s.data.toList.drop k).toArray.size ≤ s.size
  rw [List.size_toArray, List.length_drop]; omega

set_option maxRecDepth 100000 in
set_option maxHeartbeats 1000000 in
theorem rparseObj_any (s : ByteArray) (w : World) (hs : s.size ≤ 1000000) : Calls Tryz.prog 69 #[.string s] w fun e w' =>
    e = .returned (.tuple #[.agg #[.string (parseObj s).1, .string (parseObj s).2.1], .int .i64 (parseObj s).2.2.1, .int .i64 (parseObj s).2.2.2]) ∧ Below w.heap.size w w' := by
  have hb0 : Below w.heap.size w (w.alloc (.cells #[.string ⟨#[]⟩, .string ⟨#[]⟩] 23)) := (Below.refl w.heap.size w).alloc (Nat.le_refl _) _
  obtain ⟨w0, hw0⟩ : ∃ w0, w0 = w.alloc (.cells #[.string ⟨#[]⟩, .string ⟨#[]⟩] 23) := ⟨_, rfl⟩
  have k0 : w0.heap[w.heap.size]? = some (.cells #[.string ⟨#[]⟩, .string ⟨#[]⟩] 23 (0, 0)) := by rw [hw0]; exact heap_alloc_new w _
  rw [← hw0] at hb0
  have HF := Lib.hid (find_any s 58 hs w0)
  have HW := Lib.hid hw0
  have K0 := Lib.hid k0
  have HB := Lib.hid hb0
  obtain ⟨k, hk⟩ : ∃ k, k = fnd s.data.toList 58 := ⟨_, rfl⟩
  have hcut := cut_fnd s 58
  rw [← hk] at HF hcut
  have hs' : (s.size : Int) ≤ 1000000 := by omega
  by_cases hlt : k < s.size
  · rw [if_pos hlt] at HF hcut
    have hsz : (bstr (s.data.toList.take k)).size = k := by
      show (s.data.toList.take k).toArray.size = k
      have hl : s.data.toList.length = s.size := by rw [Array.length_toList]; rfl
      rw [List.size_toArray, List.length_take]; omega
    have HX := Lib.hid (ext_take s k)
    have HY := Lib.hid (ext_drop s (k + 1))
    have had := take_size s k
    have hbd := drop_size s (k + 1)
    obtain ⟨a, ha⟩ : ∃ a, a = bstr (s.data.toList.take k) := ⟨_, rfl⟩
    obtain ⟨b, hb⟩ : ∃ b, b = bstr (s.data.toList.drop (k + 1)) := ⟨_, rfl⟩
    rw [← ha] at hcut hsz HX had
    rw [← hb] at hcut HY hbd
    have HP : Hid (parseObj s = if isName a = false then (⟨#[]⟩, ⟨#[]⟩, 5, 0) else if isId b = false then (⟨#[]⟩, ⟨#[]⟩, 5, k + 1) else (a, b, 0, 0)) := by
      show parseObj s = _
      unfold parseObj
      rw [show colonA = ⟨#[58]⟩ from rfl, hcut]
      simp [hsz]
    have HA := Lib.hid (risName_any a (by omega))
    have HBB := Lib.hid (risId_any b (by omega))
    have hk1 : (k : Int) < s.size := by omega
    have hk0 : (0 : Int) ≤ k := by omega
    clear hw0 k0 hb0 hk hcut ha hb hsz had hbd
    go_enter Tryz.func69, Tryz.ntmps69
    go_wp2_with fail
    rw [← HW.out]
    refine HF.out.mono ?_
    rintro e w1 ⟨rfl, rfl⟩
    go_wp2_with fail
    rw [HX.out]
    refine (HA.out w0).mono ?_
    rintro e w1 ⟨rfl, rfl⟩
    cases hna : isName a with
    | false =>
      have HR : Hid (parseObj s = (⟨#[]⟩, ⟨#[]⟩, 5, 0)) := by show _ = _; rw [HP.out, hna]; rfl
      clear hna
      have c0 : w0.cell? ⟨w.heap.size, 0, none⟩ = some (.string ⟨#[]⟩) := cell_of_row _ _ 0 _ _ _ K0.out
      have c1 : w0.cell? ⟨w.heap.size, 1, none⟩ = some (.string ⟨#[]⟩) := cell_of_row _ _ 1 _ _ _ K0.out
      have f0 : w0.frozen? ⟨w.heap.size, 0, none⟩ = false := frozen_of_row _ _ 0 _ _ K0.out
      have f1 : w0.frozen? ⟨w.heap.size, 1, none⟩ = false := frozen_of_row _ _ 1 _ _ K0.out
      have f2 : (w0.setCell ⟨w.heap.size, 0, none⟩ (.string ⟨#[]⟩)).frozen? ⟨w.heap.size, 1, none⟩ = false := by rw [World.frozen?_setCell]; exact f1
      go_wp2_with fail
      obtain ⟨q0, q1⟩ := set2 K0.out (.string ⟨#[]⟩) (.string ⟨#[]⟩)
      have B2 := below_set2 HB.out (Nat.le_refl _) (.string ⟨#[]⟩) (.string ⟨#[]⟩)
      generalize ((w0.setCell ⟨w.heap.size, 0, none⟩ (.string ⟨#[]⟩)).setCell ⟨w.heap.size, 1, none⟩ (.string ⟨#[]⟩)) = W at *
      refine bodyPost_ret (v := .tuple #[.agg #[.string ⟨#[]⟩, .string ⟨#[]⟩], .int .i64 5, .int .i64 0]) ?_ rfl ⟨by rw [HR.out]; rfl, B2⟩
      simp [results, Tryz.results69, go_sem]
      simp only [q0, q1, Result.andThen]
    | true =>
      have HNA := Lib.hid hna
      clear hna
      go_wp2_with fail
      rw [HY.out]
      refine (HBB.out w0).mono ?_
      rintro e w1 ⟨rfl, rfl⟩
      cases hib : isId b with
      | false =>
        have HR : Hid (parseObj s = (⟨#[]⟩, ⟨#[]⟩, 5, k + 1)) := by show _ = _; rw [HP.out, hib, HNA.out]; rfl
        clear hib
        have c0 : w0.cell? ⟨w.heap.size, 0, none⟩ = some (.string ⟨#[]⟩) := cell_of_row _ _ 0 _ _ _ K0.out
        have c1 : w0.cell? ⟨w.heap.size, 1, none⟩ = some (.string ⟨#[]⟩) := cell_of_row _ _ 1 _ _ _ K0.out
        have f0 : w0.frozen? ⟨w.heap.size, 0, none⟩ = false := frozen_of_row _ _ 0 _ _ K0.out
        have f1 : w0.frozen? ⟨w.heap.size, 1, none⟩ = false := frozen_of_row _ _ 1 _ _ K0.out
        have f2 : (w0.setCell ⟨w.heap.size, 0, none⟩ (.string ⟨#[]⟩)).frozen? ⟨w.heap.size, 1, none⟩ = false := by rw [World.frozen?_setCell]; exact f1
        go_wp2_with fail
        obtain ⟨q0, q1⟩ := set2 K0.out (.string ⟨#[]⟩) (.string ⟨#[]⟩)
        have B2 := below_set2 HB.out (Nat.le_refl _) (.string ⟨#[]⟩) (.string ⟨#[]⟩)
        generalize ((w0.setCell ⟨w.heap.size, 0, none⟩ (.string ⟨#[]⟩)).setCell ⟨w.heap.size, 1, none⟩ (.string ⟨#[]⟩)) = W at *
        refine bodyPost_ret (v := .tuple #[.agg #[.string ⟨#[]⟩, .string ⟨#[]⟩], .int .i64 5, .int .i64 ((k : Int) + 1)]) ?_ rfl ⟨by rw [HR.out]; rfl, B2⟩
        simp [results, Tryz.results69, go_sem]
        simp only [q0, q1, Result.andThen]
      | true =>
        have HR : Hid (parseObj s = (a, b, 0, 0)) := by show _ = _; rw [HP.out, hib, HNA.out]; rfl
        clear hib
        have c0 : w0.cell? ⟨w.heap.size, 0, none⟩ = some (.string ⟨#[]⟩) := cell_of_row _ _ 0 _ _ _ K0.out
        have c1 : w0.cell? ⟨w.heap.size, 1, none⟩ = some (.string ⟨#[]⟩) := cell_of_row _ _ 1 _ _ _ K0.out
        have f0 : w0.frozen? ⟨w.heap.size, 0, none⟩ = false := frozen_of_row _ _ 0 _ _ K0.out
        have f1 : w0.frozen? ⟨w.heap.size, 1, none⟩ = false := frozen_of_row _ _ 1 _ _ K0.out
        have f2 : (w0.setCell ⟨w.heap.size, 0, none⟩ (.string (s.extract 0 k))).frozen? ⟨w.heap.size, 1, none⟩ = false := by rw [World.frozen?_setCell]; exact f1
        go_wp2_with fail
        go_region
        go_wp2_with fail
        rw [HX.out, HY.out]
        obtain ⟨q0, q1⟩ := set2 K0.out (.string a) (.string b)
        have B2 := below_dr (below_set2 HB.out (Nat.le_refl _) (.string a) (.string b)) 1
        have q0' : ((w0.setCell ⟨w.heap.size, 0, none⟩ (.string a)).setCell ⟨w.heap.size, 1, none⟩ (.string b)).drew.cell? ⟨w.heap.size, 0, none⟩ = some (.string a) := q0
        have q1' : ((w0.setCell ⟨w.heap.size, 0, none⟩ (.string a)).setCell ⟨w.heap.size, 1, none⟩ (.string b)).drew.cell? ⟨w.heap.size, 1, none⟩ = some (.string b) := q1
        have B2' : Below w.heap.size w ((w0.setCell ⟨w.heap.size, 0, none⟩ (.string a)).setCell ⟨w.heap.size, 1, none⟩ (.string b)).drew := B2
        generalize ((w0.setCell ⟨w.heap.size, 0, none⟩ (.string a)).setCell ⟨w.heap.size, 1, none⟩ (.string b)).drew = W at q0' q1' B2' ⊢
        refine bodyPost_ret (v := .tuple #[.agg #[.string a, .string b], .int .i64 0, .int .i64 0]) ?_ rfl ⟨by rw [HR.out]; rfl, B2'⟩
        simp [results, Tryz.results69, go_sem]
        simp only [q0', q1', Result.andThen]
  · rw [if_neg hlt] at HF hcut
    have HR : Hid (parseObj s = (⟨#[]⟩, ⟨#[]⟩, 5, 0)) := by
      show parseObj s = _
      unfold parseObj
      rw [show colonA = ⟨#[58]⟩ from rfl, hcut]
      simp
    clear hw0 k0 hb0 hk hcut
    go_enter Tryz.func69, Tryz.ntmps69
    go_wp2_with fail
    rw [← HW.out]
    refine HF.out.mono ?_
    rintro e w1 ⟨rfl, rfl⟩
    have c0 : w0.cell? ⟨w.heap.size, 0, none⟩ = some (.string ⟨#[]⟩) := cell_of_row _ _ 0 _ _ _ K0.out
    have c1 : w0.cell? ⟨w.heap.size, 1, none⟩ = some (.string ⟨#[]⟩) := cell_of_row _ _ 1 _ _ _ K0.out
    have f0 : w0.frozen? ⟨w.heap.size, 0, none⟩ = false := frozen_of_row _ _ 0 _ _ K0.out
    have f1 : w0.frozen? ⟨w.heap.size, 1, none⟩ = false := frozen_of_row _ _ 1 _ _ K0.out
    have f2 : (w0.setCell ⟨w.heap.size, 0, none⟩ (.string ⟨#[]⟩)).frozen? ⟨w.heap.size, 1, none⟩ = false := by rw [World.frozen?_setCell]; exact f1
    go_wp2_with fail
    obtain ⟨q0, q1⟩ := set2 K0.out (.string ⟨#[]⟩) (.string ⟨#[]⟩)
    have B2 := below_set2 HB.out (Nat.le_refl _) (.string ⟨#[]⟩) (.string ⟨#[]⟩)
    generalize ((w0.setCell ⟨w.heap.size, 0, none⟩ (.string ⟨#[]⟩)).setCell ⟨w.heap.size, 1, none⟩ (.string ⟨#[]⟩)) = W at *
    refine bodyPost_ret (v := .tuple #[.agg #[.string ⟨#[]⟩, .string ⟨#[]⟩], .int .i64 5, .int .i64 0]) ?_ rfl ⟨by rw [HR.out]; rfl, B2⟩
    simp [results, Tryz.results69, go_sem]
    simp only [q0, q1, Result.andThen]


end Go.Proofs.YtnnebfcggdbgpaaGreatDoor
