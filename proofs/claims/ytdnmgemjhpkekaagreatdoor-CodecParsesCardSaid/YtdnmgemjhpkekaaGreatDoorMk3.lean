/-
  The reference's name and finish.
-/
import Derived.Test.YtdnmgemjhpkekaaGreatDoorMk2
namespace Go.Proofs.YtdnmgemjhpkekaaGreatDoor
open Go.ChangeShapes Go.WideShapes Go.ChangeAt Go.RowKit
set_option linter.unusedVariables false

theorem part_next {b : List UInt8} {o : Nat} (ho : o ≤ b.length) : o + (partP 64 (b.drop o)).2.1 ≤ b.length := by
 have := partP_small 64 (b.drop o)
 rw [List.length_drop] at this
 omega
theorem part_len {b : List UInt8} {o : Nat} : (partP 64 (b.drop o)).1.length ≤ 64 := by
 by_cases h : (partP 64 (b.drop o)).2.2 = 0
 ·exact (part_back h).1
 ·rw [(partP_bad h).1]; exact Nat.zero_le _
section
variable {b : List UInt8} {s : St} {W : World} {q : Option Addr} {cp o lv : Nat}
set_option maxRecDepth 100000 in
set_option maxHeartbeats 8000000 in
theorem rName_any (emp : Bool) (hr : Rd W.heap.size W (.slice q b.length cp) b) (hp : PlO b s o) (hbl : b.length ≤ 1000000) : Calls Tryz.prog 26 #[.agg #[.slice q b.length cp, .int .i64 (o : Nat), .int .i64 (cO (s) : Nat), .int .i64 (aO (s) : Nat), .int .i64 (lv : Nat)], .bool emp] W fun e w' => ∃ o2, e = .returned (.tuple #[.agg #[.slice q b.length cp, .int .i64 (o2 : Nat), .int .i64 (cO (nameC b emp s).2 : Nat), .int .i64 (aO (nameC b emp s).2 : Nat), .int .i64 (lv : Nat)], .string (bstr (nameC b emp s).1)]) ∧ PlO b (nameC b emp s).2 o2 ∧ Below W.heap.size W w' := by
 cases s with
 | er c a =>
  have HPO := hiD hp
  have hc : ¬ (c : Int) = 0 := by have := hp.2.2 c a rfl; omega
  have hc2 : ((c : Int) != 0) = true := by rw [bne_iff_ne]; exact hc
  show Calls _ _ #[.agg #[.slice q b.length cp, .int .i64 (o : Nat), .int .i64 (c : Nat), .int .i64 (a : Nat), .int .i64 (lv : Nat)], _] _ _
  clear hp hbl
  have hb2 : Below W.heap.size W ((W.alloc (.cells #[.slice q b.length cp, .int .i64 (o : Nat), .int .i64 (c : Nat), .int .i64 (a : Nat), .int .i64 (lv : Nat)] 59)).alloc (.cells #[.slice none 0 0, .int .i64 0, .int .i64 0, .int .i64 0, .int .i64 0] 59)) := ((Below.refl _ _).alloc (Nat.le_refl _) _).alloc (by simp) _
  have HA : Hid (Arr ((W.alloc (.cells #[.slice q b.length cp, .int .i64 (o : Nat), .int .i64 (c : Nat), .int .i64 (a : Nat), .int .i64 (lv : Nat)] 59)).alloc (.cells #[.slice none 0 0, .int .i64 0, .int .i64 0, .int .i64 0, .int .i64 0] 59)) 59 W.heap.size [.slice q b.length cp, .int .i64 (o : Nat), .int .i64 (c : Nat), .int .i64 (a : Nat), .int .i64 (lv : Nat)]) := (Arr.new' _ _ _ _ rfl).alloc _
  have HZ : Hid (Arr ((W.alloc (.cells #[.slice q b.length cp, .int .i64 (o : Nat), .int .i64 (c : Nat), .int .i64 (a : Nat), .int .i64 (lv : Nat)] 59)).alloc (.cells #[.slice none 0 0, .int .i64 0, .int .i64 0, .int .i64 0, .int .i64 0] 59)) 59 (W.heap.size + 1) [.slice none 0 0, .int .i64 0, .int .i64 0, .int .i64 0, .int .i64 0]) := Arr.new2 _ _ _ _ _ rfl
  have HB := hiD hb2
  have HR := hiD ((hr.below hb2 (Nat.le_refl _)).mono hb2.size)
  clear hr hb2
  go_enter Tryz.func26, Tryz.ntmps26
  go_upto_region 1 with (fail)
  generalize ((W.alloc (.cells #[.slice q b.length cp, .int .i64 (o : Nat), .int .i64 (c : Nat), .int .i64 (a : Nat), .int .i64 (lv : Nat)] 59)).alloc (.cells #[.slice none 0 0, .int .i64 0, .int .i64 0, .int .i64 0, .int .i64 0] 59)) = w1 at HA HZ HB ⊢
  obtain ⟨x0, y0, x1, y1, x2, y2, x3, y3, x4, y4⟩ := HA.out.all5
  obtain ⟨p0, z0, p1, z1, p2, z2, p3, z3, p4, z4⟩ := HZ.out.all5
  go_wp2_with fail
  have hA := HZ.out.setP (.slice q b.length cp) (.int .i64 (o : Nat)) (.int .i64 (c : Nat)) (.int .i64 (a : Nat)) (.int .i64 (lv : Nat))
  exact bodyPost_ret (resP2 rfl hA rfl) rfl ⟨o, rfl, HPO.out, below_set5 HB.out (Nat.le_succ _) _ _ _ _ _⟩
 | go oo =>
  show Calls _ _ #[.agg #[.slice q b.length cp, .int .i64 (o : Nat), .int .i64 0, .int .i64 0, .int .i64 (lv : Nat)], _] _ _
  have HBL := hiD hbl
  obtain rfl : o = oo := hp.2.1 oo rfl
  have HOL : Hid (o ≤ b.length) := hp.1
  have hb2 : Below W.heap.size W ((W.alloc (.cells #[.slice q b.length cp, .int .i64 (o : Nat), .int .i64 0, .int .i64 0, .int .i64 (lv : Nat)] 59)).alloc (.cells #[.slice none 0 0, .int .i64 0, .int .i64 0, .int .i64 0, .int .i64 0] 59)) := ((Below.refl _ _).alloc (Nat.le_refl _) _).alloc (by simp) _
  have HA : Hid (Arr ((W.alloc (.cells #[.slice q b.length cp, .int .i64 (o : Nat), .int .i64 0, .int .i64 0, .int .i64 (lv : Nat)] 59)).alloc (.cells #[.slice none 0 0, .int .i64 0, .int .i64 0, .int .i64 0, .int .i64 0] 59)) 59 W.heap.size [.slice q b.length cp, .int .i64 (o : Nat), .int .i64 0, .int .i64 0, .int .i64 (lv : Nat)]) := (Arr.new' _ _ _ _ rfl).alloc _
  have HZ : Hid (Arr ((W.alloc (.cells #[.slice q b.length cp, .int .i64 (o : Nat), .int .i64 0, .int .i64 0, .int .i64 (lv : Nat)] 59)).alloc (.cells #[.slice none 0 0, .int .i64 0, .int .i64 0, .int .i64 0, .int .i64 0] 59)) 59 (W.heap.size + 1) [.slice none 0 0, .int .i64 0, .int .i64 0, .int .i64 0, .int .i64 0]) := Arr.new2 _ _ _ _ _ rfl
  have HB := hiD hb2
  have HR := hiD ((hr.below hb2 (Nat.le_refl _)).mono hb2.size)
  clear hr hb2
  have HNY := hiD (rread_at HR.out HBL.out o HOL.out 64 (by decide))
  have HNX : Hid (o + (partP 64 (b.drop o)).2.1 ≤ b.length) := part_next HOL.out
  have HTL : Hid ((partP 64 (b.drop o)).1.length ≤ 64) := part_len
  have HE1 : Hid ((partP 64 (b.drop o)).2.2 ≠ 0 → nameC b emp (.go o) = ([], .er (partP 64 (b.drop o)).2.2 o)) := fun h => if_pos h
  have HE2 : Hid (∀ t, (partP 64 (b.drop o)).1 = t → ¬ (partP 64 (b.drop o)).2.2 ≠ 0 → emp = true ∧ t = [] → nameC b emp (.go o) = ([], .go (o + (partP 64 (b.drop o)).2.1))) := fun t ht h1 h2 => (if_neg h1).trans (if_pos (by rw [ht]; exact h2))
  have HE3 : Hid (∀ t, (partP 64 (b.drop o)).1 = t → ¬ (partP 64 (b.drop o)).2.2 ≠ 0 → ¬ (emp = true ∧ t = []) → isName (bstr t) = false → nameC b emp (.go o) = ([], .er 5 o)) := fun t ht h1 h2 h3 => (if_neg h1).trans ((if_neg (by rw [ht]; exact h2)).trans (if_pos (by rw [ht]; exact h3)))
  have HE4 : Hid (∀ t, (partP 64 (b.drop o)).1 = t → ¬ (partP 64 (b.drop o)).2.2 ≠ 0 → ¬ (emp = true ∧ t = []) → ¬ isName (bstr t) = false → nameC b emp (.go o) = (t, .go (o + (partP 64 (b.drop o)).2.1))) := fun t ht h1 h2 h3 => by
   subst ht
   exact (if_neg h1).trans ((if_neg h2).trans (if_neg h3))
  obtain ⟨t, ht⟩ : ∃ t, t = (partP 64 (b.drop o)).1 := ⟨_, rfl⟩
  obtain ⟨nx, hnx⟩ : ∃ n, n = o + (partP 64 (b.drop o)).2.1 := ⟨_, rfl⟩
  obtain ⟨cc, hcc⟩ : ∃ n, n = (partP 64 (b.drop o)).2.2 := ⟨_, rfl⟩
  have HE2 := hiD (HE2.out t ht.symm)
  have HE3 := hiD (HE3.out t ht.symm)
  have HE4 := hiD (HE4.out t ht.symm)
  rw [← hcc] at HE1 HE2 HE3 HE4
  rw [← hnx] at HNX HE2 HE4
  rw [← ht] at HTL
  rw [← ht, ← hnx, ← hcc] at HNY
  have HNY : Hid (Calls Tryz.prog 54 #[.slice q b.length cp, .int .i64 (o : Nat), .int .i64 64] ((W.alloc (.cells #[.slice q b.length cp, .int .i64 (o : Nat), .int .i64 0, .int .i64 0, .int .i64 (lv : Nat)] 59)).alloc (.cells #[.slice none 0 0, .int .i64 0, .int .i64 0, .int .i64 0, .int .i64 0] 59)) fun e w' => e = .returned (.tuple #[.string (bstr t), .int .i64 (nx : Nat), .int .i64 (cc : Nat)]) ∧ ((W.alloc (.cells #[.slice q b.length cp, .int .i64 (o : Nat), .int .i64 0, .int .i64 0, .int .i64 (lv : Nat)] 59)).alloc (.cells #[.slice none 0 0, .int .i64 0, .int .i64 0, .int .i64 0, .int .i64 0] 59)) = w') := HNY.out
  clear ht hnx hcc hp hbl HR
  have HI : Hid (∀ nb, nb = isName (bstr t) → ∀ w, Calls Tryz.prog 37 #[.string (bstr t)] w fun e w' => e = .returned (.bool nb) ∧ w = w') := fun nb h w => by rw [h]; exact risName_any (bstr t) (by rw [bstr_size]; have := HTL.out; omega) w
  by_cases h1 : cc ≠ 0
  ·have HE := hiD (HE1.out h1)
   have HCZ := hiD h1
   have h1' : ¬ (cc : Int) = 0 := by omega
   have h1'' : ((cc : Int) != 0) = true := by rw [bne_iff_ne]; exact h1'
   clear HE1 HE2 HE3 HE4 h1
   go_enter Tryz.func26, Tryz.ntmps26
   go_upto_region 1 with (fail)
   generalize ((W.alloc (.cells #[.slice q b.length cp, .int .i64 (o : Nat), .int .i64 0, .int .i64 0, .int .i64 (lv : Nat)] 59)).alloc (.cells #[.slice none 0 0, .int .i64 0, .int .i64 0, .int .i64 0, .int .i64 0] 59)) = w1 at HA HZ HB HNY ⊢
   obtain ⟨x0, y0, x1, y1, x2, y2, x3, y3, x4, y4⟩ := HA.out.all5
   obtain ⟨p0, z0, p1, z1, p2, z2, p3, z3, p4, z4⟩ := HZ.out.all5
   go_wp2_with fail
   refine HNY.out.mono ?_
   rintro e w2 ⟨rfl, rfl⟩
   have HA1 : Hid (Arr (w1.setCell ⟨W.heap.size, 1, none⟩ (.int .i64 (nx : Nat))) 59 W.heap.size [.slice q b.length cp, .int .i64 (nx : Nat), .int .i64 0, .int .i64 0, .int .i64 (lv : Nat)]) := HA.out.set 1 _
   have HZ1 : Hid (Arr (w1.setCell ⟨W.heap.size, 1, none⟩ (.int .i64 (nx : Nat))) 59 (W.heap.size + 1) [.slice none 0 0, .int .i64 0, .int .i64 0, .int .i64 0, .int .i64 0]) := HZ.out.setCell (by simp only [ne_eq]; omega) _
   have HB1 : Hid (Below W.heap.size W (w1.setCell ⟨W.heap.size, 1, none⟩ (.int .i64 (nx : Nat)))) := below_box HB.out (Nat.le_refl _) _ _
   clear HA HZ HB
   go_upto_region 6 with (fail)
   generalize (w1.setCell ⟨W.heap.size, 1, none⟩ (.int .i64 (nx : Nat))) = w3 at HA1 HZ1 HB1 ⊢
   clear x0 x1 x2 x3 x4 y0 y1 y2 y3 y4 p0 p1 p2 p3 p4 z0 z1 z2 z3 z4
   obtain ⟨x0, y0, x1, y1, x2, y2, x3, y3, x4, y4⟩ := HA1.out.all5
   obtain ⟨p0, z0, p1, z1, p2, z2, p3, z3, p4, z4⟩ := HZ1.out.all5
   go_wp2_with fail
   refine (rFail_any (W := w3) (cc) o).mono ?_
   rintro e w4 ⟨rfl, b4⟩
   have HZ4 := hiD (HZ1.out.later b4)
   have HB4 := hiD (HB1.out.trans (b4.mono HB1.out.size))
   clear b4 HA1 HZ1 HB1 x0 x1 x2 x3 x4 y0 y1 y2 y3 y4 p0 p1 p2 p3 p4 z0 z1 z2 z3 z4
   obtain ⟨p0, z0, p1, z1, p2, z2, p3, z3, p4, z4⟩ := HZ4.out.all5
   go_wp2_with fail
   have hA := HZ4.out.setP (.slice q b.length cp) (.int .i64 (nx : Nat)) (.int .i64 (cc : Nat)) (.int .i64 (o : Nat)) (.int .i64 (lv : Nat))
   refine bodyPost_ret (resP2 rfl hA rfl) rfl ?_
   rw [HE.out]
   exact ⟨_, rfl, ⟨HNX.out, (fun _ e => by cases e), (fun c a e => by cases e; exact HCZ.out)⟩, below_set5 HB4.out (Nat.le_succ _) _ _ _ _ _⟩
  ·have hc0 : cc = 0 := Classical.not_not.1 h1
   clear HE1
   subst hc0
   have HF2 := hiD (HE2.out h1)
   have HF3 := hiD (HE3.out h1)
   have HF4 := hiD (HE4.out h1)
   clear h1 HE2 HE3 HE4
   have HNY : Hid (Calls Tryz.prog 54 #[.slice q b.length cp, .int .i64 (o : Nat), .int .i64 64] ((W.alloc (.cells #[.slice q b.length cp, .int .i64 (o : Nat), .int .i64 0, .int .i64 0, .int .i64 (lv : Nat)] 59)).alloc (.cells #[.slice none 0 0, .int .i64 0, .int .i64 0, .int .i64 0, .int .i64 0] 59)) fun e w' => e = .returned (.tuple #[.string (bstr t), .int .i64 (nx : Nat), .int .i64 0]) ∧ ((W.alloc (.cells #[.slice q b.length cp, .int .i64 (o : Nat), .int .i64 0, .int .i64 0, .int .i64 (lv : Nat)] 59)).alloc (.cells #[.slice none 0 0, .int .i64 0, .int .i64 0, .int .i64 0, .int .i64 0] 59)) = w') := HNY.out
   obtain ⟨nb, hnb⟩ : ∃ nb, nb = isName (bstr t) := ⟨_, rfl⟩
   have HJ := hiD (HI.out nb hnb)
   clear HI
   rw [← hnb] at HF3 HF4
   have HNB := hiD hnb
   clear hnb
   cases nb with
   | true =>
    have HNE : Hid (t ≠ []) := fun h => by have := HNB.out; rw [h] at this; exact absurd this.symm (by decide)
    have HE := hiD (HF4.out (fun h => HNE.out h.2) (by simp))
    clear HF2 HF3 HF4 HNE HNB
    go_enter Tryz.func26, Tryz.ntmps26
    go_upto_region 1 with (fail)
    generalize ((W.alloc (.cells #[.slice q b.length cp, .int .i64 (o : Nat), .int .i64 0, .int .i64 0, .int .i64 (lv : Nat)] 59)).alloc (.cells #[.slice none 0 0, .int .i64 0, .int .i64 0, .int .i64 0, .int .i64 0] 59)) = w1 at HA HZ HB HNY ⊢
    obtain ⟨x0, y0, x1, y1, x2, y2, x3, y3, x4, y4⟩ := HA.out.all5
    obtain ⟨p0, z0, p1, z1, p2, z2, p3, z3, p4, z4⟩ := HZ.out.all5
    go_wp2_with fail
    refine HNY.out.mono ?_
    rintro e w2 ⟨rfl, rfl⟩
    have HA1 : Hid (Arr (w1.setCell ⟨W.heap.size, 1, none⟩ (.int .i64 (nx : Nat))) 59 W.heap.size [.slice q b.length cp, .int .i64 (nx : Nat), .int .i64 0, .int .i64 0, .int .i64 (lv : Nat)]) := HA.out.set 1 _
    have HZ1 : Hid (Arr (w1.setCell ⟨W.heap.size, 1, none⟩ (.int .i64 (nx : Nat))) 59 (W.heap.size + 1) [.slice none 0 0, .int .i64 0, .int .i64 0, .int .i64 0, .int .i64 0]) := HZ.out.setCell (by simp only [ne_eq]; omega) _
    have HB1 : Hid (Below W.heap.size W (w1.setCell ⟨W.heap.size, 1, none⟩ (.int .i64 (nx : Nat)))) := below_box HB.out (Nat.le_refl _) _ _
    clear HA HZ HB
    go_upto_region 6 with (fail)
    generalize (w1.setCell ⟨W.heap.size, 1, none⟩ (.int .i64 (nx : Nat))) = w3 at HA1 HZ1 HB1 ⊢
    clear x0 x1 x2 x3 x4 y0 y1 y2 y3 y4 p0 p1 p2 p3 p4 z0 z1 z2 z3 z4
    obtain ⟨x0, y0, x1, y1, x2, y2, x3, y3, x4, y4⟩ := HA1.out.all5
    obtain ⟨p0, z0, p1, z1, p2, z2, p3, z3, p4, z4⟩ := HZ1.out.all5
    go_wp2_with fail
    refine (HJ.out _).mono ?_
    rintro e w5 ⟨rfl, rfl⟩
    go_wp2_with fail
    have hA := HZ1.out.setP (.slice q b.length cp) (.int .i64 (nx : Nat)) (.int .i64 0) (.int .i64 0) (.int .i64 (lv : Nat))
    refine bodyPost_ret (resP2 rfl hA rfl) rfl ?_
    rw [HE.out]
    exact ⟨_, rfl, ⟨HNX.out, (fun _ e => by cases e; rfl), (fun c a e => by cases e)⟩, below_set5 HB1.out (Nat.le_succ _) _ _ _ _ _⟩
   | false =>
    by_cases h2 : t = []
    ·subst h2
     have hs0 : bstr [] = ⟨#[]⟩ := rfl
     rw [hs0] at HJ HNY
     cases emp with
     | true =>
      have HE := hiD (HF2.out ⟨rfl, rfl⟩)
      clear HF2 HF3 HF4 HNB hs0
      go_enter Tryz.func26, Tryz.ntmps26
      go_upto_region 1 with (fail)
      generalize ((W.alloc (.cells #[.slice q b.length cp, .int .i64 (o : Nat), .int .i64 0, .int .i64 0, .int .i64 (lv : Nat)] 59)).alloc (.cells #[.slice none 0 0, .int .i64 0, .int .i64 0, .int .i64 0, .int .i64 0] 59)) = w1 at HA HZ HB HNY ⊢
      obtain ⟨x0, y0, x1, y1, x2, y2, x3, y3, x4, y4⟩ := HA.out.all5
      obtain ⟨p0, z0, p1, z1, p2, z2, p3, z3, p4, z4⟩ := HZ.out.all5
      go_wp2_with fail
      refine HNY.out.mono ?_
      rintro e w2 ⟨rfl, rfl⟩
      have HA1 : Hid (Arr (w1.setCell ⟨W.heap.size, 1, none⟩ (.int .i64 (nx : Nat))) 59 W.heap.size [.slice q b.length cp, .int .i64 (nx : Nat), .int .i64 0, .int .i64 0, .int .i64 (lv : Nat)]) := HA.out.set 1 _
      have HZ1 : Hid (Arr (w1.setCell ⟨W.heap.size, 1, none⟩ (.int .i64 (nx : Nat))) 59 (W.heap.size + 1) [.slice none 0 0, .int .i64 0, .int .i64 0, .int .i64 0, .int .i64 0]) := HZ.out.setCell (by simp only [ne_eq]; omega) _
      have HB1 : Hid (Below W.heap.size W (w1.setCell ⟨W.heap.size, 1, none⟩ (.int .i64 (nx : Nat)))) := below_box HB.out (Nat.le_refl _) _ _
      clear HA HZ HB
      go_upto_region 6 with (fail)
      generalize (w1.setCell ⟨W.heap.size, 1, none⟩ (.int .i64 (nx : Nat))) = w3 at HA1 HZ1 HB1 ⊢
      clear x0 x1 x2 x3 x4 y0 y1 y2 y3 y4 p0 p1 p2 p3 p4 z0 z1 z2 z3 z4
      obtain ⟨x0, y0, x1, y1, x2, y2, x3, y3, x4, y4⟩ := HA1.out.all5
      obtain ⟨p0, z0, p1, z1, p2, z2, p3, z3, p4, z4⟩ := HZ1.out.all5
      go_wp2_with fail
      refine (HJ.out _).mono ?_
      rintro e w5 ⟨rfl, rfl⟩
      go_wp2_with fail
      have hA := HZ1.out.setP (.slice q b.length cp) (.int .i64 (nx : Nat)) (.int .i64 0) (.int .i64 0) (.int .i64 (lv : Nat))
      refine bodyPost_ret (resP2 rfl hA rfl) rfl ?_
      rw [HE.out]
      exact ⟨_, rfl, ⟨HNX.out, (fun _ e => by cases e; rfl), (fun c a e => by cases e)⟩, below_set5 HB1.out (Nat.le_succ _) _ _ _ _ _⟩
     | false =>
      have HE := hiD (HF3.out (by simp) rfl)
      have HCZ : Hid (5 ≠ 0) := by show _ ≠ _; decide
      clear HF2 HF3 HF4 HNB hs0
      go_enter Tryz.func26, Tryz.ntmps26
      go_upto_region 1 with (fail)
      generalize ((W.alloc (.cells #[.slice q b.length cp, .int .i64 (o : Nat), .int .i64 0, .int .i64 0, .int .i64 (lv : Nat)] 59)).alloc (.cells #[.slice none 0 0, .int .i64 0, .int .i64 0, .int .i64 0, .int .i64 0] 59)) = w1 at HA HZ HB HNY ⊢
      obtain ⟨x0, y0, x1, y1, x2, y2, x3, y3, x4, y4⟩ := HA.out.all5
      obtain ⟨p0, z0, p1, z1, p2, z2, p3, z3, p4, z4⟩ := HZ.out.all5
      go_wp2_with fail
      refine HNY.out.mono ?_
      rintro e w2 ⟨rfl, rfl⟩
      have HA1 : Hid (Arr (w1.setCell ⟨W.heap.size, 1, none⟩ (.int .i64 (nx : Nat))) 59 W.heap.size [.slice q b.length cp, .int .i64 (nx : Nat), .int .i64 0, .int .i64 0, .int .i64 (lv : Nat)]) := HA.out.set 1 _
      have HZ1 : Hid (Arr (w1.setCell ⟨W.heap.size, 1, none⟩ (.int .i64 (nx : Nat))) 59 (W.heap.size + 1) [.slice none 0 0, .int .i64 0, .int .i64 0, .int .i64 0, .int .i64 0]) := HZ.out.setCell (by simp only [ne_eq]; omega) _
      have HB1 : Hid (Below W.heap.size W (w1.setCell ⟨W.heap.size, 1, none⟩ (.int .i64 (nx : Nat)))) := below_box HB.out (Nat.le_refl _) _ _
      clear HA HZ HB
      go_upto_region 6 with (fail)
      generalize (w1.setCell ⟨W.heap.size, 1, none⟩ (.int .i64 (nx : Nat))) = w3 at HA1 HZ1 HB1 ⊢
      clear x0 x1 x2 x3 x4 y0 y1 y2 y3 y4 p0 p1 p2 p3 p4 z0 z1 z2 z3 z4
      obtain ⟨x0, y0, x1, y1, x2, y2, x3, y3, x4, y4⟩ := HA1.out.all5
      obtain ⟨p0, z0, p1, z1, p2, z2, p3, z3, p4, z4⟩ := HZ1.out.all5
      go_wp2_with fail
      refine (HJ.out _).mono ?_
      rintro e w5 ⟨rfl, rfl⟩
      go_wp2_with fail
      refine (rFail_any (W := w3) (5) o).mono ?_
      rintro e w4 ⟨rfl, b4⟩
      have HZ4 := hiD (HZ1.out.later b4)
      have HB4 := hiD (HB1.out.trans (b4.mono HB1.out.size))
      clear b4 HA1 HZ1 HB1 x0 x1 x2 x3 x4 y0 y1 y2 y3 y4 p0 p1 p2 p3 p4 z0 z1 z2 z3 z4
      obtain ⟨p0, z0, p1, z1, p2, z2, p3, z3, p4, z4⟩ := HZ4.out.all5
      go_wp2_with fail
      have hA := HZ4.out.setP (.slice q b.length cp) (.int .i64 (nx : Nat)) (.int .i64 5) (.int .i64 (o : Nat)) (.int .i64 (lv : Nat))
      refine bodyPost_ret (resP2 rfl hA rfl) rfl ?_
      rw [HE.out]
      exact ⟨_, rfl, ⟨HNX.out, (fun _ e => by cases e), (fun c a e => by cases e; exact HCZ.out)⟩, below_set5 HB4.out (Nat.le_succ _) _ _ _ _ _⟩
    ·have hne : ((bstr t).toList == (ByteArray.mk #[]).toList) = false := bstr_ne h2
     have hne2 : ¬ (bstr t).toList = [] := by rw [toList_data, bstr_data]; exact h2
     have hne3 : (bstr t).toList.isEmpty = false := by rw [toList_data, bstr_data]; simpa using h2
     have HE := hiD (HF3.out (fun h => h2 h.2) rfl)
     have HCZ : Hid (5 ≠ 0) := by show _ ≠ _; decide
     clear HF2 HF3 HF4 HNB h2
     cases emp with
     | true =>
      go_enter Tryz.func26, Tryz.ntmps26
      go_upto_region 1 with (fail)
      generalize ((W.alloc (.cells #[.slice q b.length cp, .int .i64 (o : Nat), .int .i64 0, .int .i64 0, .int .i64 (lv : Nat)] 59)).alloc (.cells #[.slice none 0 0, .int .i64 0, .int .i64 0, .int .i64 0, .int .i64 0] 59)) = w1 at HA HZ HB HNY ⊢
      obtain ⟨x0, y0, x1, y1, x2, y2, x3, y3, x4, y4⟩ := HA.out.all5
      obtain ⟨p0, z0, p1, z1, p2, z2, p3, z3, p4, z4⟩ := HZ.out.all5
      go_wp2_with fail
      refine HNY.out.mono ?_
      rintro e w2 ⟨rfl, rfl⟩
      have HA1 : Hid (Arr (w1.setCell ⟨W.heap.size, 1, none⟩ (.int .i64 (nx : Nat))) 59 W.heap.size [.slice q b.length cp, .int .i64 (nx : Nat), .int .i64 0, .int .i64 0, .int .i64 (lv : Nat)]) := HA.out.set 1 _
      have HZ1 : Hid (Arr (w1.setCell ⟨W.heap.size, 1, none⟩ (.int .i64 (nx : Nat))) 59 (W.heap.size + 1) [.slice none 0 0, .int .i64 0, .int .i64 0, .int .i64 0, .int .i64 0]) := HZ.out.setCell (by simp only [ne_eq]; omega) _
      have HB1 : Hid (Below W.heap.size W (w1.setCell ⟨W.heap.size, 1, none⟩ (.int .i64 (nx : Nat)))) := below_box HB.out (Nat.le_refl _) _ _
      clear HA HZ HB
      go_upto_region 6 with (fail)
      generalize (w1.setCell ⟨W.heap.size, 1, none⟩ (.int .i64 (nx : Nat))) = w3 at HA1 HZ1 HB1 ⊢
      clear x0 x1 x2 x3 x4 y0 y1 y2 y3 y4 p0 p1 p2 p3 p4 z0 z1 z2 z3 z4
      obtain ⟨x0, y0, x1, y1, x2, y2, x3, y3, x4, y4⟩ := HA1.out.all5
      obtain ⟨p0, z0, p1, z1, p2, z2, p3, z3, p4, z4⟩ := HZ1.out.all5
      go_wp2_with fail
      refine (HJ.out _).mono ?_
      rintro e w5 ⟨rfl, rfl⟩
      go_wp2_with fail
      refine (rFail_any (W := w3) (5) o).mono ?_
      rintro e w4 ⟨rfl, b4⟩
      have HZ4 := hiD (HZ1.out.later b4)
      have HB4 := hiD (HB1.out.trans (b4.mono HB1.out.size))
      clear b4 HA1 HZ1 HB1 x0 x1 x2 x3 x4 y0 y1 y2 y3 y4 p0 p1 p2 p3 p4 z0 z1 z2 z3 z4
      obtain ⟨p0, z0, p1, z1, p2, z2, p3, z3, p4, z4⟩ := HZ4.out.all5
      go_wp2_with fail
      have hA := HZ4.out.setP (.slice q b.length cp) (.int .i64 (nx : Nat)) (.int .i64 5) (.int .i64 (o : Nat)) (.int .i64 (lv : Nat))
      refine bodyPost_ret (resP2 rfl hA rfl) rfl ?_
      rw [HE.out]
      exact ⟨_, rfl, ⟨HNX.out, (fun _ e => by cases e), (fun c a e => by cases e; exact HCZ.out)⟩, below_set5 HB4.out (Nat.le_succ _) _ _ _ _ _⟩
     | false =>
      go_enter Tryz.func26, Tryz.ntmps26
      go_upto_region 1 with (fail)
      generalize ((W.alloc (.cells #[.slice q b.length cp, .int .i64 (o : Nat), .int .i64 0, .int .i64 0, .int .i64 (lv : Nat)] 59)).alloc (.cells #[.slice none 0 0, .int .i64 0, .int .i64 0, .int .i64 0, .int .i64 0] 59)) = w1 at HA HZ HB HNY ⊢
      obtain ⟨x0, y0, x1, y1, x2, y2, x3, y3, x4, y4⟩ := HA.out.all5
      obtain ⟨p0, z0, p1, z1, p2, z2, p3, z3, p4, z4⟩ := HZ.out.all5
      go_wp2_with fail
      refine HNY.out.mono ?_
      rintro e w2 ⟨rfl, rfl⟩
      have HA1 : Hid (Arr (w1.setCell ⟨W.heap.size, 1, none⟩ (.int .i64 (nx : Nat))) 59 W.heap.size [.slice q b.length cp, .int .i64 (nx : Nat), .int .i64 0, .int .i64 0, .int .i64 (lv : Nat)]) := HA.out.set 1 _
      have HZ1 : Hid (Arr (w1.setCell ⟨W.heap.size, 1, none⟩ (.int .i64 (nx : Nat))) 59 (W.heap.size + 1) [.slice none 0 0, .int .i64 0, .int .i64 0, .int .i64 0, .int .i64 0]) := HZ.out.setCell (by simp only [ne_eq]; omega) _
      have HB1 : Hid (Below W.heap.size W (w1.setCell ⟨W.heap.size, 1, none⟩ (.int .i64 (nx : Nat)))) := below_box HB.out (Nat.le_refl _) _ _
      clear HA HZ HB
      go_upto_region 6 with (fail)
      generalize (w1.setCell ⟨W.heap.size, 1, none⟩ (.int .i64 (nx : Nat))) = w3 at HA1 HZ1 HB1 ⊢
      clear x0 x1 x2 x3 x4 y0 y1 y2 y3 y4 p0 p1 p2 p3 p4 z0 z1 z2 z3 z4
      obtain ⟨x0, y0, x1, y1, x2, y2, x3, y3, x4, y4⟩ := HA1.out.all5
      obtain ⟨p0, z0, p1, z1, p2, z2, p3, z3, p4, z4⟩ := HZ1.out.all5
      go_wp2_with fail
      refine (HJ.out _).mono ?_
      rintro e w5 ⟨rfl, rfl⟩
      go_wp2_with fail
      refine (rFail_any (W := w3) (5) o).mono ?_
      rintro e w4 ⟨rfl, b4⟩
      have HZ4 := hiD (HZ1.out.later b4)
      have HB4 := hiD (HB1.out.trans (b4.mono HB1.out.size))
      clear b4 HA1 HZ1 HB1 x0 x1 x2 x3 x4 y0 y1 y2 y3 y4 p0 p1 p2 p3 p4 z0 z1 z2 z3 z4
      obtain ⟨p0, z0, p1, z1, p2, z2, p3, z3, p4, z4⟩ := HZ4.out.all5
      go_wp2_with fail
      have hA := HZ4.out.setP (.slice q b.length cp) (.int .i64 (nx : Nat)) (.int .i64 5) (.int .i64 (o : Nat)) (.int .i64 (lv : Nat))
      refine bodyPost_ret (resP2 rfl hA rfl) rfl ?_
      rw [HE.out]
      exact ⟨_, rfl, ⟨HNX.out, (fun _ e => by cases e), (fun c a e => by cases e; exact HCZ.out)⟩, below_set5 HB4.out (Nat.le_succ _) _ _ _ _ _⟩
end
def loopE {α : Type} (f : Nat → Nat → α × St × Nat) : Nat → List α → St → Nat → List α × St × Nat
 | 0, acc, s, lv => (acc, s, lv)
 | n + 1, acc, .er c a, lv => (acc, .er c a, lv)
 | n + 1, acc, .go o, lv => loopE f n (acc ++ [(f o lv).1]) (f o lv).2.1 (f o lv).2.2
def kidsQ (b : List UInt8) (k : Nat) (o : Nat) : Nat × St := if k < 5 then numC b (chkR 2 32 15) (.go o) else (2, .go o)
def bodyE (b : List UInt8) (f : Nat → Nat → Ex × St × Nat) (k o : Nat) (lv : Nat) : Ex × St × Nat :=
 if k < 3 then leafC b k (.go o) lv
 else (.mk (k : Nat) [] [] (loopE f (kidsQ b k o).1 [] (kidsQ b k o).2 lv).1, (loopE f (kidsQ b k o).1 [] (kidsQ b k o).2 lv).2)
def topE (d o : Nat) (lv : Nat) (g : Nat → Nat → Ex × St × Nat) : Nat × St → Ex × St × Nat
 | (k, .er c a) => (ex0, .er c a, lv)
 | (k, .go o1) => if d = 0 then (ex0, .er 7 o, lv) else if k < 3 ∧ lv = 32 then (ex0, .er 15 o, lv) else g k o1
theorem topE_go {d o lv : Nat} {g : Nat → Nat → Ex × St × Nat} {k o1 : Nat} : topE d o lv g (k, .go o1) = if d = 0 then (ex0, .er 7 o, lv) else if k < 3 ∧ lv = 32 then (ex0, .er 15 o, lv) else g k o1 := rfl
def refC (b : List UInt8) : Nat → Nat → Nat → Ex × St × Nat
 | 0, o, lv => topE 0 o lv (fun _ _ => (ex0, .er 7 o, lv)) (numC b (chkR 1 5 6) (.go o))
 | d + 1, o, lv => topE (d + 1) o lv (fun k o1 => bodyE b (refC b d) k o1 lv) (numC b (chkR 1 5 6) (.go o))
theorem numR_num {b : List UInt8} {lo hi high o lv : Nat} (hh : high ≠ 0) : asR ((numC b (chkR lo hi high) (.go o)).1, (numC b (chkR lo hi high) (.go o)).2, lv) = numK b lo hi high o lv := by
 unfold numK
 by_cases h1 : (num (b.drop o)).2.2 ≠ 0
 ·rw [numC_1 h1, if_pos h1]; rfl
 ·rw [if_neg h1]
  by_cases h2 : hi < (num (b.drop o)).1
  ·have e : chkR lo hi high (num (b.drop o)).1 = high := by unfold chkR; rw [if_pos h2]
   rw [numC_2 h1 (by rw [e]; exact hh), e, if_pos h2]; rfl
  ·rw [if_neg h2]
   by_cases h3 : (num (b.drop o)).1 < lo
   ·have e : chkR lo hi high (num (b.drop o)).1 = 6 := by unfold chkR; rw [if_neg h2, if_pos h3]
    rw [numC_2 h1 (by rw [e]; decide), e, if_pos h3]; rfl
   ·have e : chkR lo hi high (num (b.drop o)).1 = 0 := by unfold chkR; rw [if_neg h2, if_neg h3]
    rw [numC_3 h1 (by rw [e]; decide), if_neg h3]; rfl
theorem loopE_er {α : Type} (f : Nat → Nat → α × St × Nat) (n : Nat) (acc : List α) (c a lv : Nat) : loopE f n acc (.er c a) lv = (acc, .er c a, lv) := by cases n <;> rfl
def ReadsAs {α : Type} (f : Nat → Nat → α × St × Nat) (g : Nat → Nat → Rs α) : Prop := ∀ o lv, lv ≤ 32 → asR (f o lv) = g o lv ∧ (f o lv).2.2 ≤ 32
theorem loopE_many {α : Type} {f : Nat → Nat → α × St × Nat} {g : Nat → Nat → Rs α} (hg : ReadsAs f g) : ∀ (n : Nat) (acc : List α) (o lv : Nat), lv ≤ 32 → asR (loopE f n acc (.go o) lv) = ((manyR g n o lv).then fun xs o1 l1 => .ok (acc ++ xs) o1 l1) ∧ (loopE f n acc (.go o) lv).2.2 ≤ 32
 | 0, acc, o, lv, hl => ⟨by show Rs.ok acc o lv = Rs.ok (acc ++ []) o lv; rw [List.append_nil], hl⟩
 | n + 1, acc, o, lv, hl => by
  obtain ⟨h1, h2⟩ := hg o lv hl
  rw [loopE, manyR]
  rw [← h1]
  generalize f o lv = r at h1 h2 ⊢
  obtain ⟨x, s, l1⟩ := r
  cases s with
  | er c a => rw [loopE_er]; exact ⟨rfl, h2⟩
  | go o1 =>
   obtain ⟨h3, h4⟩ := loopE_many hg n (acc ++ [x]) o1 l1 h2
   refine ⟨?_, h4⟩
   show asR (loopE f n (acc ++ [x]) (.go o1) l1) = _
   rw [h3]
   show _ = Rs.then (Rs.then (manyR g n o1 l1) _) _
   cases manyR g n o1 l1 with
   | bad c a => rfl
   | ok xs o2 l2 => show Rs.ok _ _ _ = Rs.ok _ _ _; rw [List.append_assoc]; rfl
theorem leaf_lv (b : List UInt8) (k : Nat) (s : St) (lv : Nat) : (leafC b k s lv).2.2 = lv + 1 := by unfold leafC; split <;> rfl
theorem kidsQ_as (b : List UInt8) (k o lv : Nat) : asR ((kidsQ b k o).1, (kidsQ b k o).2, lv) = kidsR b k o lv := by
 unfold kidsQ kidsR
 split
 ·exact numR_num (by decide)
 ·rfl
theorem body_as {b : List UInt8} {f : Nat → Nat → Ex × St × Nat} {g : Nat → Nat → Rs Ex} (hg : ReadsAs f g) {k o1 lv : Nat} (hl : lv ≤ 32) (hk : k < 3 → lv < 32) : asR (bodyE b f k o1 lv) = (if k < 3 then leafR b k o1 lv else (kidsR b k o1 lv).then fun n o2 l2 => (manyR g n o2 l2).then fun ks o3 l3 => .ok (.mk (k : Nat) [] [] ks) o3 l3) ∧ (bodyE b f k o1 lv).2.2 ≤ 32 := by
 unfold bodyE
 by_cases h : k < 3
 ·rw [if_pos h, if_pos h]
  exact ⟨leaf_as _ _ _ _, by rw [leaf_lv]; exact hk h⟩
 ·rw [if_neg h, if_neg h, ← kidsQ_as]
  generalize kidsQ b k o1 = r
  obtain ⟨n, s⟩ := r
  cases s with
  | er c a => simp only [loopE_er]; exact ⟨rfl, hl⟩
  | go o2 =>
   obtain ⟨h3, h4⟩ := loopE_many hg n [] o2 lv hl
   refine ⟨?_, h4⟩
   show _ = Rs.then (manyR g n o2 lv) _
   show asR (_, loopE f n [] (.go o2) lv |>.2) = _
   generalize loopE f n [] (.go o2) lv = r at h3
   obtain ⟨xs, s3, l3⟩ := r
   cases s3 with
   | er c a =>
    change Rs.bad c a = _ at h3
    show Rs.bad c a = _
    cases hm : manyR g n o2 lv with
    | bad c2 a2 => rw [hm] at h3; change Rs.bad c a = Rs.bad c2 a2 at h3; cases h3; rfl
    | ok ys o4 l4 => rw [hm] at h3; cases h3
   | go o3 =>
    change Rs.ok xs o3 l3 = _ at h3
    show Rs.ok _ _ _ = _
    cases hm : manyR g n o2 lv with
    | bad c2 a2 => rw [hm] at h3; cases h3
    | ok ys o4 l4 => rw [hm] at h3; change Rs.ok _ _ _ = Rs.ok _ _ _ at h3; cases h3; rfl
theorem ref_as (b : List UInt8) : ∀ d, ReadsAs (refC b d) (readE b d)
 | 0, o, lv, hl => by
  unfold refC readE
  rw [← numR_num (by decide)]
  generalize numC b (chkR 1 5 6) (.go o) = r
  obtain ⟨k, s⟩ := r
  cases s with
  | er c a => exact ⟨rfl, hl⟩
  | go o1 => exact ⟨rfl, hl⟩
 | d + 1, o, lv, hl => by
  unfold refC readE
  rw [← numR_num (by decide)]
  generalize numC b (chkR 1 5 6) (.go o) = r
  obtain ⟨k, s⟩ := r
  cases s with
  | er c a => exact ⟨rfl, hl⟩
  | go o1 =>
   rw [topE_go, if_neg (by omega)]
   show asR _ = (if k < 3 then _ else _) ∧ _
   by_cases h : k < 3 ∧ lv = 32
   ·rw [if_pos h, if_pos h.1, if_pos (by omega)]
    exact ⟨rfl, hl⟩
   ·rw [if_neg h]
    have hb := body_as (b := b) (ref_as b d) (k := k) (o1 := o1) hl (fun hk => by omega)
    refine ⟨hb.1.trans ?_, hb.2⟩
    by_cases hk : k < 3
    ·rw [if_pos hk, if_pos hk, if_neg (by omega)]
    ·rw [if_neg hk, if_neg hk]
theorem resPX {fn : Func} {p q : Tmp} (h : fn.results = #[.cell p 59, .cell q 42]) {tmps : Array Value} {w : World} {g g2 : Nat} {x0 x1 x2 x3 x4 u0 u1 u2 u3 : Value} (hA : Arr w 59 g [x0, x1, x2, x3, x4]) (hE : Arr w 42 g2 [u0, u1, u2, u3]) (hp : tmps.getD p undef = .pointer (some ⟨g, 0, none⟩)) (hq : tmps.getD q undef = .pointer (some ⟨g2, 0, none⟩)) :
  (results fn tmps).run Tryz.prog w = .ok (.tuple #[.agg #[x0, x1, x2, x3, x4], .agg #[u0, u1, u2, u3]]) w := by
 have hp' : tmps[p]?.getD undef = .pointer (some ⟨g, 0, none⟩) := by simpa using hp
 have hq' : tmps[q]?.getD undef = .pointer (some ⟨g2, 0, none⟩) := by simpa using hq
 have r1 := run_loadVar_row (P := Tryz.prog) w g _ 59 #[x0, x1, x2, x3, x4] (0, 0) _ hA Tryz.underlying59 rfl (by kernel_rfl)
 have r2 := run_loadVar_row (P := Tryz.prog) w g2 _ 42 #[u0, u1, u2, u3] (0, 0) _ hE Tryz.underlying42 rfl (by kernel_rfl)
 simp [results, h, hp', hq', asAddr, r1, r2]
theorem below_grown' {B : Nat} {W w w' : World} {row : Option Nat} (h : Below B W w) (hg : w.grownBy w' row) (hr : ∀ k, row = some k → B ≤ k) (hB : B ≤ W.heap.size) : Below B W w' :=
 ⟨hg.os.trans h.os, hg.tape.trans h.tape, hg.output.trans h.output, Nat.le_trans h.size hg.size, fun k hk => (hg.block k (Nat.lt_of_lt_of_le (Nat.lt_of_lt_of_le hk hB) h.size) (fun e => by have := hr k e.symm; omega)).trans (h.block k hk)⟩
def RB (W : World) (ps z4 z5 es : List Value) (w : World) : Prop := Arr w 59 W.heap.size ps ∧ Arr w 59 (W.heap.size + 1) z4 ∧ Arr w 42 (W.heap.size + 2) z5 ∧ Arr w 42 (W.heap.size + 3) es ∧ Below W.heap.size W w
section
variable {W w w' : World} {ps z4 z5 es : List Value}
theorem RB.later (h : RB W ps z4 z5 es w) (hb : Below w.heap.size w w') : RB W ps z4 z5 es w' := ⟨h.1.later hb, h.2.1.later hb, h.2.2.1.later hb, h.2.2.2.1.later hb, h.2.2.2.2.trans (hb.mono h.2.2.2.2.size)⟩
theorem RB.drew (h : RB W ps z4 z5 es w) : RB W ps z4 z5 es w.drew := h.later (Below.refl _ _).drew
theorem RB.cp (h : RB W ps z4 z5 es w) {i : Nat} (v : Value) (hi : i < 5) : RB W (ps.set i v) z4 z5 es (w.setCell ⟨W.heap.size, i, none⟩ v) :=
 ⟨h.1.set i v, h.2.1.setCell (by simp only [ne_eq]; omega) v, h.2.2.1.setCell (by simp only [ne_eq]; omega) v, h.2.2.2.1.setCell (by simp only [ne_eq]; omega) v, below_box h.2.2.2.2 (Nat.le_refl _) i v⟩
theorem RB.c4 (h : RB W ps z4 z5 es w) {i : Nat} (v : Value) (hi : i < 5) : RB W ps (z4.set i v) z5 es (w.setCell ⟨W.heap.size + 1, i, none⟩ v) :=
 ⟨h.1.setCell (by simp only [ne_eq]; omega) v, h.2.1.set i v, h.2.2.1.setCell (by simp only [ne_eq]; omega) v, h.2.2.2.1.setCell (by simp only [ne_eq]; omega) v, below_box h.2.2.2.2 (by omega) i v⟩
theorem RB.c5 (h : RB W ps z4 z5 es w) {i : Nat} (v : Value) (hi : i < 4) : RB W ps z4 (z5.set i v) es (w.setCell ⟨W.heap.size + 2, i, none⟩ v) :=
 ⟨h.1.setCell (by simp only [ne_eq]; omega) v, h.2.1.setCell (by simp only [ne_eq]; omega) v, h.2.2.1.set i v, h.2.2.2.1.setCell (by simp only [ne_eq]; omega) v, below_box h.2.2.2.2 (by omega) i v⟩
theorem RB.ce (h : RB W ps z4 z5 es w) {i : Nat} (v : Value) (hi : i < 4) : RB W ps z4 z5 (es.set i v) (w.setCell ⟨W.heap.size + 3, i, none⟩ v) :=
 ⟨h.1.setCell (by simp only [ne_eq]; omega) v, h.2.1.setCell (by simp only [ne_eq]; omega) v, h.2.2.1.setCell (by simp only [ne_eq]; omega) v, h.2.2.2.1.set i v, below_box h.2.2.2.2 (by omega) i v⟩
theorem RB.far (h : RB W ps z4 z5 es w) {g i : Nat} (v : Value) (hg : W.heap.size + 4 ≤ g) : RB W ps z4 z5 es (w.setCell ⟨g, i, none⟩ v) :=
 ⟨h.1.setCell (by simp only [ne_eq]; omega) v, h.2.1.setCell (by simp only [ne_eq]; omega) v, h.2.2.1.setCell (by simp only [ne_eq]; omega) v, h.2.2.2.1.setCell (by simp only [ne_eq]; omega) v, below_box h.2.2.2.2 (by omega) i v⟩
theorem RB.grown (h : RB W ps z4 z5 es w) {row : Option Nat} (hg : w.grownBy w' row) (hr : ∀ k, row = some k → W.heap.size + 4 ≤ k) : RB W ps z4 z5 es w' :=
 ⟨(hg.block _ h.1.lt (fun e => absurd (hr _ e.symm) (by omega))).trans h.1, (hg.block _ h.2.1.lt (fun e => absurd (hr _ e.symm) (by omega))).trans h.2.1, (hg.block _ h.2.2.1.lt (fun e => absurd (hr _ e.symm) (by omega))).trans h.2.2.1, (hg.block _ h.2.2.2.1.lt (fun e => absurd (hr _ e.symm) (by omega))).trans h.2.2.2.1, below_grown' h.2.2.2.2 hg (fun k hk => Nat.le_trans (by omega) (hr k hk)) (Nat.le_refl _)⟩
theorem RB.pl {y0 y1 y2 y3 y4 : Value} (h : RB W [y0, y1, y2, y3, y4] z4 z5 es w) (x0 x1 x2 x3 x4 : Value) : RB W [x0, x1, x2, x3, x4] z4 z5 es (((((w.setCell ⟨W.heap.size, 0, none⟩ x0).setCell ⟨W.heap.size, 1, none⟩ x1).setCell ⟨W.heap.size, 2, none⟩ x2).setCell ⟨W.heap.size, 3, none⟩ x3).setCell ⟨W.heap.size, 4, none⟩ x4) := ((((h.cp x0 (by decide)).cp x1 (by decide)).cp x2 (by decide)).cp x3 (by decide)).cp x4 (by decide)
theorem RB.p4 {y0 y1 y2 y3 y4 : Value} (h : RB W ps [y0, y1, y2, y3, y4] z5 es w) (x0 x1 x2 x3 x4 : Value) : RB W ps [x0, x1, x2, x3, x4] z5 es (((((w.setCell ⟨W.heap.size + 1, 0, none⟩ x0).setCell ⟨W.heap.size + 1, 1, none⟩ x1).setCell ⟨W.heap.size + 1, 2, none⟩ x2).setCell ⟨W.heap.size + 1, 3, none⟩ x3).setCell ⟨W.heap.size + 1, 4, none⟩ x4) := ((((h.c4 x0 (by decide)).c4 x1 (by decide)).c4 x2 (by decide)).c4 x3 (by decide)).c4 x4 (by decide)
theorem RB.p5 {y0 y1 y2 y3 : Value} (h : RB W ps z4 [y0, y1, y2, y3] es w) (x0 x1 x2 x3 : Value) : RB W ps z4 [x0, x1, x2, x3] es ((((w.setCell ⟨W.heap.size + 2, 0, none⟩ x0).setCell ⟨W.heap.size + 2, 1, none⟩ x1).setCell ⟨W.heap.size + 2, 2, none⟩ x2).setCell ⟨W.heap.size + 2, 3, none⟩ x3) := (((h.c5 x0 (by decide)).c5 x1 (by decide)).c5 x2 (by decide)).c5 x3 (by decide)
theorem RB.far4 (h : RB W ps z4 z5 es w) {g : Nat} (hg : W.heap.size + 4 ≤ g) (x0 x1 x2 x3 : Value) : RB W ps z4 z5 es ((((w.setCell ⟨g, 0, none⟩ x0).setCell ⟨g, 1, none⟩ x1).setCell ⟨g, 2, none⟩ x2).setCell ⟨g, 3, none⟩ x3) := (((h.far x0 hg).far x1 hg).far x2 hg).far x3 hg
end
def PI (b : List UInt8) (s : St) (ox cx ax : Int) : Prop := ∃ o2 : Nat, PlO b s o2 ∧ ox = o2 ∧ cx = (cO s : Nat) ∧ ax = (aO s : Nat)
theorem PI.go {b : List UInt8} {o : Nat} {ox cx ax : Int} (h : PI b (.go o) ox cx ax) : ox = o ∧ cx = 0 ∧ ax = 0 ∧ o ≤ b.length := by
 obtain ⟨o2, h1, rfl, rfl, rfl⟩ := h
 obtain rfl := h1.2.1 o rfl
 exact ⟨rfl, rfl, rfl, h1.1⟩
theorem PI.er {b : List UInt8} {c a : Nat} {ox cx ax : Int} (h : PI b (.er c a) ox cx ax) : ¬ cx = 0 := by
 obtain ⟨o2, h1, rfl, rfl, rfl⟩ := h
 have := h1.2.2 c a rfl
 show ¬ ((c : Nat) : Int) = 0
 omega
theorem PI.of_go {b : List UInt8} {o : Nat} (h : o ≤ b.length) : PI b (.go o) o 0 0 := ⟨o, ⟨h, (fun _ e => by cases e; rfl), (fun _ _ e => by cases e)⟩, rfl, rfl, rfl⟩
theorem PI.of_er {b : List UInt8} {o c a : Nat} (h : o ≤ b.length) (hc : c ≠ 0) : PI b (.er c a) o c a := ⟨o, ⟨h, (fun _ e => by cases e), (fun _ _ e => by cases e; exact hc)⟩, rfl, rfl, rfl⟩
section
variable {b : List UInt8} {s : St} {W : World} {q : Option Addr} {cp lv : Nat} {ox cx ax : Int}
theorem pNum (lo hi high : Nat) (hr : Rd W.heap.size W (.slice q b.length cp) b) (hp : PI b s ox cx ax) (hbl : b.length ≤ 1000000) (hhi : hi ≤ 1000000) (hlo : lo ≤ 1000000) (hg : high ≠ 0) : Calls Tryz.prog 25 #[.agg #[.slice q b.length cp, .int .i64 ox, .int .i64 cx, .int .i64 ax, .int .i64 (lv : Nat)], .int .i64 (lo : Nat), .int .i64 (hi : Nat), .int .i64 (high : Nat)] W fun e w' => ∃ ox2 cx2 ax2, e = .returned (.tuple #[.agg #[.slice q b.length cp, .int .i64 ox2, .int .i64 cx2, .int .i64 ax2, .int .i64 (lv : Nat)], .int .i64 ((numC b (chkR lo hi high) s).1 : Nat)]) ∧ PI b (numC b (chkR lo hi high) s).2 ox2 cx2 ax2 ∧ Below W.heap.size W w' := by
 obtain ⟨o2, h1, rfl, rfl, rfl⟩ := hp
 exact (rNumber_any lo hi high hr h1 hbl hhi hlo hg).mono fun e w' ⟨o3, h2, h3, h4⟩ => ⟨_, _, _, h2, ⟨o3, h3, rfl, rfl, rfl⟩, h4⟩
theorem pName (hr : Rd W.heap.size W (.slice q b.length cp) b) (hp : PI b s ox cx ax) (hbl : b.length ≤ 1000000) : Calls Tryz.prog 26 #[.agg #[.slice q b.length cp, .int .i64 ox, .int .i64 cx, .int .i64 ax, .int .i64 (lv : Nat)], .bool false] W fun e w' => ∃ ox2 cx2 ax2, e = .returned (.tuple #[.agg #[.slice q b.length cp, .int .i64 ox2, .int .i64 cx2, .int .i64 ax2, .int .i64 (lv : Nat)], .string (bstr (nameC b false s).1)]) ∧ PI b (nameC b false s).2 ox2 cx2 ax2 ∧ Below W.heap.size W w' := by
 obtain ⟨o2, h1, rfl, rfl, rfl⟩ := hp
 exact (rName_any false hr h1 hbl).mono fun e w' ⟨o3, h2, h3, h4⟩ => ⟨_, _, _, h2, ⟨o3, h3, rfl, rfl, rfl⟩, h4⟩
def QPost (W : World) (b : List UInt8) (q : Option Addr) (cp : Nat) (r : Ex × St × Nat) (e : Ending) (w' : World) : Prop := ∃ ox2 cx2 ax2 v, e = .returned (.tuple #[.agg #[.slice q b.length cp, .int .i64 ox2, .int .i64 cx2, .int .i64 ax2, .int .i64 (r.2.2 : Nat)], v]) ∧ PI b r.2.1 ox2 cx2 ax2 ∧ VE W.heap.size r.1 w' v ∧ Below W.heap.size W w'
end
theorem chkR_5 {x : Nat} (h : chkR 1 5 6 x = 0) : x ≤ 5 := by
 unfold chkR at h
 split at h
 ·cases h
 omega
theorem chkR_1 {x : Nat} (h : chkR 1 5 6 x = 0) : 1 ≤ x := by
 unfold chkR at h
 split at h
 ·cases h
 split at h
 ·cases h
 omega
theorem numC_ge {b : List UInt8} {chk : Nat → Nat} {s : St} {lo o' : Nat} (h : ∀ x, chk x = 0 → lo ≤ x) (hs : (numC b chk s).2 = .go o') : lo ≤ (numC b chk s).1 := by
 cases s with
 | er c a => cases hs
 | go o =>
  by_cases h1 : (num (b.drop o)).2.2 ≠ 0
  ·rw [numC_1 h1] at hs; cases hs
  ·by_cases h2 : chk (num (b.drop o)).1 ≠ 0
   ·rw [numC_2 h1 h2] at hs; cases hs
   ·rw [numC_3 h1 h2]
    exact h _ (Classical.not_not.1 h2)
section
variable {b : List UInt8} {s : St} {W : World} {q : Option Addr} {cp lv : Nat} {ox cx ax : Int}
theorem pNum1 (hr : Rd W.heap.size W (.slice q b.length cp) b) (hp : PI b s ox cx ax) (hbl : b.length ≤ 1000000) : Calls Tryz.prog 25 #[.agg #[.slice q b.length cp, .int .i64 ox, .int .i64 cx, .int .i64 ax, .int .i64 (lv : Nat)], .int .i64 1, .int .i64 5, .int .i64 6] W fun e w' => ∃ ox2 cx2 ax2, e = .returned (.tuple #[.agg #[.slice q b.length cp, .int .i64 ox2, .int .i64 cx2, .int .i64 ax2, .int .i64 (lv : Nat)], .int .i64 ((numC b (chkR 1 5 6) s).1 : Nat)]) ∧ PI b (numC b (chkR 1 5 6) s).2 ox2 cx2 ax2 ∧ Below W.heap.size W w' := pNum 1 5 6 hr hp hbl (by decide) (by decide) (by decide)
theorem pNum2 (hr : Rd W.heap.size W (.slice q b.length cp) b) (hp : PI b s ox cx ax) (hbl : b.length ≤ 1000000) : Calls Tryz.prog 25 #[.agg #[.slice q b.length cp, .int .i64 ox, .int .i64 cx, .int .i64 ax, .int .i64 (lv : Nat)], .int .i64 2, .int .i64 32, .int .i64 15] W fun e w' => ∃ ox2 cx2 ax2, e = .returned (.tuple #[.agg #[.slice q b.length cp, .int .i64 ox2, .int .i64 cx2, .int .i64 ax2, .int .i64 (lv : Nat)], .int .i64 ((numC b (chkR 2 32 15) s).1 : Nat)]) ∧ PI b (numC b (chkR 2 32 15) s).2 ox2 cx2 ax2 ∧ Below W.heap.size W w' := pNum 2 32 15 hr hp hbl (by decide) (by decide) (by decide)
theorem pFail7 {o a : Nat} : Calls Tryz.prog 53 #[.agg #[.slice q b.length cp, .int .i64 (o : Nat), .int .i64 0, .int .i64 0, .int .i64 (lv : Nat)], .int .i64 7, .int .i64 (a : Nat)] W fun e w' => e = .returned (.agg #[.slice q b.length cp, .int .i64 (o : Nat), .int .i64 7, .int .i64 (a : Nat), .int .i64 (lv : Nat)]) ∧ Below W.heap.size W w' := rFail_any (b := b) 7 a
theorem pFail15 {o a : Nat} : Calls Tryz.prog 53 #[.agg #[.slice q b.length cp, .int .i64 (o : Nat), .int .i64 0, .int .i64 0, .int .i64 (lv : Nat)], .int .i64 15, .int .i64 (a : Nat)] W fun e w' => e = .returned (.agg #[.slice q b.length cp, .int .i64 (o : Nat), .int .i64 15, .int .i64 (a : Nat), .int .i64 (lv : Nat)]) ∧ Below W.heap.size W w' := rFail_any (b := b) 15 a
end
section
variable {b : List UInt8} {W : World} {q : Option Addr} {cp o lv : Nat}
set_option maxRecDepth 100000 in
set_option maxHeartbeats 8000000 in
theorem rRead_zero {D : Nat} (hd : D = 17) (hr : Rd W.heap.size W (.slice q b.length cp) b) (hbl : b.length ≤ 1000000) (ho : o ≤ b.length) (hl : lv ≤ 32) : Calls Tryz.prog 27 #[.agg #[.slice q b.length cp, .int .i64 (o : Nat), .int .i64 0, .int .i64 0, .int .i64 (lv : Nat)], .int .i64 (D : Nat)] W (QPost W b q cp (refC b 0 o lv)) := by
 have hdp : (16 : Int) < (D : Nat) := by omega
 have HE0 : Hid (refC b 0 o lv = topE 0 o lv (fun _ _ => (ex0, .er 7 o, lv)) (numC b (chkR 1 5 6) (.go o))) := rfl
 clear hd
 have hb4 : Below W.heap.size W ((((W.alloc (.cells #[.slice q b.length cp, .int .i64 (o : Nat), .int .i64 0, .int .i64 0, .int .i64 (lv : Nat)] 59)).alloc (.cells #[.slice none 0 0, .int .i64 0, .int .i64 0, .int .i64 0, .int .i64 0] 59)).alloc (.cells #[.int .i64 0, .string ⟨#[]⟩, .string ⟨#[]⟩, .slice none 0 0] 42)).alloc (.cells #[.int .i64 0, .string ⟨#[]⟩, .string ⟨#[]⟩, .slice none 0 0] 42)) := ((((Below.refl _ _).alloc (Nat.le_refl _) _).alloc (by simp) _).alloc (by simp; omega) _).alloc (by simp; omega) _
 have hE4 : Arr ((((W.alloc (.cells #[.slice q b.length cp, .int .i64 (o : Nat), .int .i64 0, .int .i64 0, .int .i64 (lv : Nat)] 59)).alloc (.cells #[.slice none 0 0, .int .i64 0, .int .i64 0, .int .i64 0, .int .i64 0] 59)).alloc (.cells #[.int .i64 0, .string ⟨#[]⟩, .string ⟨#[]⟩, .slice none 0 0] 42)).alloc (.cells #[.int .i64 0, .string ⟨#[]⟩, .string ⟨#[]⟩, .slice none 0 0] 42)) 42 (W.heap.size + 3) [.int .i64 0, .string ⟨#[]⟩, .string ⟨#[]⟩, .slice none 0 0] := by
  have h := Arr.new' (((W.alloc (.cells #[.slice q b.length cp, .int .i64 (o : Nat), .int .i64 0, .int .i64 0, .int .i64 (lv : Nat)] 59)).alloc (.cells #[.slice none 0 0, .int .i64 0, .int .i64 0, .int .i64 0, .int .i64 0] 59)).alloc (.cells #[.int .i64 0, .string ⟨#[]⟩, .string ⟨#[]⟩, .slice none 0 0] 42)) 42 #[.int .i64 0, .string ⟨#[]⟩, .string ⟨#[]⟩, .slice none 0 0] _ rfl
  rw [World.size_alloc, World.size_alloc, World.size_alloc] at h
  exact h
 have HR0 : Hid (RB W [.slice q b.length cp, .int .i64 (o : Nat), .int .i64 0, .int .i64 0, .int .i64 (lv : Nat)] [.slice none 0 0, .int .i64 0, .int .i64 0, .int .i64 0, .int .i64 0] [.int .i64 0, .string ⟨#[]⟩, .string ⟨#[]⟩, .slice none 0 0] [.int .i64 0, .string ⟨#[]⟩, .string ⟨#[]⟩, .slice none 0 0] ((((W.alloc (.cells #[.slice q b.length cp, .int .i64 (o : Nat), .int .i64 0, .int .i64 0, .int .i64 (lv : Nat)] 59)).alloc (.cells #[.slice none 0 0, .int .i64 0, .int .i64 0, .int .i64 0, .int .i64 0] 59)).alloc (.cells #[.int .i64 0, .string ⟨#[]⟩, .string ⟨#[]⟩, .slice none 0 0] 42)).alloc (.cells #[.int .i64 0, .string ⟨#[]⟩, .string ⟨#[]⟩, .slice none 0 0] 42))) := ⟨(((Arr.new' _ _ _ _ rfl).alloc _).alloc _).alloc _, ((Arr.new2 _ _ _ _ _ rfl).alloc _).alloc _, (Arr.new3 _ _ _ _ _ _ rfl).alloc _, hE4, hb4⟩
 have HRD := hiD hr
 have HBL := hiD hbl
 have HLV := hiD hl
 have HN1 := hiD (pNum1 (lv := lv) ((hr.below hb4 (Nat.le_refl _)).mono hb4.size) (PI.of_go ho) hbl)
 obtain ⟨k, hk⟩ : ∃ x, x = (numC b (chkR 1 5 6) (.go o)).1 := ⟨_, rfl⟩
 obtain ⟨s1, hs1⟩ : ∃ x, x = (numC b (chkR 1 5 6) (.go o)).2 := ⟨_, rfl⟩
 have HPR : Hid (numC b (chkR 1 5 6) (.go o) = (k, s1)) := Prod.ext hk.symm hs1.symm
 rw [← hk, ← hs1] at HN1
 have HK5 : Hid (s1 ≠ .er 0 0 → k ≤ 5) := fun _ => by rw [hk]; exact numC_le (fun x h => chkR_5 h) _
 have HKG : Hid (∀ o', s1 = .go o' → 1 ≤ k) := fun o' h => by
  rw [hs1] at h; rw [hk]; exact numC_ge (fun x h => chkR_1 h) h
 have HOL := hiD ho
 clear hr hbl hl hk hs1 ho hb4 hE4
 go_enter Tryz.func27, Tryz.ntmps27
 go_upto_region 2 with (fail)
 generalize ((((W.alloc (.cells #[.slice q b.length cp, .int .i64 (o : Nat), .int .i64 0, .int .i64 0, .int .i64 (lv : Nat)] 59)).alloc (.cells #[.slice none 0 0, .int .i64 0, .int .i64 0, .int .i64 0, .int .i64 0] 59)).alloc (.cells #[.int .i64 0, .string ⟨#[]⟩, .string ⟨#[]⟩, .slice none 0 0] 42)).alloc (.cells #[.int .i64 0, .string ⟨#[]⟩, .string ⟨#[]⟩, .slice none 0 0] 42)) = w0 at HR0 HN1 ⊢
 have x0 := HR0.out.1.cell 0
 have y0 := HR0.out.1.free 0
 have x1 := HR0.out.1.cell 1
 have y1 := HR0.out.1.free 1
 have x2 := HR0.out.1.cell 2
 have y2 := HR0.out.1.free 2
 have x3 := HR0.out.1.cell 3
 have y3 := HR0.out.1.free 3
 have x4 := HR0.out.1.cell 4
 have y4 := HR0.out.1.free 4
 simp only [List.getElem?_cons_zero, List.getElem?_cons_succ] at x0 x1 x2 x3 x4
 have e0 := HR0.out.2.2.2.1.cell 0
 have f0 := HR0.out.2.2.2.1.free 0
 have e1 := HR0.out.2.2.2.1.cell 1
 have f1 := HR0.out.2.2.2.1.free 1
 have e2 := HR0.out.2.2.2.1.cell 2
 have f2 := HR0.out.2.2.2.1.free 2
 have e3 := HR0.out.2.2.2.1.cell 3
 have f3 := HR0.out.2.2.2.1.free 3
 simp only [List.getElem?_cons_zero, List.getElem?_cons_succ] at e0 e1 e2 e3
 go_wp2_with fail
 refine HN1.out.mono ?_
 rintro e w1 ⟨ox, cx, ax, rfl, hp1, b1⟩
 have HR1 := hiD (HR0.out.later b1)
 have HP1 := hiD hp1
 clear hp1 b1 HN1 HR0
 clear x0 y0 x1 y1 x2 y2 x3 y3 x4 y4
 clear e0 f0 e1 f1 e2 f2 e3 f3
 have x0 := HR1.out.1.cell 0
 have y0 := HR1.out.1.free 0
 have x1 := HR1.out.1.cell 1
 have y1 := HR1.out.1.free 1
 have x2 := HR1.out.1.cell 2
 have y2 := HR1.out.1.free 2
 have x3 := HR1.out.1.cell 3
 have y3 := HR1.out.1.free 3
 have x4 := HR1.out.1.cell 4
 have y4 := HR1.out.1.free 4
 simp only [List.getElem?_cons_zero, List.getElem?_cons_succ] at x0 x1 x2 x3 x4
 have e0 := HR1.out.2.2.2.1.cell 0
 have f0 := HR1.out.2.2.2.1.free 0
 have e1 := HR1.out.2.2.2.1.cell 1
 have f1 := HR1.out.2.2.2.1.free 1
 have e2 := HR1.out.2.2.2.1.cell 2
 have f2 := HR1.out.2.2.2.1.free 2
 have e3 := HR1.out.2.2.2.1.cell 3
 have f3 := HR1.out.2.2.2.1.free 3
 simp only [List.getElem?_cons_zero, List.getElem?_cons_succ] at e0 e1 e2 e3
 go_upto_region 4 with (fail)
 have HR2 := hiD ((HR1.out.pl (.slice q b.length cp) (.int .i64 ox) (.int .i64 cx) (.int .i64 ax) (.int .i64 (lv : Nat))).ce (i := 0) (.int .i64 (k : Nat)) (by decide))
 clear x0 y0 x1 y1 x2 y2 x3 y3 x4 y4
 clear e0 f0 e1 f1 e2 f2 e3 f3
 have HR3 : Hid (RB W [.slice q b.length cp, .int .i64 ox, .int .i64 cx, .int .i64 ax, .int .i64 (lv : Nat)] [.slice none 0 0, .int .i64 0, .int .i64 0, .int .i64 0, .int .i64 0] [.int .i64 0, .string ⟨#[]⟩, .string ⟨#[]⟩, .slice none 0 0] [.int .i64 (k : Nat), .string ⟨#[]⟩, .string ⟨#[]⟩, .slice none 0 0] ((((((w1.setCell ⟨W.heap.size, 0, none⟩ (.slice q b.length cp)).setCell ⟨W.heap.size, 1, none⟩ (.int .i64 ox)).setCell ⟨W.heap.size, 2, none⟩ (.int .i64 cx)).setCell ⟨W.heap.size, 3, none⟩ (.int .i64 ax)).setCell ⟨W.heap.size, 4, none⟩ (.int .i64 (lv : Nat))).setCell ⟨W.heap.size + 3, 0, none⟩ (.int .i64 (k : Nat)))) := HR2.out
 clear HR1 HR2
 generalize ((((((w1.setCell ⟨W.heap.size, 0, none⟩ (.slice q b.length cp)).setCell ⟨W.heap.size, 1, none⟩ (.int .i64 ox)).setCell ⟨W.heap.size, 2, none⟩ (.int .i64 cx)).setCell ⟨W.heap.size, 3, none⟩ (.int .i64 ax)).setCell ⟨W.heap.size, 4, none⟩ (.int .i64 (lv : Nat))).setCell ⟨W.heap.size + 3, 0, none⟩ (.int .i64 (k : Nat))) = w3 at HR3 ⊢
 rw [HPR.out] at HE0
 cases s1 with
 | er c a =>
  have hcx := HP1.out.er
  have hc2 : (cx == 0) = false := by simpa using hcx
  have hc3 : (cx != 0) = true := by simpa using hcx
  have HE : Hid (refC b 0 o lv = (ex0, .er c a, lv)) := HE0.out
  clear HE0 HK5 HKG
  have x0 := HR3.out.1.cell 0
  have y0 := HR3.out.1.free 0
  have x1 := HR3.out.1.cell 1
  have y1 := HR3.out.1.free 1
  have x2 := HR3.out.1.cell 2
  have y2 := HR3.out.1.free 2
  have x3 := HR3.out.1.cell 3
  have y3 := HR3.out.1.free 3
  have x4 := HR3.out.1.cell 4
  have y4 := HR3.out.1.free 4
  simp only [List.getElem?_cons_zero, List.getElem?_cons_succ] at x0 x1 x2 x3 x4
  have p0 := HR3.out.2.1.cell 0
  have z0 := HR3.out.2.1.free 0
  have p1 := HR3.out.2.1.cell 1
  have z1 := HR3.out.2.1.free 1
  have p2 := HR3.out.2.1.cell 2
  have z2 := HR3.out.2.1.free 2
  have p3 := HR3.out.2.1.cell 3
  have z3 := HR3.out.2.1.free 3
  have p4 := HR3.out.2.1.cell 4
  have z4 := HR3.out.2.1.free 4
  simp only [List.getElem?_cons_zero, List.getElem?_cons_succ] at p0 p1 p2 p3 p4
  have g0 := HR3.out.2.2.1.cell 0
  have h0 := HR3.out.2.2.1.free 0
  have g1 := HR3.out.2.2.1.cell 1
  have h1 := HR3.out.2.2.1.free 1
  have g2 := HR3.out.2.2.1.cell 2
  have h2 := HR3.out.2.2.1.free 2
  have g3 := HR3.out.2.2.1.cell 3
  have h3 := HR3.out.2.2.1.free 3
  simp only [List.getElem?_cons_zero, List.getElem?_cons_succ] at g0 g1 g2 g3
  go_wp2_with fail
  have hF := (HR3.out.p4 (.slice q b.length cp) (.int .i64 ox) (.int .i64 cx) (.int .i64 ax) (.int .i64 (lv : Nat))).p5 (.int .i64 0) (.string ⟨#[]⟩) (.string ⟨#[]⟩) (.slice none 0 0)
  refine bodyPost_ret (resPX rfl hF.2.1 hF.2.2.1 rfl rfl) rfl ?_
  rw [HE.out]
  exact ⟨_, _, _, _, rfl, HP1.out, VE.leaf _ _ _ _ _, hF.2.2.2.2⟩
 | go o1 =>
  obtain ⟨rfl, rfl, rfl, hol⟩ := HP1.out.go
  have HOL1 := hiD hol
  have HE : Hid (refC b 0 o lv = (ex0, .er 7 o, lv)) := HE0.out
  clear HE0 HK5 HKG hol
  have x0 := HR3.out.1.cell 0
  have y0 := HR3.out.1.free 0
  have x1 := HR3.out.1.cell 1
  have y1 := HR3.out.1.free 1
  have x2 := HR3.out.1.cell 2
  have y2 := HR3.out.1.free 2
  have x3 := HR3.out.1.cell 3
  have y3 := HR3.out.1.free 3
  have x4 := HR3.out.1.cell 4
  have y4 := HR3.out.1.free 4
  simp only [List.getElem?_cons_zero, List.getElem?_cons_succ] at x0 x1 x2 x3 x4
  have e0 := HR3.out.2.2.2.1.cell 0
  have f0 := HR3.out.2.2.2.1.free 0
  have e1 := HR3.out.2.2.2.1.cell 1
  have f1 := HR3.out.2.2.2.1.free 1
  have e2 := HR3.out.2.2.2.1.cell 2
  have f2 := HR3.out.2.2.2.1.free 2
  have e3 := HR3.out.2.2.2.1.cell 3
  have f3 := HR3.out.2.2.2.1.free 3
  simp only [List.getElem?_cons_zero, List.getElem?_cons_succ] at e0 e1 e2 e3
  go_wp2_with fail
  refine (pFail7 (b := b)).mono ?_
  rintro e w4 ⟨rfl, b4⟩
  have HR4 := hiD (HR3.out.later b4)
  clear b4 HR3
  clear x0 y0 x1 y1 x2 y2 x3 y3 x4 y4
  clear e0 f0 e1 f1 e2 f2 e3 f3
  have x0 := HR4.out.1.cell 0
  have y0 := HR4.out.1.free 0
  have x1 := HR4.out.1.cell 1
  have y1 := HR4.out.1.free 1
  have x2 := HR4.out.1.cell 2
  have y2 := HR4.out.1.free 2
  have x3 := HR4.out.1.cell 3
  have y3 := HR4.out.1.free 3
  have x4 := HR4.out.1.cell 4
  have y4 := HR4.out.1.free 4
  simp only [List.getElem?_cons_zero, List.getElem?_cons_succ] at x0 x1 x2 x3 x4
  go_upto_region 6 with (fail)
  have HR5 := hiD (HR4.out.pl (.slice q b.length cp) (.int .i64 (o1 : Nat)) (.int .i64 7) (.int .i64 (o : Nat)) (.int .i64 (lv : Nat)))
  clear x0 y0 x1 y1 x2 y2 x3 y3 x4 y4
  clear HR4
  generalize (((((w4.setCell ⟨W.heap.size, 0, none⟩ (.slice q b.length cp)).setCell ⟨W.heap.size, 1, none⟩ (.int .i64 (o1 : Nat))).setCell ⟨W.heap.size, 2, none⟩ (.int .i64 7)).setCell ⟨W.heap.size, 3, none⟩ (.int .i64 (o : Nat))).setCell ⟨W.heap.size, 4, none⟩ (.int .i64 (lv : Nat))) = w5 at HR5 ⊢
  have x0 := HR5.out.1.cell 0
  have y0 := HR5.out.1.free 0
  have x1 := HR5.out.1.cell 1
  have y1 := HR5.out.1.free 1
  have x2 := HR5.out.1.cell 2
  have y2 := HR5.out.1.free 2
  have x3 := HR5.out.1.cell 3
  have y3 := HR5.out.1.free 3
  have x4 := HR5.out.1.cell 4
  have y4 := HR5.out.1.free 4
  simp only [List.getElem?_cons_zero, List.getElem?_cons_succ] at x0 x1 x2 x3 x4
  have p0 := HR5.out.2.1.cell 0
  have z0 := HR5.out.2.1.free 0
  have p1 := HR5.out.2.1.cell 1
  have z1 := HR5.out.2.1.free 1
  have p2 := HR5.out.2.1.cell 2
  have z2 := HR5.out.2.1.free 2
  have p3 := HR5.out.2.1.cell 3
  have z3 := HR5.out.2.1.free 3
  have p4 := HR5.out.2.1.cell 4
  have z4 := HR5.out.2.1.free 4
  simp only [List.getElem?_cons_zero, List.getElem?_cons_succ] at p0 p1 p2 p3 p4
  have g0 := HR5.out.2.2.1.cell 0
  have h0 := HR5.out.2.2.1.free 0
  have g1 := HR5.out.2.2.1.cell 1
  have h1 := HR5.out.2.2.1.free 1
  have g2 := HR5.out.2.2.1.cell 2
  have h2 := HR5.out.2.2.1.free 2
  have g3 := HR5.out.2.2.1.cell 3
  have h3 := HR5.out.2.2.1.free 3
  simp only [List.getElem?_cons_zero, List.getElem?_cons_succ] at g0 g1 g2 g3
  go_wp2_with fail
  have hF := (HR5.out.p4 (.slice q b.length cp) (.int .i64 (o1 : Nat)) (.int .i64 7) (.int .i64 (o : Nat)) (.int .i64 (lv : Nat))).p5 (.int .i64 0) (.string ⟨#[]⟩) (.string ⟨#[]⟩) (.slice none 0 0)
  refine bodyPost_ret (resPX rfl hF.2.1 hF.2.2.1 rfl rfl) rfl ?_
  rw [HE.out]
  exact ⟨_, _, _, _, rfl, PI.of_er (by first | exact HOL1.out | exact HOL.out) (by decide), VE.leaf _ _ _ _ _, hF.2.2.2.2⟩
end
theorem PRow.box4 {α : Type} {K : Kd α} {base : Nat} {X : Nat → Prop} {w : World} {v : Value} {xs : List α} (h : PRow K base X w v xs) {g : Nat} (hg : g < base) (x0 x1 x2 x3 : Value) : PRow K base X ((((w.setCell ⟨g, 0, none⟩ x0).setCell ⟨g, 1, none⟩ x1).setCell ⟨g, 2, none⟩ x2).setCell ⟨g, 3, none⟩ x3) v xs := (((h.box (.inl hg) 0 x0).box (.inl hg) 1 x1).box (.inl hg) 2 x2).box (.inl hg) 3 x3
theorem PRow.box5 {α : Type} {K : Kd α} {base : Nat} {X : Nat → Prop} {w : World} {v : Value} {xs : List α} (h : PRow K base X w v xs) {g : Nat} (hg : g < base) (x0 x1 x2 x3 x4 : Value) : PRow K base X (((((w.setCell ⟨g, 0, none⟩ x0).setCell ⟨g, 1, none⟩ x1).setCell ⟨g, 2, none⟩ x2).setCell ⟨g, 3, none⟩ x3).setCell ⟨g, 4, none⟩ x4) v xs := (h.box4 hg x0 x1 x2 x3).box (.inl hg) 4 x4
section
variable {b : List UInt8} {W : World} {q : Option Addr} {cp o lv : Nat}
set_option maxRecDepth 100000 in
set_option maxHeartbeats 16000000 in
theorem rRead_step {d D : Nat} (hd : D = 17 - (d + 1)) (hd16 : d + 1 ≤ 16) (IH : ∀ (W : World) (o lv : Nat), Rd W.heap.size W (.slice q b.length cp) b → b.length ≤ 1000000 → o ≤ b.length → lv ≤ 32 → Calls Tryz.prog 27 #[.agg #[.slice q b.length cp, .int .i64 (o : Nat), .int .i64 0, .int .i64 0, .int .i64 (lv : Nat)], .int .i64 ((D : Int) + 1)] W (QPost W b q cp (refC b d o lv))) (hr : Rd W.heap.size W (.slice q b.length cp) b) (hbl : b.length ≤ 1000000) (ho : o ≤ b.length) (hl : lv ≤ 32) : Calls Tryz.prog 27 #[.agg #[.slice q b.length cp, .int .i64 (o : Nat), .int .i64 0, .int .i64 0, .int .i64 (lv : Nat)], .int .i64 (D : Nat)] W (QPost W b q cp (refC b (d + 1) o lv)) := by
  have hdp : ¬ (16 : Int) < (D : Nat) := by omega
  have hDW : wrap64 ((D : Int) + 1) = (D : Int) + 1 := by unfold wrap64; omega
  replace IH := hiD IH
  have HE0 : Hid (refC b (d + 1) o lv = topE (d + 1) o lv (fun k o1 => bodyE b (refC b d) k o1 lv) (numC b (chkR 1 5 6) (.go o))) := rfl
  clear hd hd16
  have hb4 : Below W.heap.size W ((((W.alloc (.cells #[.slice q b.length cp, .int .i64 (o : Nat), .int .i64 0, .int .i64 0, .int .i64 (lv : Nat)] 59)).alloc (.cells #[.slice none 0 0, .int .i64 0, .int .i64 0, .int .i64 0, .int .i64 0] 59)).alloc (.cells #[.int .i64 0, .string ⟨#[]⟩, .string ⟨#[]⟩, .slice none 0 0] 42)).alloc (.cells #[.int .i64 0, .string ⟨#[]⟩, .string ⟨#[]⟩, .slice none 0 0] 42)) := ((((Below.refl _ _).alloc (Nat.le_refl _) _).alloc (by simp) _).alloc (by simp; omega) _).alloc (by simp; omega) _
  have hE4 : Arr ((((W.alloc (.cells #[.slice q b.length cp, .int .i64 (o : Nat), .int .i64 0, .int .i64 0, .int .i64 (lv : Nat)] 59)).alloc (.cells #[.slice none 0 0, .int .i64 0, .int .i64 0, .int .i64 0, .int .i64 0] 59)).alloc (.cells #[.int .i64 0, .string ⟨#[]⟩, .string ⟨#[]⟩, .slice none 0 0] 42)).alloc (.cells #[.int .i64 0, .string ⟨#[]⟩, .string ⟨#[]⟩, .slice none 0 0] 42)) 42 (W.heap.size + 3) [.int .i64 0, .string ⟨#[]⟩, .string ⟨#[]⟩, .slice none 0 0] := by
    have h := Arr.new' (((W.alloc (.cells #[.slice q b.length cp, .int .i64 (o : Nat), .int .i64 0, .int .i64 0, .int .i64 (lv : Nat)] 59)).alloc (.cells #[.slice none 0 0, .int .i64 0, .int .i64 0, .int .i64 0, .int .i64 0] 59)).alloc (.cells #[.int .i64 0, .string ⟨#[]⟩, .string ⟨#[]⟩, .slice none 0 0] 42)) 42 #[.int .i64 0, .string ⟨#[]⟩, .string ⟨#[]⟩, .slice none 0 0] _ rfl
    rw [World.size_alloc, World.size_alloc, World.size_alloc] at h
    exact h
  have HR0 : Hid (RB W [.slice q b.length cp, .int .i64 (o : Nat), .int .i64 0, .int .i64 0, .int .i64 (lv : Nat)] [.slice none 0 0, .int .i64 0, .int .i64 0, .int .i64 0, .int .i64 0] [.int .i64 0, .string ⟨#[]⟩, .string ⟨#[]⟩, .slice none 0 0] [.int .i64 0, .string ⟨#[]⟩, .string ⟨#[]⟩, .slice none 0 0] ((((W.alloc (.cells #[.slice q b.length cp, .int .i64 (o : Nat), .int .i64 0, .int .i64 0, .int .i64 (lv : Nat)] 59)).alloc (.cells #[.slice none 0 0, .int .i64 0, .int .i64 0, .int .i64 0, .int .i64 0] 59)).alloc (.cells #[.int .i64 0, .string ⟨#[]⟩, .string ⟨#[]⟩, .slice none 0 0] 42)).alloc (.cells #[.int .i64 0, .string ⟨#[]⟩, .string ⟨#[]⟩, .slice none 0 0] 42))) := ⟨(((Arr.new' _ _ _ _ rfl).alloc _).alloc _).alloc _, ((Arr.new2 _ _ _ _ _ rfl).alloc _).alloc _, (Arr.new3 _ _ _ _ _ _ rfl).alloc _, hE4, hb4⟩
  have HRD := hiD hr
  have HBL := hiD hbl
  have HLV := hiD hl
  have HN1 := hiD (pNum1 (lv := lv) ((hr.below hb4 (Nat.le_refl _)).mono hb4.size) (PI.of_go ho) hbl)
  obtain ⟨k, hk⟩ : ∃ x, x = (numC b (chkR 1 5 6) (.go o)).1 := ⟨_, rfl⟩
  obtain ⟨s1, hs1⟩ : ∃ x, x = (numC b (chkR 1 5 6) (.go o)).2 := ⟨_, rfl⟩
  have HPR : Hid (numC b (chkR 1 5 6) (.go o) = (k, s1)) := Prod.ext hk.symm hs1.symm
  rw [← hk, ← hs1] at HN1
  have HK5 : Hid (s1 ≠ .er 0 0 → k ≤ 5) := fun _ => by rw [hk]; exact numC_le (fun x h => chkR_5 h) _
  have HKG : Hid (∀ o', s1 = .go o' → 1 ≤ k) := fun o' h => by
    rw [hs1] at h; rw [hk]; exact numC_ge (fun x h => chkR_1 h) h
  have HOL := hiD ho
  clear hr hbl hl hk hs1 ho hb4 hE4
  go_enter Tryz.func27, Tryz.ntmps27
  go_upto_region 2 with (fail)
  generalize ((((W.alloc (.cells #[.slice q b.length cp, .int .i64 (o : Nat), .int .i64 0, .int .i64 0, .int .i64 (lv : Nat)] 59)).alloc (.cells #[.slice none 0 0, .int .i64 0, .int .i64 0, .int .i64 0, .int .i64 0] 59)).alloc (.cells #[.int .i64 0, .string ⟨#[]⟩, .string ⟨#[]⟩, .slice none 0 0] 42)).alloc (.cells #[.int .i64 0, .string ⟨#[]⟩, .string ⟨#[]⟩, .slice none 0 0] 42)) = w0 at HR0 HN1 ⊢
  have x0 := HR0.out.1.cell 0
  have y0 := HR0.out.1.free 0
  have x1 := HR0.out.1.cell 1
  have y1 := HR0.out.1.free 1
  have x2 := HR0.out.1.cell 2
  have y2 := HR0.out.1.free 2
  have x3 := HR0.out.1.cell 3
  have y3 := HR0.out.1.free 3
  have x4 := HR0.out.1.cell 4
  have y4 := HR0.out.1.free 4
  simp only [List.getElem?_cons_zero, List.getElem?_cons_succ] at x0 x1 x2 x3 x4
  have e0 := HR0.out.2.2.2.1.cell 0
  have f0 := HR0.out.2.2.2.1.free 0
  have e1 := HR0.out.2.2.2.1.cell 1
  have f1 := HR0.out.2.2.2.1.free 1
  have e2 := HR0.out.2.2.2.1.cell 2
  have f2 := HR0.out.2.2.2.1.free 2
  have e3 := HR0.out.2.2.2.1.cell 3
  have f3 := HR0.out.2.2.2.1.free 3
  simp only [List.getElem?_cons_zero, List.getElem?_cons_succ] at e0 e1 e2 e3
  go_wp2_with fail
  refine HN1.out.mono ?_
  rintro e w1 ⟨ox, cx, ax, rfl, hp1, b1⟩
  have HR1 := hiD (HR0.out.later b1)
  have HP1 := hiD hp1
  clear hp1 b1 HN1 HR0
  clear x0 y0 x1 y1 x2 y2 x3 y3 x4 y4
  clear e0 f0 e1 f1 e2 f2 e3 f3
  rw [HPR.out] at HE0
  clear HPR
  cases s1 with
  | er c a =>
    have x0 := HR1.out.1.cell 0
    have y0 := HR1.out.1.free 0
    have x1 := HR1.out.1.cell 1
    have y1 := HR1.out.1.free 1
    have x2 := HR1.out.1.cell 2
    have y2 := HR1.out.1.free 2
    have x3 := HR1.out.1.cell 3
    have y3 := HR1.out.1.free 3
    have x4 := HR1.out.1.cell 4
    have y4 := HR1.out.1.free 4
    simp only [List.getElem?_cons_zero, List.getElem?_cons_succ] at x0 x1 x2 x3 x4
    have e0 := HR1.out.2.2.2.1.cell 0
    have f0 := HR1.out.2.2.2.1.free 0
    have e1 := HR1.out.2.2.2.1.cell 1
    have f1 := HR1.out.2.2.2.1.free 1
    have e2 := HR1.out.2.2.2.1.cell 2
    have f2 := HR1.out.2.2.2.1.free 2
    have e3 := HR1.out.2.2.2.1.cell 3
    have f3 := HR1.out.2.2.2.1.free 3
    simp only [List.getElem?_cons_zero, List.getElem?_cons_succ] at e0 e1 e2 e3
    go_upto_region 4 with (fail)
    have HR2 := hiD ((HR1.out.pl (.slice q b.length cp) (.int .i64 ox) (.int .i64 cx) (.int .i64 ax) (.int .i64 (lv : Nat))).ce (i := 0) (.int .i64 (k : Nat)) (by decide))
    clear x0 y0 x1 y1 x2 y2 x3 y3 x4 y4
    clear e0 f0 e1 f1 e2 f2 e3 f3
    have HR3 : Hid (RB W [.slice q b.length cp, .int .i64 ox, .int .i64 cx, .int .i64 ax, .int .i64 (lv : Nat)] [.slice none 0 0, .int .i64 0, .int .i64 0, .int .i64 0, .int .i64 0] [.int .i64 0, .string ⟨#[]⟩, .string ⟨#[]⟩, .slice none 0 0] [.int .i64 (k : Nat), .string ⟨#[]⟩, .string ⟨#[]⟩, .slice none 0 0] ((((((w1.setCell ⟨W.heap.size, 0, none⟩ (.slice q b.length cp)).setCell ⟨W.heap.size, 1, none⟩ (.int .i64 ox)).setCell ⟨W.heap.size, 2, none⟩ (.int .i64 cx)).setCell ⟨W.heap.size, 3, none⟩ (.int .i64 ax)).setCell ⟨W.heap.size, 4, none⟩ (.int .i64 (lv : Nat))).setCell ⟨W.heap.size + 3, 0, none⟩ (.int .i64 (k : Nat)))) := HR2.out
    clear HR1 HR2
    generalize ((((((w1.setCell ⟨W.heap.size, 0, none⟩ (.slice q b.length cp)).setCell ⟨W.heap.size, 1, none⟩ (.int .i64 ox)).setCell ⟨W.heap.size, 2, none⟩ (.int .i64 cx)).setCell ⟨W.heap.size, 3, none⟩ (.int .i64 ax)).setCell ⟨W.heap.size, 4, none⟩ (.int .i64 (lv : Nat))).setCell ⟨W.heap.size + 3, 0, none⟩ (.int .i64 (k : Nat))) = w3 at HR3 ⊢
    have hcx := HP1.out.er
    have hc2 : (cx == 0) = false := by simpa using hcx
    have hc3 : (cx != 0) = true := by simpa using hcx
    have HE : Hid (refC b (d + 1) o lv = (ex0, .er c a, lv)) := HE0.out
    clear HE0 HK5 HKG IH
    have x0 := HR3.out.1.cell 0
    have y0 := HR3.out.1.free 0
    have x1 := HR3.out.1.cell 1
    have y1 := HR3.out.1.free 1
    have x2 := HR3.out.1.cell 2
    have y2 := HR3.out.1.free 2
    have x3 := HR3.out.1.cell 3
    have y3 := HR3.out.1.free 3
    have x4 := HR3.out.1.cell 4
    have y4 := HR3.out.1.free 4
    simp only [List.getElem?_cons_zero, List.getElem?_cons_succ] at x0 x1 x2 x3 x4
    have p0 := HR3.out.2.1.cell 0
    have z0 := HR3.out.2.1.free 0
    have p1 := HR3.out.2.1.cell 1
    have z1 := HR3.out.2.1.free 1
    have p2 := HR3.out.2.1.cell 2
    have z2 := HR3.out.2.1.free 2
    have p3 := HR3.out.2.1.cell 3
    have z3 := HR3.out.2.1.free 3
    have p4 := HR3.out.2.1.cell 4
    have z4 := HR3.out.2.1.free 4
    simp only [List.getElem?_cons_zero, List.getElem?_cons_succ] at p0 p1 p2 p3 p4
    have g0 := HR3.out.2.2.1.cell 0
    have h0 := HR3.out.2.2.1.free 0
    have g1 := HR3.out.2.2.1.cell 1
    have h1 := HR3.out.2.2.1.free 1
    have g2 := HR3.out.2.2.1.cell 2
    have h2 := HR3.out.2.2.1.free 2
    have g3 := HR3.out.2.2.1.cell 3
    have h3 := HR3.out.2.2.1.free 3
    simp only [List.getElem?_cons_zero, List.getElem?_cons_succ] at g0 g1 g2 g3
    go_wp2_with fail
    have hF := (HR3.out.p4 (.slice q b.length cp) (.int .i64 ox) (.int .i64 cx) (.int .i64 ax) (.int .i64 (lv : Nat))).p5 (.int .i64 0) (.string ⟨#[]⟩) (.string ⟨#[]⟩) (.slice none 0 0)
    refine bodyPost_ret (resPX rfl hF.2.1 hF.2.2.1 rfl rfl) rfl ?_
    rw [HE.out]
    exact ⟨_, _, _, _, rfl, HP1.out, VE.leaf _ _ _ _ _, hF.2.2.2.2⟩
  | go o1 =>
    obtain ⟨rfl, rfl, rfl, hol⟩ := HP1.out.go
    have HOL1 := hiD hol
    have hk5 := HK5.out (by intro h; cases h)
    have hk1 := HKG.out o1 rfl
    have hk6 : k = 1 ∨ k = 2 ∨ k = 3 ∨ k = 4 ∨ k = 5 := by omega
    clear hol hk5 hk1 HP1
    rcases hk6 with rfl | rfl | rfl | rfl | rfl
    · have x0 := HR1.out.1.cell 0
      have y0 := HR1.out.1.free 0
      have x1 := HR1.out.1.cell 1
      have y1 := HR1.out.1.free 1
      have x2 := HR1.out.1.cell 2
      have y2 := HR1.out.1.free 2
      have x3 := HR1.out.1.cell 3
      have y3 := HR1.out.1.free 3
      have x4 := HR1.out.1.cell 4
      have y4 := HR1.out.1.free 4
      simp only [List.getElem?_cons_zero, List.getElem?_cons_succ] at x0 x1 x2 x3 x4
      have e0 := HR1.out.2.2.2.1.cell 0
      have f0 := HR1.out.2.2.2.1.free 0
      have e1 := HR1.out.2.2.2.1.cell 1
      have f1 := HR1.out.2.2.2.1.free 1
      have e2 := HR1.out.2.2.2.1.cell 2
      have f2 := HR1.out.2.2.2.1.free 2
      have e3 := HR1.out.2.2.2.1.cell 3
      have f3 := HR1.out.2.2.2.1.free 3
      simp only [List.getElem?_cons_zero, List.getElem?_cons_succ] at e0 e1 e2 e3
      go_upto_region 4 with (fail)
      have HR2 := hiD ((HR1.out.pl (.slice q b.length cp) (.int .i64 (o1 : Nat)) (.int .i64 0) (.int .i64 0) (.int .i64 (lv : Nat))).ce (i := 0) (.int .i64 1) (by decide))
      clear x0 y0 x1 y1 x2 y2 x3 y3 x4 y4
      clear e0 f0 e1 f1 e2 f2 e3 f3
      have HR3 : Hid (RB W [.slice q b.length cp, .int .i64 (o1 : Nat), .int .i64 0, .int .i64 0, .int .i64 (lv : Nat)] [.slice none 0 0, .int .i64 0, .int .i64 0, .int .i64 0, .int .i64 0] [.int .i64 0, .string ⟨#[]⟩, .string ⟨#[]⟩, .slice none 0 0] [.int .i64 1, .string ⟨#[]⟩, .string ⟨#[]⟩, .slice none 0 0] ((((((w1.setCell ⟨W.heap.size, 0, none⟩ (.slice q b.length cp)).setCell ⟨W.heap.size, 1, none⟩ (.int .i64 (o1 : Nat))).setCell ⟨W.heap.size, 2, none⟩ (.int .i64 0)).setCell ⟨W.heap.size, 3, none⟩ (.int .i64 0)).setCell ⟨W.heap.size, 4, none⟩ (.int .i64 (lv : Nat))).setCell ⟨W.heap.size + 3, 0, none⟩ (.int .i64 1))) := HR2.out
      clear HR1 HR2
      generalize ((((((w1.setCell ⟨W.heap.size, 0, none⟩ (.slice q b.length cp)).setCell ⟨W.heap.size, 1, none⟩ (.int .i64 (o1 : Nat))).setCell ⟨W.heap.size, 2, none⟩ (.int .i64 0)).setCell ⟨W.heap.size, 3, none⟩ (.int .i64 0)).setCell ⟨W.heap.size, 4, none⟩ (.int .i64 (lv : Nat))).setCell ⟨W.heap.size + 3, 0, none⟩ (.int .i64 1)) = w3 at HR3 ⊢
      by_cases hl32 : lv = 32
      · subst hl32
        have HE : Hid (refC b (d + 1) o 32 = (ex0, .er 15 o, 32)) := HE0.out.trans (topE_go.trans ((if_neg (by omega)).trans (if_pos (by decide))))
        clear HE0 HK5 HKG IH
        have x0 := HR3.out.1.cell 0
        have y0 := HR3.out.1.free 0
        have x1 := HR3.out.1.cell 1
        have y1 := HR3.out.1.free 1
        have x2 := HR3.out.1.cell 2
        have y2 := HR3.out.1.free 2
        have x3 := HR3.out.1.cell 3
        have y3 := HR3.out.1.free 3
        have x4 := HR3.out.1.cell 4
        have y4 := HR3.out.1.free 4
        simp only [List.getElem?_cons_zero, List.getElem?_cons_succ] at x0 x1 x2 x3 x4
        have e0 := HR3.out.2.2.2.1.cell 0
        have f0 := HR3.out.2.2.2.1.free 0
        have e1 := HR3.out.2.2.2.1.cell 1
        have f1 := HR3.out.2.2.2.1.free 1
        have e2 := HR3.out.2.2.2.1.cell 2
        have f2 := HR3.out.2.2.2.1.free 2
        have e3 := HR3.out.2.2.2.1.cell 3
        have f3 := HR3.out.2.2.2.1.free 3
        simp only [List.getElem?_cons_zero, List.getElem?_cons_succ] at e0 e1 e2 e3
        go_wp2_with fail
        refine (pFail15 (b := b) (lv := 32)).mono ?_
        rintro e w4 ⟨rfl, b4⟩
        have HR4 := hiD (HR3.out.later b4)
        clear b4 HR3
        clear x0 y0 x1 y1 x2 y2 x3 y3 x4 y4
        clear e0 f0 e1 f1 e2 f2 e3 f3
        have x0 := HR4.out.1.cell 0
        have y0 := HR4.out.1.free 0
        have x1 := HR4.out.1.cell 1
        have y1 := HR4.out.1.free 1
        have x2 := HR4.out.1.cell 2
        have y2 := HR4.out.1.free 2
        have x3 := HR4.out.1.cell 3
        have y3 := HR4.out.1.free 3
        have x4 := HR4.out.1.cell 4
        have y4 := HR4.out.1.free 4
        simp only [List.getElem?_cons_zero, List.getElem?_cons_succ] at x0 x1 x2 x3 x4
        go_upto_region 8 with (fail)
        have HR5 := hiD (HR4.out.pl (.slice q b.length cp) (.int .i64 (o1 : Nat)) (.int .i64 15) (.int .i64 (o : Nat)) (.int .i64 32))
        clear x0 y0 x1 y1 x2 y2 x3 y3 x4 y4
        clear HR4
        generalize (((((w4.setCell ⟨W.heap.size, 0, none⟩ (.slice q b.length cp)).setCell ⟨W.heap.size, 1, none⟩ (.int .i64 (o1 : Nat))).setCell ⟨W.heap.size, 2, none⟩ (.int .i64 15)).setCell ⟨W.heap.size, 3, none⟩ (.int .i64 (o : Nat))).setCell ⟨W.heap.size, 4, none⟩ (.int .i64 32)) = w5 at HR5 ⊢
        have x0 := HR5.out.1.cell 0
        have y0 := HR5.out.1.free 0
        have x1 := HR5.out.1.cell 1
        have y1 := HR5.out.1.free 1
        have x2 := HR5.out.1.cell 2
        have y2 := HR5.out.1.free 2
        have x3 := HR5.out.1.cell 3
        have y3 := HR5.out.1.free 3
        have x4 := HR5.out.1.cell 4
        have y4 := HR5.out.1.free 4
        simp only [List.getElem?_cons_zero, List.getElem?_cons_succ] at x0 x1 x2 x3 x4
        have p0 := HR5.out.2.1.cell 0
        have z0 := HR5.out.2.1.free 0
        have p1 := HR5.out.2.1.cell 1
        have z1 := HR5.out.2.1.free 1
        have p2 := HR5.out.2.1.cell 2
        have z2 := HR5.out.2.1.free 2
        have p3 := HR5.out.2.1.cell 3
        have z3 := HR5.out.2.1.free 3
        have p4 := HR5.out.2.1.cell 4
        have z4 := HR5.out.2.1.free 4
        simp only [List.getElem?_cons_zero, List.getElem?_cons_succ] at p0 p1 p2 p3 p4
        have g0 := HR5.out.2.2.1.cell 0
        have h0 := HR5.out.2.2.1.free 0
        have g1 := HR5.out.2.2.1.cell 1
        have h1 := HR5.out.2.2.1.free 1
        have g2 := HR5.out.2.2.1.cell 2
        have h2 := HR5.out.2.2.1.free 2
        have g3 := HR5.out.2.2.1.cell 3
        have h3 := HR5.out.2.2.1.free 3
        simp only [List.getElem?_cons_zero, List.getElem?_cons_succ] at g0 g1 g2 g3
        go_wp2_with fail
        have hF := (HR5.out.p4 (.slice q b.length cp) (.int .i64 (o1 : Nat)) (.int .i64 15) (.int .i64 (o : Nat)) (.int .i64 32)).p5 (.int .i64 0) (.string ⟨#[]⟩) (.string ⟨#[]⟩) (.slice none 0 0)
        refine bodyPost_ret (resPX rfl hF.2.1 hF.2.2.1 rfl rfl) rfl ?_
        rw [HE.out]
        exact ⟨_, _, _, _, rfl, PI.of_er HOL1.out (by decide), VE.leaf _ _ _ _ _, hF.2.2.2.2⟩
      · have hlv : ¬ (lv : Int) = 32 := by omega
        have HE : Hid (refC b (d + 1) o lv = leafC b 1 (.go o1) lv) := (HE0.out.trans (topE_go.trans ((if_neg (by omega)).trans (if_neg (by omega))))).trans (if_pos (by decide))
        clear HE0 HK5 HKG IH
        have hl31 : lv ≤ 31 := by have := HLV.out; omega
        have HL31 := hiD hl31
        have hlb : ((lv : Int) == 32) = false := by rw [beq_eq_false_iff_ne]; omega
        have hwl : wrap64 ((lv : Int) + 1) = (lv : Int) + 1 := by unfold wrap64; omega
        clear hl31
        have HP3 := hiD (PI.of_go (b := b) HOL1.out)
        have HE : Hid (refC b (d + 1) o lv = (.mk 1 [] (nameC b false (.go o1)).1 [], (nameC b false (.go o1)).2, lv + 1)) := HE.out.trans (if_neg (by decide))
        obtain ⟨nn, hnn⟩ : ∃ x, x = (nameC b false (.go o1)).1 := ⟨_, rfl⟩
        obtain ⟨s7, hs7⟩ : ∃ x, x = (nameC b false (.go o1)).2 := ⟨_, rfl⟩
        have HN7 := hiD (pName (lv := lv) ((HRD.out.below HR3.out.2.2.2.2 (Nat.le_refl _)).mono HR3.out.2.2.2.2.size) HP3.out HBL.out)
        rw [← hnn, ← hs7] at HN7
        rw [← hnn, ← hs7] at HE
        clear hnn hs7
        have x0 := HR3.out.1.cell 0
        have y0 := HR3.out.1.free 0
        have x1 := HR3.out.1.cell 1
        have y1 := HR3.out.1.free 1
        have x2 := HR3.out.1.cell 2
        have y2 := HR3.out.1.free 2
        have x3 := HR3.out.1.cell 3
        have y3 := HR3.out.1.free 3
        have x4 := HR3.out.1.cell 4
        have y4 := HR3.out.1.free 4
        simp only [List.getElem?_cons_zero, List.getElem?_cons_succ] at x0 x1 x2 x3 x4
        have e0 := HR3.out.2.2.2.1.cell 0
        have f0 := HR3.out.2.2.2.1.free 0
        have e1 := HR3.out.2.2.2.1.cell 1
        have f1 := HR3.out.2.2.2.1.free 1
        have e2 := HR3.out.2.2.2.1.cell 2
        have f2 := HR3.out.2.2.2.1.free 2
        have e3 := HR3.out.2.2.2.1.cell 3
        have f3 := HR3.out.2.2.2.1.free 3
        simp only [List.getElem?_cons_zero, List.getElem?_cons_succ] at e0 e1 e2 e3
        go_wp2_with fail
        refine HN7.out.mono ?_
        rintro e w7 ⟨ox7, cx7, ax7, rfl, hp7, b7⟩
        have HRa7 := hiD (HR3.out.later b7)
        have HP7 := hiD hp7
        clear hp7 b7 HN7 HR3 HP3
        clear x0 y0 x1 y1 x2 y2 x3 y3 x4 y4
        clear e0 f0 e1 f1 e2 f2 e3 f3
        have x0 := HRa7.out.1.cell 0
        have y0 := HRa7.out.1.free 0
        have x1 := HRa7.out.1.cell 1
        have y1 := HRa7.out.1.free 1
        have x2 := HRa7.out.1.cell 2
        have y2 := HRa7.out.1.free 2
        have x3 := HRa7.out.1.cell 3
        have y3 := HRa7.out.1.free 3
        have x4 := HRa7.out.1.cell 4
        have y4 := HRa7.out.1.free 4
        simp only [List.getElem?_cons_zero, List.getElem?_cons_succ] at x0 x1 x2 x3 x4
        have e0 := HRa7.out.2.2.2.1.cell 0
        have f0 := HRa7.out.2.2.2.1.free 0
        have e1 := HRa7.out.2.2.2.1.cell 1
        have f1 := HRa7.out.2.2.2.1.free 1
        have e2 := HRa7.out.2.2.2.1.cell 2
        have f2 := HRa7.out.2.2.2.1.free 2
        have e3 := HRa7.out.2.2.2.1.cell 3
        have f3 := HRa7.out.2.2.2.1.free 3
        simp only [List.getElem?_cons_zero, List.getElem?_cons_succ] at e0 e1 e2 e3
        go_upto_region 14 with (fail)
        have HR7 : Hid (RB W [.slice q b.length cp, .int .i64 ox7, .int .i64 cx7, .int .i64 ax7, .int .i64 (lv : Nat)] [.slice none 0 0, .int .i64 0, .int .i64 0, .int .i64 0, .int .i64 0] [.int .i64 0, .string ⟨#[]⟩, .string ⟨#[]⟩, .slice none 0 0] [.int .i64 1, .string ⟨#[]⟩, .string (bstr nn), .slice none 0 0] ((((((w7.setCell ⟨W.heap.size, 0, none⟩ (.slice q b.length cp)).setCell ⟨W.heap.size, 1, none⟩ (.int .i64 ox7)).setCell ⟨W.heap.size, 2, none⟩ (.int .i64 cx7)).setCell ⟨W.heap.size, 3, none⟩ (.int .i64 ax7)).setCell ⟨W.heap.size, 4, none⟩ (.int .i64 (lv : Nat))).setCell ⟨W.heap.size + 3, 2, none⟩ (.string (bstr nn)))) := (HRa7.out.pl (.slice q b.length cp) (.int .i64 ox7) (.int .i64 cx7) (.int .i64 ax7) (.int .i64 (lv : Nat))).ce (i := 2) (.string (bstr nn)) (by decide)
        clear x0 y0 x1 y1 x2 y2 x3 y3 x4 y4
        clear e0 f0 e1 f1 e2 f2 e3 f3
        clear HRa7
        generalize ((((((w7.setCell ⟨W.heap.size, 0, none⟩ (.slice q b.length cp)).setCell ⟨W.heap.size, 1, none⟩ (.int .i64 ox7)).setCell ⟨W.heap.size, 2, none⟩ (.int .i64 cx7)).setCell ⟨W.heap.size, 3, none⟩ (.int .i64 ax7)).setCell ⟨W.heap.size, 4, none⟩ (.int .i64 (lv : Nat))).setCell ⟨W.heap.size + 3, 2, none⟩ (.string (bstr nn))) = wz7 at HR7 ⊢
        have x0 := HR7.out.1.cell 0
        have y0 := HR7.out.1.free 0
        have x1 := HR7.out.1.cell 1
        have y1 := HR7.out.1.free 1
        have x2 := HR7.out.1.cell 2
        have y2 := HR7.out.1.free 2
        have x3 := HR7.out.1.cell 3
        have y3 := HR7.out.1.free 3
        have x4 := HR7.out.1.cell 4
        have y4 := HR7.out.1.free 4
        simp only [List.getElem?_cons_zero, List.getElem?_cons_succ] at x0 x1 x2 x3 x4
        go_upto_region 15 with (fail)
        have HR8 : Hid (RB W [.slice q b.length cp, .int .i64 ox7, .int .i64 cx7, .int .i64 ax7, .int .i64 ((lv : Int) + 1)] [.slice none 0 0, .int .i64 0, .int .i64 0, .int .i64 0, .int .i64 0] [.int .i64 0, .string ⟨#[]⟩, .string ⟨#[]⟩, .slice none 0 0] [.int .i64 1, .string ⟨#[]⟩, .string (bstr nn), .slice none 0 0] (wz7.setCell ⟨W.heap.size, 4, none⟩ (.int .i64 ((lv : Int) + 1)))) := HR7.out.cp (i := 4) _ (by decide)
        clear x0 y0 x1 y1 x2 y2 x3 y3 x4 y4
        clear HR7
        generalize wz7.setCell ⟨W.heap.size, 4, none⟩ (.int .i64 ((lv : Int) + 1)) = w8 at HR8 ⊢
        refine wp_region_noPanic ?_
        refine wp_region_held_drew (S := fun W' => Arr W' 59 W.heap.size [.slice q b.length cp, .int .i64 ox7, .int .i64 cx7, .int .i64 ax7, .int .i64 ((lv : Int) + 1)] ∧ Arr W' 42 (W.heap.size + 3) [.int .i64 1, .string ⟨#[]⟩, .string (bstr nn), .slice none 0 0]) (by kernel_rfl) ⟨HR8.out.drew.1, HR8.out.drew.2.2.2.1⟩ (fun hHeld => ?_)
        try simp only [Act.put]
        have HD := hiD HR8.out.drew
        skip
        generalize w8.drew = wd at HD hHeld  ⊢
        refine wpAnyH_take (i := 0) (oi := ⟨some 73, _, _, _, _, _⟩) (v := .agg #[.slice q b.length cp, .int .i64 ox7, .int .i64 cx7, .int .i64 ax7, .int .i64 ((lv : Int) + 1)]) rfl (by kernel_rfl) (by kernel_rfl) (by kernel_rfl) (fun _ _ _ h => h) (.inl ⟨by rfl, fun w' hSw => ?_⟩) hHeld ?_
        focus (have a0 := hSw.1.cell 0; have a1 := hSw.1.cell 1; have a2 := hSw.1.cell 2; have a3 := hSw.1.cell 3; have a4 := hSw.1.cell 4; simp only [List.getElem?_cons_zero, List.getElem?_cons_succ] at a0 a1 a2 a3 a4; clear hHeld; go_simp)
        try simp only [Act.put, pz0, pz1, pz2]
        refine wpAnyH_take (i := 1) (oi := ⟨some 74, _, _, _, _, _⟩) (v := .agg #[.int .i64 1, .string ⟨#[]⟩, .string (bstr nn), .slice none 0 0]) rfl (by kernel_rfl) (by kernel_rfl) (by kernel_rfl) (fun _ _ _ h => h) (.inl ⟨by rfl, fun w' hSw => ?_⟩) hHeld ?_
        focus (have a0 := hSw.2.cell 0; have a1 := hSw.2.cell 1; have a2 := hSw.2.cell 2; have a3 := hSw.2.cell 3; simp only [List.getElem?_cons_zero, List.getElem?_cons_succ] at a0 a1 a2 a3; clear hHeld; go_simp)
        try simp only [Act.put, pz0, pz1, pz2]
        refine wpAnyH_ready (rs := [2]) (by kernel_rfl) (by simp) ?_
        refine AllReadyH.cons (o := ⟨none, _, _, _, _, _⟩) rfl (fun K' hK' => ?_) AllReadyH.nil
        have p0 := HD.out.2.1.cell 0
        have z0 := HD.out.2.1.free 0
        have p1 := HD.out.2.1.cell 1
        have z1 := HD.out.2.1.free 1
        have p2 := HD.out.2.1.cell 2
        have z2 := HD.out.2.1.free 2
        have p3 := HD.out.2.1.cell 3
        have z3 := HD.out.2.1.free 3
        have p4 := HD.out.2.1.cell 4
        have z4 := HD.out.2.1.free 4
        simp only [List.getElem?_cons_zero, List.getElem?_cons_succ] at p0 p1 p2 p3 p4
        go_simp
        clear p0 z0 p1 z1 p2 z2 p3 z3 p4 z4
        have HD1 := hiD (HD.out.p4 (.slice q b.length cp) (.int .i64 ox7) (.int .i64 cx7) (.int .i64 ax7) (.int .i64 ((lv : Int) + 1)))
        refine hK'.out _ _ ⟨HD1.out.1, HD1.out.2.2.2.1⟩ (fun _ => ?_)
        clear hK' K' hHeld
        have hHeld := And.intro HD1.out.1 HD1.out.2.2.2.1
        try simp only [Act.put, pz0, pz1, pz2]
        refine wpAnyH_ready (rs := [3]) (by kernel_rfl) (by simp) ?_
        refine AllReadyH.cons (o := ⟨none, _, _, _, _, _⟩) rfl (fun K' hK' => ?_) AllReadyH.nil
        have g0 := HD1.out.2.2.1.cell 0
        have h0 := HD1.out.2.2.1.free 0
        have g1 := HD1.out.2.2.1.cell 1
        have h1 := HD1.out.2.2.1.free 1
        have g2 := HD1.out.2.2.1.cell 2
        have h2 := HD1.out.2.2.1.free 2
        have g3 := HD1.out.2.2.1.cell 3
        have h3 := HD1.out.2.2.1.free 3
        simp only [List.getElem?_cons_zero, List.getElem?_cons_succ] at g0 g1 g2 g3
        go_simp
        clear g0 h0 g1 h1 g2 h2 g3 h3
        have HD2 := hiD (HD1.out.p5 (.int .i64 1) (.string ⟨#[]⟩) (.string (bstr nn)) (.slice none 0 0))
        refine hK'.out _ _ ⟨HD2.out.1, HD2.out.2.2.2.1⟩ (fun _ => ?_)
        clear hK' K' hHeld
        have hHeld := And.intro HD2.out.1 HD2.out.2.2.2.1
        try simp only [Act.put, pz0, pz1, pz2]
        refine wpAnyH_done (by kernel_rfl) ?_ _
        refine NoPanic.normal ?_
        go_wp2_with fail
        refine bodyPost_ret (resPX rfl HD2.out.2.1 HD2.out.2.2.1 rfl rfl) rfl ?_
        rw [HE.out]
        exact ⟨_, _, _, _, rfl, HP7.out, VE.leaf _ _ _ _ _, HD2.out.2.2.2.2⟩
    · have x0 := HR1.out.1.cell 0
      have y0 := HR1.out.1.free 0
      have x1 := HR1.out.1.cell 1
      have y1 := HR1.out.1.free 1
      have x2 := HR1.out.1.cell 2
      have y2 := HR1.out.1.free 2
      have x3 := HR1.out.1.cell 3
      have y3 := HR1.out.1.free 3
      have x4 := HR1.out.1.cell 4
      have y4 := HR1.out.1.free 4
      simp only [List.getElem?_cons_zero, List.getElem?_cons_succ] at x0 x1 x2 x3 x4
      have e0 := HR1.out.2.2.2.1.cell 0
      have f0 := HR1.out.2.2.2.1.free 0
      have e1 := HR1.out.2.2.2.1.cell 1
      have f1 := HR1.out.2.2.2.1.free 1
      have e2 := HR1.out.2.2.2.1.cell 2
      have f2 := HR1.out.2.2.2.1.free 2
      have e3 := HR1.out.2.2.2.1.cell 3
      have f3 := HR1.out.2.2.2.1.free 3
      simp only [List.getElem?_cons_zero, List.getElem?_cons_succ] at e0 e1 e2 e3
      go_upto_region 4 with (fail)
      have HR2 := hiD ((HR1.out.pl (.slice q b.length cp) (.int .i64 (o1 : Nat)) (.int .i64 0) (.int .i64 0) (.int .i64 (lv : Nat))).ce (i := 0) (.int .i64 2) (by decide))
      clear x0 y0 x1 y1 x2 y2 x3 y3 x4 y4
      clear e0 f0 e1 f1 e2 f2 e3 f3
      have HR3 : Hid (RB W [.slice q b.length cp, .int .i64 (o1 : Nat), .int .i64 0, .int .i64 0, .int .i64 (lv : Nat)] [.slice none 0 0, .int .i64 0, .int .i64 0, .int .i64 0, .int .i64 0] [.int .i64 0, .string ⟨#[]⟩, .string ⟨#[]⟩, .slice none 0 0] [.int .i64 2, .string ⟨#[]⟩, .string ⟨#[]⟩, .slice none 0 0] ((((((w1.setCell ⟨W.heap.size, 0, none⟩ (.slice q b.length cp)).setCell ⟨W.heap.size, 1, none⟩ (.int .i64 (o1 : Nat))).setCell ⟨W.heap.size, 2, none⟩ (.int .i64 0)).setCell ⟨W.heap.size, 3, none⟩ (.int .i64 0)).setCell ⟨W.heap.size, 4, none⟩ (.int .i64 (lv : Nat))).setCell ⟨W.heap.size + 3, 0, none⟩ (.int .i64 2))) := HR2.out
      clear HR1 HR2
      generalize ((((((w1.setCell ⟨W.heap.size, 0, none⟩ (.slice q b.length cp)).setCell ⟨W.heap.size, 1, none⟩ (.int .i64 (o1 : Nat))).setCell ⟨W.heap.size, 2, none⟩ (.int .i64 0)).setCell ⟨W.heap.size, 3, none⟩ (.int .i64 0)).setCell ⟨W.heap.size, 4, none⟩ (.int .i64 (lv : Nat))).setCell ⟨W.heap.size + 3, 0, none⟩ (.int .i64 2)) = w3 at HR3 ⊢
      by_cases hl32 : lv = 32
      · subst hl32
        have HE : Hid (refC b (d + 1) o 32 = (ex0, .er 15 o, 32)) := HE0.out.trans (topE_go.trans ((if_neg (by omega)).trans (if_pos (by decide))))
        clear HE0 HK5 HKG IH
        have x0 := HR3.out.1.cell 0
        have y0 := HR3.out.1.free 0
        have x1 := HR3.out.1.cell 1
        have y1 := HR3.out.1.free 1
        have x2 := HR3.out.1.cell 2
        have y2 := HR3.out.1.free 2
        have x3 := HR3.out.1.cell 3
        have y3 := HR3.out.1.free 3
        have x4 := HR3.out.1.cell 4
        have y4 := HR3.out.1.free 4
        simp only [List.getElem?_cons_zero, List.getElem?_cons_succ] at x0 x1 x2 x3 x4
        have e0 := HR3.out.2.2.2.1.cell 0
        have f0 := HR3.out.2.2.2.1.free 0
        have e1 := HR3.out.2.2.2.1.cell 1
        have f1 := HR3.out.2.2.2.1.free 1
        have e2 := HR3.out.2.2.2.1.cell 2
        have f2 := HR3.out.2.2.2.1.free 2
        have e3 := HR3.out.2.2.2.1.cell 3
        have f3 := HR3.out.2.2.2.1.free 3
        simp only [List.getElem?_cons_zero, List.getElem?_cons_succ] at e0 e1 e2 e3
        go_wp2_with fail
        refine (pFail15 (b := b) (lv := 32)).mono ?_
        rintro e w4 ⟨rfl, b4⟩
        have HR4 := hiD (HR3.out.later b4)
        clear b4 HR3
        clear x0 y0 x1 y1 x2 y2 x3 y3 x4 y4
        clear e0 f0 e1 f1 e2 f2 e3 f3
        have x0 := HR4.out.1.cell 0
        have y0 := HR4.out.1.free 0
        have x1 := HR4.out.1.cell 1
        have y1 := HR4.out.1.free 1
        have x2 := HR4.out.1.cell 2
        have y2 := HR4.out.1.free 2
        have x3 := HR4.out.1.cell 3
        have y3 := HR4.out.1.free 3
        have x4 := HR4.out.1.cell 4
        have y4 := HR4.out.1.free 4
        simp only [List.getElem?_cons_zero, List.getElem?_cons_succ] at x0 x1 x2 x3 x4
        go_upto_region 8 with (fail)
        have HR5 := hiD (HR4.out.pl (.slice q b.length cp) (.int .i64 (o1 : Nat)) (.int .i64 15) (.int .i64 (o : Nat)) (.int .i64 32))
        clear x0 y0 x1 y1 x2 y2 x3 y3 x4 y4
        clear HR4
        generalize (((((w4.setCell ⟨W.heap.size, 0, none⟩ (.slice q b.length cp)).setCell ⟨W.heap.size, 1, none⟩ (.int .i64 (o1 : Nat))).setCell ⟨W.heap.size, 2, none⟩ (.int .i64 15)).setCell ⟨W.heap.size, 3, none⟩ (.int .i64 (o : Nat))).setCell ⟨W.heap.size, 4, none⟩ (.int .i64 32)) = w5 at HR5 ⊢
        have x0 := HR5.out.1.cell 0
        have y0 := HR5.out.1.free 0
        have x1 := HR5.out.1.cell 1
        have y1 := HR5.out.1.free 1
        have x2 := HR5.out.1.cell 2
        have y2 := HR5.out.1.free 2
        have x3 := HR5.out.1.cell 3
        have y3 := HR5.out.1.free 3
        have x4 := HR5.out.1.cell 4
        have y4 := HR5.out.1.free 4
        simp only [List.getElem?_cons_zero, List.getElem?_cons_succ] at x0 x1 x2 x3 x4
        have p0 := HR5.out.2.1.cell 0
        have z0 := HR5.out.2.1.free 0
        have p1 := HR5.out.2.1.cell 1
        have z1 := HR5.out.2.1.free 1
        have p2 := HR5.out.2.1.cell 2
        have z2 := HR5.out.2.1.free 2
        have p3 := HR5.out.2.1.cell 3
        have z3 := HR5.out.2.1.free 3
        have p4 := HR5.out.2.1.cell 4
        have z4 := HR5.out.2.1.free 4
        simp only [List.getElem?_cons_zero, List.getElem?_cons_succ] at p0 p1 p2 p3 p4
        have g0 := HR5.out.2.2.1.cell 0
        have h0 := HR5.out.2.2.1.free 0
        have g1 := HR5.out.2.2.1.cell 1
        have h1 := HR5.out.2.2.1.free 1
        have g2 := HR5.out.2.2.1.cell 2
        have h2 := HR5.out.2.2.1.free 2
        have g3 := HR5.out.2.2.1.cell 3
        have h3 := HR5.out.2.2.1.free 3
        simp only [List.getElem?_cons_zero, List.getElem?_cons_succ] at g0 g1 g2 g3
        go_wp2_with fail
        have hF := (HR5.out.p4 (.slice q b.length cp) (.int .i64 (o1 : Nat)) (.int .i64 15) (.int .i64 (o : Nat)) (.int .i64 32)).p5 (.int .i64 0) (.string ⟨#[]⟩) (.string ⟨#[]⟩) (.slice none 0 0)
        refine bodyPost_ret (resPX rfl hF.2.1 hF.2.2.1 rfl rfl) rfl ?_
        rw [HE.out]
        exact ⟨_, _, _, _, rfl, PI.of_er HOL1.out (by decide), VE.leaf _ _ _ _ _, hF.2.2.2.2⟩
      · have hlv : ¬ (lv : Int) = 32 := by omega
        have HE : Hid (refC b (d + 1) o lv = leafC b 2 (.go o1) lv) := (HE0.out.trans (topE_go.trans ((if_neg (by omega)).trans (if_neg (by omega))))).trans (if_pos (by decide))
        clear HE0 HK5 HKG IH
        have hl31 : lv ≤ 31 := by have := HLV.out; omega
        have HL31 := hiD hl31
        have hlb : ((lv : Int) == 32) = false := by rw [beq_eq_false_iff_ne]; omega
        have hwl : wrap64 ((lv : Int) + 1) = (lv : Int) + 1 := by unfold wrap64; omega
        clear hl31
        have HP3 := hiD (PI.of_go (b := b) HOL1.out)
        have HE : Hid (refC b (d + 1) o lv = (.mk 2 (nameC b false (.go o1)).1 (nameC b false (nameC b false (.go o1)).2).1 [], (nameC b false (nameC b false (.go o1)).2).2, lv + 1)) := HE.out.trans (if_pos rfl)
        obtain ⟨nv, hnv⟩ : ∃ x, x = (nameC b false (.go o1)).1 := ⟨_, rfl⟩
        obtain ⟨s5, hs5⟩ : ∃ x, x = (nameC b false (.go o1)).2 := ⟨_, rfl⟩
        have HN5 := hiD (pName (lv := lv) ((HRD.out.below HR3.out.2.2.2.2 (Nat.le_refl _)).mono HR3.out.2.2.2.2.size) HP3.out HBL.out)
        rw [← hnv, ← hs5] at HN5
        rw [← hnv, ← hs5] at HE
        clear hnv hs5
        have x0 := HR3.out.1.cell 0
        have y0 := HR3.out.1.free 0
        have x1 := HR3.out.1.cell 1
        have y1 := HR3.out.1.free 1
        have x2 := HR3.out.1.cell 2
        have y2 := HR3.out.1.free 2
        have x3 := HR3.out.1.cell 3
        have y3 := HR3.out.1.free 3
        have x4 := HR3.out.1.cell 4
        have y4 := HR3.out.1.free 4
        simp only [List.getElem?_cons_zero, List.getElem?_cons_succ] at x0 x1 x2 x3 x4
        have e0 := HR3.out.2.2.2.1.cell 0
        have f0 := HR3.out.2.2.2.1.free 0
        have e1 := HR3.out.2.2.2.1.cell 1
        have f1 := HR3.out.2.2.2.1.free 1
        have e2 := HR3.out.2.2.2.1.cell 2
        have f2 := HR3.out.2.2.2.1.free 2
        have e3 := HR3.out.2.2.2.1.cell 3
        have f3 := HR3.out.2.2.2.1.free 3
        simp only [List.getElem?_cons_zero, List.getElem?_cons_succ] at e0 e1 e2 e3
        go_wp2_with fail
        refine HN5.out.mono ?_
        rintro e w5 ⟨ox5, cx5, ax5, rfl, hp5, b5⟩
        have HRa5 := hiD (HR3.out.later b5)
        have HP5 := hiD hp5
        clear hp5 b5 HN5 HR3 HP3
        clear x0 y0 x1 y1 x2 y2 x3 y3 x4 y4
        clear e0 f0 e1 f1 e2 f2 e3 f3
        have x0 := HRa5.out.1.cell 0
        have y0 := HRa5.out.1.free 0
        have x1 := HRa5.out.1.cell 1
        have y1 := HRa5.out.1.free 1
        have x2 := HRa5.out.1.cell 2
        have y2 := HRa5.out.1.free 2
        have x3 := HRa5.out.1.cell 3
        have y3 := HRa5.out.1.free 3
        have x4 := HRa5.out.1.cell 4
        have y4 := HRa5.out.1.free 4
        simp only [List.getElem?_cons_zero, List.getElem?_cons_succ] at x0 x1 x2 x3 x4
        have e0 := HRa5.out.2.2.2.1.cell 0
        have f0 := HRa5.out.2.2.2.1.free 0
        have e1 := HRa5.out.2.2.2.1.cell 1
        have f1 := HRa5.out.2.2.2.1.free 1
        have e2 := HRa5.out.2.2.2.1.cell 2
        have f2 := HRa5.out.2.2.2.1.free 2
        have e3 := HRa5.out.2.2.2.1.cell 3
        have f3 := HRa5.out.2.2.2.1.free 3
        simp only [List.getElem?_cons_zero, List.getElem?_cons_succ] at e0 e1 e2 e3
        go_upto_region 12 with (fail)
        have HR5 : Hid (RB W [.slice q b.length cp, .int .i64 ox5, .int .i64 cx5, .int .i64 ax5, .int .i64 (lv : Nat)] [.slice none 0 0, .int .i64 0, .int .i64 0, .int .i64 0, .int .i64 0] [.int .i64 0, .string ⟨#[]⟩, .string ⟨#[]⟩, .slice none 0 0] [.int .i64 2, .string (bstr nv), .string ⟨#[]⟩, .slice none 0 0] ((((((w5.setCell ⟨W.heap.size, 0, none⟩ (.slice q b.length cp)).setCell ⟨W.heap.size, 1, none⟩ (.int .i64 ox5)).setCell ⟨W.heap.size, 2, none⟩ (.int .i64 cx5)).setCell ⟨W.heap.size, 3, none⟩ (.int .i64 ax5)).setCell ⟨W.heap.size, 4, none⟩ (.int .i64 (lv : Nat))).setCell ⟨W.heap.size + 3, 1, none⟩ (.string (bstr nv)))) := (HRa5.out.pl (.slice q b.length cp) (.int .i64 ox5) (.int .i64 cx5) (.int .i64 ax5) (.int .i64 (lv : Nat))).ce (i := 1) (.string (bstr nv)) (by decide)
        clear x0 y0 x1 y1 x2 y2 x3 y3 x4 y4
        clear e0 f0 e1 f1 e2 f2 e3 f3
        clear HRa5
        generalize ((((((w5.setCell ⟨W.heap.size, 0, none⟩ (.slice q b.length cp)).setCell ⟨W.heap.size, 1, none⟩ (.int .i64 ox5)).setCell ⟨W.heap.size, 2, none⟩ (.int .i64 cx5)).setCell ⟨W.heap.size, 3, none⟩ (.int .i64 ax5)).setCell ⟨W.heap.size, 4, none⟩ (.int .i64 (lv : Nat))).setCell ⟨W.heap.size + 3, 1, none⟩ (.string (bstr nv))) = wz5 at HR5 ⊢
        obtain ⟨nn, hnn⟩ : ∃ x, x = (nameC b false s5).1 := ⟨_, rfl⟩
        obtain ⟨s7, hs7⟩ : ∃ x, x = (nameC b false s5).2 := ⟨_, rfl⟩
        have HN7 := hiD (pName (lv := lv) ((HRD.out.below HR5.out.2.2.2.2 (Nat.le_refl _)).mono HR5.out.2.2.2.2.size) HP5.out HBL.out)
        rw [← hnn, ← hs7] at HN7
        rw [← hnn, ← hs7] at HE
        clear hnn hs7
        have x0 := HR5.out.1.cell 0
        have y0 := HR5.out.1.free 0
        have x1 := HR5.out.1.cell 1
        have y1 := HR5.out.1.free 1
        have x2 := HR5.out.1.cell 2
        have y2 := HR5.out.1.free 2
        have x3 := HR5.out.1.cell 3
        have y3 := HR5.out.1.free 3
        have x4 := HR5.out.1.cell 4
        have y4 := HR5.out.1.free 4
        simp only [List.getElem?_cons_zero, List.getElem?_cons_succ] at x0 x1 x2 x3 x4
        have e0 := HR5.out.2.2.2.1.cell 0
        have f0 := HR5.out.2.2.2.1.free 0
        have e1 := HR5.out.2.2.2.1.cell 1
        have f1 := HR5.out.2.2.2.1.free 1
        have e2 := HR5.out.2.2.2.1.cell 2
        have f2 := HR5.out.2.2.2.1.free 2
        have e3 := HR5.out.2.2.2.1.cell 3
        have f3 := HR5.out.2.2.2.1.free 3
        simp only [List.getElem?_cons_zero, List.getElem?_cons_succ] at e0 e1 e2 e3
        go_wp2_with fail
        refine HN7.out.mono ?_
        rintro e w7 ⟨ox7, cx7, ax7, rfl, hp7, b7⟩
        have HRa7 := hiD (HR5.out.later b7)
        have HP7 := hiD hp7
        clear hp7 b7 HN7 HR5 HP5
        clear x0 y0 x1 y1 x2 y2 x3 y3 x4 y4
        clear e0 f0 e1 f1 e2 f2 e3 f3
        have x0 := HRa7.out.1.cell 0
        have y0 := HRa7.out.1.free 0
        have x1 := HRa7.out.1.cell 1
        have y1 := HRa7.out.1.free 1
        have x2 := HRa7.out.1.cell 2
        have y2 := HRa7.out.1.free 2
        have x3 := HRa7.out.1.cell 3
        have y3 := HRa7.out.1.free 3
        have x4 := HRa7.out.1.cell 4
        have y4 := HRa7.out.1.free 4
        simp only [List.getElem?_cons_zero, List.getElem?_cons_succ] at x0 x1 x2 x3 x4
        have e0 := HRa7.out.2.2.2.1.cell 0
        have f0 := HRa7.out.2.2.2.1.free 0
        have e1 := HRa7.out.2.2.2.1.cell 1
        have f1 := HRa7.out.2.2.2.1.free 1
        have e2 := HRa7.out.2.2.2.1.cell 2
        have f2 := HRa7.out.2.2.2.1.free 2
        have e3 := HRa7.out.2.2.2.1.cell 3
        have f3 := HRa7.out.2.2.2.1.free 3
        simp only [List.getElem?_cons_zero, List.getElem?_cons_succ] at e0 e1 e2 e3
        go_upto_region 14 with (fail)
        have HR7 : Hid (RB W [.slice q b.length cp, .int .i64 ox7, .int .i64 cx7, .int .i64 ax7, .int .i64 (lv : Nat)] [.slice none 0 0, .int .i64 0, .int .i64 0, .int .i64 0, .int .i64 0] [.int .i64 0, .string ⟨#[]⟩, .string ⟨#[]⟩, .slice none 0 0] [.int .i64 2, .string (bstr nv), .string (bstr nn), .slice none 0 0] ((((((w7.setCell ⟨W.heap.size, 0, none⟩ (.slice q b.length cp)).setCell ⟨W.heap.size, 1, none⟩ (.int .i64 ox7)).setCell ⟨W.heap.size, 2, none⟩ (.int .i64 cx7)).setCell ⟨W.heap.size, 3, none⟩ (.int .i64 ax7)).setCell ⟨W.heap.size, 4, none⟩ (.int .i64 (lv : Nat))).setCell ⟨W.heap.size + 3, 2, none⟩ (.string (bstr nn)))) := (HRa7.out.pl (.slice q b.length cp) (.int .i64 ox7) (.int .i64 cx7) (.int .i64 ax7) (.int .i64 (lv : Nat))).ce (i := 2) (.string (bstr nn)) (by decide)
        clear x0 y0 x1 y1 x2 y2 x3 y3 x4 y4
        clear e0 f0 e1 f1 e2 f2 e3 f3
        clear HRa7
        generalize ((((((w7.setCell ⟨W.heap.size, 0, none⟩ (.slice q b.length cp)).setCell ⟨W.heap.size, 1, none⟩ (.int .i64 ox7)).setCell ⟨W.heap.size, 2, none⟩ (.int .i64 cx7)).setCell ⟨W.heap.size, 3, none⟩ (.int .i64 ax7)).setCell ⟨W.heap.size, 4, none⟩ (.int .i64 (lv : Nat))).setCell ⟨W.heap.size + 3, 2, none⟩ (.string (bstr nn))) = wz7 at HR7 ⊢
        have x0 := HR7.out.1.cell 0
        have y0 := HR7.out.1.free 0
        have x1 := HR7.out.1.cell 1
        have y1 := HR7.out.1.free 1
        have x2 := HR7.out.1.cell 2
        have y2 := HR7.out.1.free 2
        have x3 := HR7.out.1.cell 3
        have y3 := HR7.out.1.free 3
        have x4 := HR7.out.1.cell 4
        have y4 := HR7.out.1.free 4
        simp only [List.getElem?_cons_zero, List.getElem?_cons_succ] at x0 x1 x2 x3 x4
        go_upto_region 15 with (fail)
        have HR8 : Hid (RB W [.slice q b.length cp, .int .i64 ox7, .int .i64 cx7, .int .i64 ax7, .int .i64 ((lv : Int) + 1)] [.slice none 0 0, .int .i64 0, .int .i64 0, .int .i64 0, .int .i64 0] [.int .i64 0, .string ⟨#[]⟩, .string ⟨#[]⟩, .slice none 0 0] [.int .i64 2, .string (bstr nv), .string (bstr nn), .slice none 0 0] (wz7.setCell ⟨W.heap.size, 4, none⟩ (.int .i64 ((lv : Int) + 1)))) := HR7.out.cp (i := 4) _ (by decide)
        clear x0 y0 x1 y1 x2 y2 x3 y3 x4 y4
        clear HR7
        generalize wz7.setCell ⟨W.heap.size, 4, none⟩ (.int .i64 ((lv : Int) + 1)) = w8 at HR8 ⊢
        refine wp_region_noPanic ?_
        refine wp_region_held_drew (S := fun W' => Arr W' 59 W.heap.size [.slice q b.length cp, .int .i64 ox7, .int .i64 cx7, .int .i64 ax7, .int .i64 ((lv : Int) + 1)] ∧ Arr W' 42 (W.heap.size + 3) [.int .i64 2, .string (bstr nv), .string (bstr nn), .slice none 0 0]) (by kernel_rfl) ⟨HR8.out.drew.1, HR8.out.drew.2.2.2.1⟩ (fun hHeld => ?_)
        try simp only [Act.put]
        have HD := hiD HR8.out.drew
        skip
        generalize w8.drew = wd at HD hHeld  ⊢
        refine wpAnyH_take (i := 0) (oi := ⟨some 73, _, _, _, _, _⟩) (v := .agg #[.slice q b.length cp, .int .i64 ox7, .int .i64 cx7, .int .i64 ax7, .int .i64 ((lv : Int) + 1)]) rfl (by kernel_rfl) (by kernel_rfl) (by kernel_rfl) (fun _ _ _ h => h) (.inl ⟨by rfl, fun w' hSw => ?_⟩) hHeld ?_
        focus (have a0 := hSw.1.cell 0; have a1 := hSw.1.cell 1; have a2 := hSw.1.cell 2; have a3 := hSw.1.cell 3; have a4 := hSw.1.cell 4; simp only [List.getElem?_cons_zero, List.getElem?_cons_succ] at a0 a1 a2 a3 a4; clear hHeld; go_simp)
        try simp only [Act.put, pz0, pz1, pz2]
        refine wpAnyH_take (i := 1) (oi := ⟨some 74, _, _, _, _, _⟩) (v := .agg #[.int .i64 2, .string (bstr nv), .string (bstr nn), .slice none 0 0]) rfl (by kernel_rfl) (by kernel_rfl) (by kernel_rfl) (fun _ _ _ h => h) (.inl ⟨by rfl, fun w' hSw => ?_⟩) hHeld ?_
        focus (have a0 := hSw.2.cell 0; have a1 := hSw.2.cell 1; have a2 := hSw.2.cell 2; have a3 := hSw.2.cell 3; simp only [List.getElem?_cons_zero, List.getElem?_cons_succ] at a0 a1 a2 a3; clear hHeld; go_simp)
        try simp only [Act.put, pz0, pz1, pz2]
        refine wpAnyH_ready (rs := [2]) (by kernel_rfl) (by simp) ?_
        refine AllReadyH.cons (o := ⟨none, _, _, _, _, _⟩) rfl (fun K' hK' => ?_) AllReadyH.nil
        have p0 := HD.out.2.1.cell 0
        have z0 := HD.out.2.1.free 0
        have p1 := HD.out.2.1.cell 1
        have z1 := HD.out.2.1.free 1
        have p2 := HD.out.2.1.cell 2
        have z2 := HD.out.2.1.free 2
        have p3 := HD.out.2.1.cell 3
        have z3 := HD.out.2.1.free 3
        have p4 := HD.out.2.1.cell 4
        have z4 := HD.out.2.1.free 4
        simp only [List.getElem?_cons_zero, List.getElem?_cons_succ] at p0 p1 p2 p3 p4
        go_simp
        clear p0 z0 p1 z1 p2 z2 p3 z3 p4 z4
        have HD1 := hiD (HD.out.p4 (.slice q b.length cp) (.int .i64 ox7) (.int .i64 cx7) (.int .i64 ax7) (.int .i64 ((lv : Int) + 1)))
        refine hK'.out _ _ ⟨HD1.out.1, HD1.out.2.2.2.1⟩ (fun _ => ?_)
        clear hK' K' hHeld
        have hHeld := And.intro HD1.out.1 HD1.out.2.2.2.1
        try simp only [Act.put, pz0, pz1, pz2]
        refine wpAnyH_ready (rs := [3]) (by kernel_rfl) (by simp) ?_
        refine AllReadyH.cons (o := ⟨none, _, _, _, _, _⟩) rfl (fun K' hK' => ?_) AllReadyH.nil
        have g0 := HD1.out.2.2.1.cell 0
        have h0 := HD1.out.2.2.1.free 0
        have g1 := HD1.out.2.2.1.cell 1
        have h1 := HD1.out.2.2.1.free 1
        have g2 := HD1.out.2.2.1.cell 2
        have h2 := HD1.out.2.2.1.free 2
        have g3 := HD1.out.2.2.1.cell 3
        have h3 := HD1.out.2.2.1.free 3
        simp only [List.getElem?_cons_zero, List.getElem?_cons_succ] at g0 g1 g2 g3
        go_simp
        clear g0 h0 g1 h1 g2 h2 g3 h3
        have HD2 := hiD (HD1.out.p5 (.int .i64 2) (.string (bstr nv)) (.string (bstr nn)) (.slice none 0 0))
        refine hK'.out _ _ ⟨HD2.out.1, HD2.out.2.2.2.1⟩ (fun _ => ?_)
        clear hK' K' hHeld
        have hHeld := And.intro HD2.out.1 HD2.out.2.2.2.1
        try simp only [Act.put, pz0, pz1, pz2]
        refine wpAnyH_done (by kernel_rfl) ?_ _
        refine NoPanic.normal ?_
        go_wp2_with fail
        refine bodyPost_ret (resPX rfl HD2.out.2.1 HD2.out.2.2.1 rfl rfl) rfl ?_
        rw [HE.out]
        exact ⟨_, _, _, _, rfl, HP7.out, VE.leaf _ _ _ _ _, HD2.out.2.2.2.2⟩
    · have x0 := HR1.out.1.cell 0
      have y0 := HR1.out.1.free 0
      have x1 := HR1.out.1.cell 1
      have y1 := HR1.out.1.free 1
      have x2 := HR1.out.1.cell 2
      have y2 := HR1.out.1.free 2
      have x3 := HR1.out.1.cell 3
      have y3 := HR1.out.1.free 3
      have x4 := HR1.out.1.cell 4
      have y4 := HR1.out.1.free 4
      simp only [List.getElem?_cons_zero, List.getElem?_cons_succ] at x0 x1 x2 x3 x4
      have e0 := HR1.out.2.2.2.1.cell 0
      have f0 := HR1.out.2.2.2.1.free 0
      have e1 := HR1.out.2.2.2.1.cell 1
      have f1 := HR1.out.2.2.2.1.free 1
      have e2 := HR1.out.2.2.2.1.cell 2
      have f2 := HR1.out.2.2.2.1.free 2
      have e3 := HR1.out.2.2.2.1.cell 3
      have f3 := HR1.out.2.2.2.1.free 3
      simp only [List.getElem?_cons_zero, List.getElem?_cons_succ] at e0 e1 e2 e3
      go_upto_region 4 with (fail)
      have HR2 := hiD ((HR1.out.pl (.slice q b.length cp) (.int .i64 (o1 : Nat)) (.int .i64 0) (.int .i64 0) (.int .i64 (lv : Nat))).ce (i := 0) (.int .i64 3) (by decide))
      clear x0 y0 x1 y1 x2 y2 x3 y3 x4 y4
      clear e0 f0 e1 f1 e2 f2 e3 f3
      have HR3 : Hid (RB W [.slice q b.length cp, .int .i64 (o1 : Nat), .int .i64 0, .int .i64 0, .int .i64 (lv : Nat)] [.slice none 0 0, .int .i64 0, .int .i64 0, .int .i64 0, .int .i64 0] [.int .i64 0, .string ⟨#[]⟩, .string ⟨#[]⟩, .slice none 0 0] [.int .i64 3, .string ⟨#[]⟩, .string ⟨#[]⟩, .slice none 0 0] ((((((w1.setCell ⟨W.heap.size, 0, none⟩ (.slice q b.length cp)).setCell ⟨W.heap.size, 1, none⟩ (.int .i64 (o1 : Nat))).setCell ⟨W.heap.size, 2, none⟩ (.int .i64 0)).setCell ⟨W.heap.size, 3, none⟩ (.int .i64 0)).setCell ⟨W.heap.size, 4, none⟩ (.int .i64 (lv : Nat))).setCell ⟨W.heap.size + 3, 0, none⟩ (.int .i64 3))) := HR2.out
      clear HR1 HR2
      generalize ((((((w1.setCell ⟨W.heap.size, 0, none⟩ (.slice q b.length cp)).setCell ⟨W.heap.size, 1, none⟩ (.int .i64 (o1 : Nat))).setCell ⟨W.heap.size, 2, none⟩ (.int .i64 0)).setCell ⟨W.heap.size, 3, none⟩ (.int .i64 0)).setCell ⟨W.heap.size, 4, none⟩ (.int .i64 (lv : Nat))).setCell ⟨W.heap.size + 3, 0, none⟩ (.int .i64 3)) = w3 at HR3 ⊢
      clear HK5 HKG
      obtain ⟨n, hn⟩ : ∃ x, x = (numC b (chkR 2 32 15) (.go o1)).1 := ⟨_, rfl⟩
      obtain ⟨s5, hs5⟩ : ∃ x, x = (numC b (chkR 2 32 15) (.go o1)).2 := ⟨_, rfl⟩
      have HNN : Hid (n ≤ 32) := by rw [hn]; exact numC_le (fun x hx => (chkC_0 hx).2) _
      have HN5 := hiD (pNum2 (lv := lv) ((HRD.out.below HR3.out.2.2.2.2 (Nat.le_refl _)).mono HR3.out.2.2.2.2.size) (PI.of_go HOL1.out) HBL.out)
      have HE1 : Hid (refC b (d + 1) o lv = (.mk 3 [] [] (loopE (refC b d) (n - 0) [] s5 lv).1, (loopE (refC b d) (n - 0) [] s5 lv).2)) := by
        show _ = _
        rw [HE0.out.trans (topE_go.trans ((if_neg (by omega)).trans (if_neg (by omega)))), hn, hs5]; rfl
      rw [← hn, ← hs5] at HN5
      clear hn hs5 HE0
      have x0 := HR3.out.1.cell 0
      have y0 := HR3.out.1.free 0
      have x1 := HR3.out.1.cell 1
      have y1 := HR3.out.1.free 1
      have x2 := HR3.out.1.cell 2
      have y2 := HR3.out.1.free 2
      have x3 := HR3.out.1.cell 3
      have y3 := HR3.out.1.free 3
      have x4 := HR3.out.1.cell 4
      have y4 := HR3.out.1.free 4
      simp only [List.getElem?_cons_zero, List.getElem?_cons_succ] at x0 x1 x2 x3 x4
      have e0 := HR3.out.2.2.2.1.cell 0
      have f0 := HR3.out.2.2.2.1.free 0
      have e1 := HR3.out.2.2.2.1.cell 1
      have f1 := HR3.out.2.2.2.1.free 1
      have e2 := HR3.out.2.2.2.1.cell 2
      have f2 := HR3.out.2.2.2.1.free 2
      have e3 := HR3.out.2.2.2.1.cell 3
      have f3 := HR3.out.2.2.2.1.free 3
      simp only [List.getElem?_cons_zero, List.getElem?_cons_succ] at e0 e1 e2 e3
      go_wp2_with fail
      refine HN5.out.mono ?_
      rintro e w5 ⟨ox5, cx5, ax5, rfl, hp5, b5⟩
      have HRa5 := hiD (HR3.out.later b5)
      have HP5 := hiD hp5
      clear hp5 b5 HN5 HR3
      clear x0 y0 x1 y1 x2 y2 x3 y3 x4 y4
      clear e0 f0 e1 f1 e2 f2 e3 f3
      have x0 := HRa5.out.1.cell 0
      have y0 := HRa5.out.1.free 0
      have x1 := HRa5.out.1.cell 1
      have y1 := HRa5.out.1.free 1
      have x2 := HRa5.out.1.cell 2
      have y2 := HRa5.out.1.free 2
      have x3 := HRa5.out.1.cell 3
      have y3 := HRa5.out.1.free 3
      have x4 := HRa5.out.1.cell 4
      have y4 := HRa5.out.1.free 4
      simp only [List.getElem?_cons_zero, List.getElem?_cons_succ] at x0 x1 x2 x3 x4
      go_upto_region 19 with (fail)
      have HR5 : Hid (RB W [.slice q b.length cp, .int .i64 ox5, .int .i64 cx5, .int .i64 ax5, .int .i64 (lv : Nat)] [.slice none 0 0, .int .i64 0, .int .i64 0, .int .i64 0, .int .i64 0] [.int .i64 0, .string ⟨#[]⟩, .string ⟨#[]⟩, .slice none 0 0] [.int .i64 3, .string ⟨#[]⟩, .string ⟨#[]⟩, .slice none 0 0] (((((w5.setCell ⟨W.heap.size, 0, none⟩ (.slice q b.length cp)).setCell ⟨W.heap.size, 1, none⟩ (.int .i64 ox5)).setCell ⟨W.heap.size, 2, none⟩ (.int .i64 cx5)).setCell ⟨W.heap.size, 3, none⟩ (.int .i64 ax5)).setCell ⟨W.heap.size, 4, none⟩ (.int .i64 (lv : Nat)))) := HRa5.out.pl (.slice q b.length cp) (.int .i64 ox5) (.int .i64 cx5) (.int .i64 ax5) (.int .i64 (lv : Nat))
      clear x0 y0 x1 y1 x2 y2 x3 y3 x4 y4
      clear HRa5
      generalize (((((w5.setCell ⟨W.heap.size, 0, none⟩ (.slice q b.length cp)).setCell ⟨W.heap.size, 1, none⟩ (.int .i64 ox5)).setCell ⟨W.heap.size, 2, none⟩ (.int .i64 cx5)).setCell ⟨W.heap.size, 3, none⟩ (.int .i64 ax5)).setCell ⟨W.heap.size, 4, none⟩ (.int .i64 (lv : Nat))) = wz5 at HR5 ⊢
      go_wp2_with fail
      go_loopw [9] (fun iv wr => ∃ (i : Nat) (acc : List Ex) (s6 : St) (ox6 cx6 ax6 : Int) (lv6 : Nat) (q6 : Option Addr) (c6 : Nat), i ≤ n ∧ iv = .int .i64 (i : Nat) ∧ Hid (acc.length = i) ∧ Hid (PRow kdEx (W.heap.size + 4) (fun _ => False) wr (.slice q6 acc.length c6) acc) ∧ Hid (RB W [.slice q b.length cp, .int .i64 ox6, .int .i64 cx6, .int .i64 ax6, .int .i64 (lv6 : Nat)] [.slice none 0 0, .int .i64 0, .int .i64 0, .int .i64 0, .int .i64 0] [.int .i64 0, .string ⟨#[]⟩, .string ⟨#[]⟩, .slice none 0 0] [.int .i64 3, .string ⟨#[]⟩, .string ⟨#[]⟩, .slice q6 acc.length c6] wr) ∧ Hid (PI b s6 ox6 cx6 ax6) ∧ Hid (lv6 ≤ 32) ∧ Hid (refC b (d + 1) o lv = (.mk 3 [] [] (loopE (refC b d) (n - i) acc s6 lv6).1, (loopE (refC b d) (n - i) acc s6 lv6).2))) (fun iv _ => n - (intOf iv).toNat)
      case atStart => exact ⟨0, [], s5, ox5, cx5, ax5, lv, none, 0, Nat.zero_le _, rfl, rfl, PRow.nil _ _ _ _, HR5, HP5, HLV, HE1⟩
      case round =>
        obtain ⟨i, acc, s6, ox6, cx6, ax6, lv6, q6, c6, hi, rfl, HLEN, HRW6, HR6, HP6, HL6, HE6⟩ := hrel
        by_cases hlt : i < n
        · cases s6 with
          | er c a =>
            have hlt' : (i : Int) < n := by omega
            have hcx := HP6.out.er
            have hc2 : (cx6 == 0) = false := by simpa using hcx
            have HEN : Hid (refC b (d + 1) o lv = (.mk 3 [] [] acc, .er c a, lv6)) := by
              show _ = _
              rw [HE6.out, loopE_er]
            clear HE6 IH hlt
            have x0 := HR6.out.1.cell 0
            have y0 := HR6.out.1.free 0
            have x1 := HR6.out.1.cell 1
            have y1 := HR6.out.1.free 1
            have x2 := HR6.out.1.cell 2
            have y2 := HR6.out.1.free 2
            have x3 := HR6.out.1.cell 3
            have y3 := HR6.out.1.free 3
            have x4 := HR6.out.1.cell 4
            have y4 := HR6.out.1.free 4
            simp only [List.getElem?_cons_zero, List.getElem?_cons_succ] at x0 x1 x2 x3 x4
            go_upto_region 25 with (fail)
            clear x0 y0 x1 y1 x2 y2 x3 y3 x4 y4
            refine wp_region_noPanic ?_
            refine wp_region_held_drew (S := fun W' => Arr W' 59 W.heap.size [.slice q b.length cp, .int .i64 ox6, .int .i64 cx6, .int .i64 ax6, .int .i64 (lv6 : Nat)] ∧ Arr W' 42 (W.heap.size + 3) [.int .i64 3, .string ⟨#[]⟩, .string ⟨#[]⟩, .slice q6 acc.length c6]) (by kernel_rfl) ⟨HR6.out.drew.1, HR6.out.drew.2.2.2.1⟩ (fun hHeld => ?_)
            try simp only [Act.put]
            have HD := hiD HR6.out.drew
            have HWD := hiD (HRW6.out.later (Below.refl _ _).drew)
            generalize wr.drew = wd at HD hHeld HWD ⊢
            refine wpAnyH_take (i := 0) (oi := ⟨some 107, _, _, _, _, _⟩) (v := .agg #[.slice q b.length cp, .int .i64 ox6, .int .i64 cx6, .int .i64 ax6, .int .i64 (lv6 : Nat)]) rfl (by kernel_rfl) (by kernel_rfl) (by kernel_rfl) (fun _ _ _ h => h) (.inl ⟨by rfl, fun w' hSw => ?_⟩) hHeld ?_
            focus (have a0 := hSw.1.cell 0; have a1 := hSw.1.cell 1; have a2 := hSw.1.cell 2; have a3 := hSw.1.cell 3; have a4 := hSw.1.cell 4; simp only [List.getElem?_cons_zero, List.getElem?_cons_succ] at a0 a1 a2 a3 a4; clear hHeld; go_simp)
            try simp only [Act.put, pz0, pz1, pz2]
            refine wpAnyH_take (i := 1) (oi := ⟨some 108, _, _, _, _, _⟩) (v := .agg #[.int .i64 3, .string ⟨#[]⟩, .string ⟨#[]⟩, .slice q6 acc.length c6]) rfl (by kernel_rfl) (by kernel_rfl) (by kernel_rfl) (fun _ _ _ h => h) (.inl ⟨by rfl, fun w' hSw => ?_⟩) hHeld ?_
            focus (have a0 := hSw.2.cell 0; have a1 := hSw.2.cell 1; have a2 := hSw.2.cell 2; have a3 := hSw.2.cell 3; simp only [List.getElem?_cons_zero, List.getElem?_cons_succ] at a0 a1 a2 a3; clear hHeld; go_simp)
            try simp only [Act.put, pz0, pz1, pz2]
            refine wpAnyH_ready (rs := [2]) (by kernel_rfl) (by simp) ?_
            refine AllReadyH.cons (o := ⟨none, _, _, _, _, _⟩) rfl (fun K' hK' => ?_) AllReadyH.nil
            have p0 := HD.out.2.1.cell 0
            have z0 := HD.out.2.1.free 0
            have p1 := HD.out.2.1.cell 1
            have z1 := HD.out.2.1.free 1
            have p2 := HD.out.2.1.cell 2
            have z2 := HD.out.2.1.free 2
            have p3 := HD.out.2.1.cell 3
            have z3 := HD.out.2.1.free 3
            have p4 := HD.out.2.1.cell 4
            have z4 := HD.out.2.1.free 4
            simp only [List.getElem?_cons_zero, List.getElem?_cons_succ] at p0 p1 p2 p3 p4
            go_simp
            clear p0 z0 p1 z1 p2 z2 p3 z3 p4 z4
            have HD1 := hiD (HD.out.p4 (.slice q b.length cp) (.int .i64 ox6) (.int .i64 cx6) (.int .i64 ax6) (.int .i64 (lv6 : Nat)))
            refine hK'.out _ _ ⟨HD1.out.1, HD1.out.2.2.2.1⟩ (fun _ => ?_)
            clear hK' K' hHeld
            have hHeld := And.intro HD1.out.1 HD1.out.2.2.2.1
            try simp only [Act.put, pz0, pz1, pz2]
            refine wpAnyH_ready (rs := [3]) (by kernel_rfl) (by simp) ?_
            refine AllReadyH.cons (o := ⟨none, _, _, _, _, _⟩) rfl (fun K' hK' => ?_) AllReadyH.nil
            have g0 := HD1.out.2.2.1.cell 0
            have h0 := HD1.out.2.2.1.free 0
            have g1 := HD1.out.2.2.1.cell 1
            have h1 := HD1.out.2.2.1.free 1
            have g2 := HD1.out.2.2.1.cell 2
            have h2 := HD1.out.2.2.1.free 2
            have g3 := HD1.out.2.2.1.cell 3
            have h3 := HD1.out.2.2.1.free 3
            simp only [List.getElem?_cons_zero, List.getElem?_cons_succ] at g0 g1 g2 g3
            go_simp
            clear g0 h0 g1 h1 g2 h2 g3 h3
            have HD2 := hiD (HD1.out.p5 (.int .i64 3) (.string ⟨#[]⟩) (.string ⟨#[]⟩) (.slice q6 acc.length c6))
            refine hK'.out _ _ ⟨HD2.out.1, HD2.out.2.2.2.1⟩ (fun _ => ?_)
            clear hK' K' hHeld
            have hHeld := And.intro HD2.out.1 HD2.out.2.2.2.1
            try simp only [Act.put, pz0, pz1, pz2]
            refine wpAnyH_done (by kernel_rfl) ?_ _
            refine NoPanic.normal ?_
            have HWF := hiD ((HWD.out.box5 (g := W.heap.size + 1) (by omega) (.slice q b.length cp) (.int .i64 ox6) (.int .i64 cx6) (.int .i64 ax6) (.int .i64 (lv6 : Nat))).box4 (g := W.heap.size + 2) (by omega) (.int .i64 3) (.string ⟨#[]⟩) (.string ⟨#[]⟩) (.slice q6 acc.length c6))
            go_wp2_with fail
            refine bodyPost_ret (resPX rfl HD2.out.2.1 HD2.out.2.2.1 rfl rfl) rfl ?_
            rw [HEN.out]
            exact ⟨_, _, _, _, rfl, HP6.out, (VE.low (HWF.out.rdE 3 [] []) (by omega)), HD2.out.2.2.2.2⟩
          | go o2 =>
            obtain ⟨rfl, rfl, rfl, hol2⟩ := HP6.out.go
            have HOL2 := hiD hol2
            have hlt' : (i : Int) < n := by omega
            have hw : wrap64 ((i : Int) + 1) = (i : Int) + 1 := by unfold wrap64; have := HNN.out; omega
            have HLT : Hid (i < n) := hlt
            obtain ⟨x, hx⟩ : ∃ x, x = (refC b d o2 lv6).1 := ⟨_, rfl⟩
            obtain ⟨s8, hs8⟩ : ∃ x, x = (refC b d o2 lv6).2.1 := ⟨_, rfl⟩
            obtain ⟨lv8, hl8⟩ : ∃ x, x = (refC b d o2 lv6).2.2 := ⟨_, rfl⟩
            have HL8 : Hid (lv8 ≤ 32) := by show _ ≤ _; rw [hl8]; exact (ref_as b d o2 lv6 HL6.out).2
            obtain ⟨mk, mv, mn, ms⟩ := x
            have HE7 : Hid (refC b (d + 1) o lv = (.mk 3 [] [] (loopE (refC b d) (n - (i + 1)) (acc ++ [.mk mk mv mn ms]) s8 lv8).1, (loopE (refC b d) (n - (i + 1)) (acc ++ [.mk mk mv mn ms]) s8 lv8).2)) := by
              show _ = _
              rw [HE6.out, show n - i = (n - (i + 1)) + 1 by omega, loopE, ← hx, ← hs8, ← hl8]
            have HCT : Hid (∀ w7, Rd w7.heap.size w7 (.slice q b.length cp) b → Calls Tryz.prog 27 #[.agg #[.slice q b.length cp, .int .i64 (o2 : Nat), .int .i64 0, .int .i64 0, .int .i64 (lv6 : Nat)], .int .i64 ((D : Int) + 1)] w7 fun e w' => ∃ ox8 cx8 ax8 v, e = .returned (.tuple #[.agg #[.slice q b.length cp, .int .i64 ox8, .int .i64 cx8, .int .i64 ax8, .int .i64 (lv8 : Nat)], v]) ∧ PI b s8 ox8 cx8 ax8 ∧ VE w7.heap.size (.mk mk mv mn ms) w' v ∧ Below w7.heap.size w7 w') := fun w7 hw7 => by
              have h := IH.out w7 o2 lv6 hw7 HBL.out HOL2.out HL6.out
              unfold QPost at h
              rw [← hx, ← hs8, ← hl8] at h
              exact h
            have HAC : Hid (acc.length + 1 ≤ 200000) := by show _ ≤ _; have := HNN.out; have := HLEN.out; omega
            clear HE6 hx hs8 hl8 hlt IH hol2 HP6
            generalize hwr : wr = w6 at HRW6 HR6 ⊢
            clear hwr
            have x0 := HR6.out.1.cell 0
            have y0 := HR6.out.1.free 0
            have x1 := HR6.out.1.cell 1
            have y1 := HR6.out.1.free 1
            have x2 := HR6.out.1.cell 2
            have y2 := HR6.out.1.free 2
            have x3 := HR6.out.1.cell 3
            have y3 := HR6.out.1.free 3
            have x4 := HR6.out.1.cell 4
            have y4 := HR6.out.1.free 4
            simp only [List.getElem?_cons_zero, List.getElem?_cons_succ] at x0 x1 x2 x3 x4
            go_upto_region 23 with (fail)
            clear x0 y0 x1 y1 x2 y2 x3 y3 x4 y4
            have hb7 : Below w6.heap.size w6 (w6.alloc (.cells #[.int .i64 0, .string ⟨#[]⟩, .string ⟨#[]⟩, .slice none 0 0] 42)) := (Below.refl _ _).alloc (Nat.le_refl _) _
            have HR7 := hiD (HR6.out.later hb7)
            have HT7 : Hid (Arr (w6.alloc (.cells #[.int .i64 0, .string ⟨#[]⟩, .string ⟨#[]⟩, .slice none 0 0] 42)) 42 w6.heap.size [.int .i64 0, .string ⟨#[]⟩, .string ⟨#[]⟩, .slice none 0 0]) := Arr.new' _ _ _ _ rfl
            have HK7 : Hid (Kp W.heap.size w6 (w6.alloc (.cells #[.int .i64 0, .string ⟨#[]⟩, .string ⟨#[]⟩, .slice none 0 0] 42))) := Kp.of hb7
            have HBLK : Hid (∀ b, (Value.slice q6 acc.length c6).ownBlock = some b → b < w6.heap.size) := fun b hb => by obtain ⟨_, h, _⟩ := HRW6.out; exact (h.lt b hb).2
            obtain ⟨g, hg⟩ : ∃ g, g = w6.heap.size := ⟨_, rfl⟩
            have HG6 : Hid (W.heap.size + 4 ≤ g ∧ w6.heap.size ≤ g) := ⟨by have := HR6.out.2.2.2.1.lt; omega, Nat.le_of_eq hg.symm⟩
            rw [← hg] at HT7 ⊢
            clear hb7 hg HR6
            generalize w6.alloc (.cells #[.int .i64 0, .string ⟨#[]⟩, .string ⟨#[]⟩, .slice none 0 0] 42) = w7 at HR7 HT7 HK7 ⊢
            have HC7 := hiD (HCT.out w7 ((HRD.out.below HR7.out.2.2.2.2 (Nat.le_refl _)).mono HR7.out.2.2.2.2.size))
            have HTL : Hid (g < w7.heap.size) := HT7.out.lt
            have x0 := HR7.out.1.cell 0
            have y0 := HR7.out.1.free 0
            have x1 := HR7.out.1.cell 1
            have y1 := HR7.out.1.free 1
            have x2 := HR7.out.1.cell 2
            have y2 := HR7.out.1.free 2
            have x3 := HR7.out.1.cell 3
            have y3 := HR7.out.1.free 3
            have x4 := HR7.out.1.cell 4
            have y4 := HR7.out.1.free 4
            simp only [List.getElem?_cons_zero, List.getElem?_cons_succ] at x0 x1 x2 x3 x4
            go_wp2_with fail
            refine HC7.out.mono ?_
            rintro e w8 ⟨ox8, cx8, ax8, v, rfl, hp8, hv8, b8⟩
            have r8' : VE w7.heap.size (.mk mk mv mn ms) w8 v := hv8
            obtain ⟨q8, c8, rfl, _, _⟩ := RdE.form hv8
            unfold exv at r8' ⊢
            dsimp only [Ex.kind, Ex.via, Ex.nm, Ex.kids] at r8' ⊢
            have HV8 : Hid (VE w7.heap.size (.mk mk mv mn ms) w8 (.agg #[.int .i64 mk, .string (bstr mv), .string (bstr mn), .slice q8 ms.length c8])) := r8'
            have HP8 := hiD hp8
            have HR8 := hiD (HR7.out.later b8)
            have HT8 := hiD (HT7.out.later b8)
            have HK8 := hiD (HK7.out.trans (Kp.of b8))
            clear r8' hv8 hp8 b8 HC7 HCT HR7 HT7 HK7
            have hgw : ¬ g = W.heap.size := by have := HG6.out.1; omega
            have hgw' : ¬ W.heap.size = g := by have := HG6.out.1; omega
            clear x0 y0 x1 y1 x2 y2 x3 y3 x4 y4
            have x0 := HR8.out.1.cell 0
            have y0 := HR8.out.1.free 0
            have x1 := HR8.out.1.cell 1
            have y1 := HR8.out.1.free 1
            have x2 := HR8.out.1.cell 2
            have y2 := HR8.out.1.free 2
            have x3 := HR8.out.1.cell 3
            have y3 := HR8.out.1.free 3
            have x4 := HR8.out.1.cell 4
            have y4 := HR8.out.1.free 4
            simp only [List.getElem?_cons_zero, List.getElem?_cons_succ] at x0 x1 x2 x3 x4
            obtain ⟨e0, f0, e1, f1, e2, f2, e3, f3⟩ := HT8.out.all4
            go_upto_region 24 with (fail)
            clear hgw hgw'
            clear x0 y0 x1 y1 x2 y2 x3 y3 x4 y4
            clear e0 f0 e1 f1 e2 f2 e3 f3
            have HR9 := hiD ((HR8.out.pl (.slice q b.length cp) (.int .i64 ox8) (.int .i64 cx8) (.int .i64 ax8) (.int .i64 (lv8 : Nat))).far4 HG6.out.1 (.int .i64 mk) (.string (bstr mv)) (.string (bstr mn)) (.slice q8 ms.length c8))
            have HT9 : Hid (Arr (((((((((w8.setCell ⟨W.heap.size, 0, none⟩ (.slice q b.length cp)).setCell ⟨W.heap.size, 1, none⟩ (.int .i64 ox8)).setCell ⟨W.heap.size, 2, none⟩ (.int .i64 cx8)).setCell ⟨W.heap.size, 3, none⟩ (.int .i64 ax8)).setCell ⟨W.heap.size, 4, none⟩ (.int .i64 (lv8 : Nat))).setCell ⟨g, 0, none⟩ (.int .i64 mk)).setCell ⟨g, 1, none⟩ (.string (bstr mv))).setCell ⟨g, 2, none⟩ (.string (bstr mn))).setCell ⟨g, 3, none⟩ (.slice q8 ms.length c8)) 42 g [.int .i64 mk, .string (bstr mv), .string (bstr mn), .slice q8 ms.length c8]) := Arr.set4x (((((HT8.out.setCell (by have := HG6.out.1; simp only [ne_eq]; omega) _).setCell (by have := HG6.out.1; simp only [ne_eq]; omega) _).setCell (by have := HG6.out.1; simp only [ne_eq]; omega) _).setCell (by have := HG6.out.1; simp only [ne_eq]; omega) _).setCell (by have := HG6.out.1; simp only [ne_eq]; omega) _) _ _ _ _
            have hk1 := kp_setP w8 W.heap.size (.slice q b.length cp) (.int .i64 ox8) (.int .i64 cx8) (.int .i64 ax8) (.int .i64 (lv8 : Nat))
            have hk2 := kp_set4 (((((w8.setCell ⟨W.heap.size, 0, none⟩ (.slice q b.length cp)).setCell ⟨W.heap.size, 1, none⟩ (.int .i64 ox8)).setCell ⟨W.heap.size, 2, none⟩ (.int .i64 cx8)).setCell ⟨W.heap.size, 3, none⟩ (.int .i64 ax8)).setCell ⟨W.heap.size, 4, none⟩ (.int .i64 (lv8 : Nat))) g (.int .i64 mk) (.string (bstr mv)) (.string (bstr mn)) (.slice q8 ms.length c8)
            have HK9 := hiD ((HK8.out.trans hk1).andThen hk2 HG6.out.2)
            have HV9 := hiD ((HV8.out.kp hk1 (by have := HG6.out.1; have := HTL.out; omega)).kp hk2 HTL.out)
            have HRW9 := hiD (HRW6.out.turn HK9.out.2.2.2.1 (fun b h1 h2 _ => HK9.out.2.2.2.2 b h2 (by omega)))
            have HSZ : Hid (w6.heap.size ≤ w7.heap.size) := by show _ ≤ _; have := HG6.out.2; have := HTL.out; omega
            clear hk1 hk2 HR8 HT8 HK8 HV8 HRW6 HK9
            generalize (((((((((w8.setCell ⟨W.heap.size, 0, none⟩ (.slice q b.length cp)).setCell ⟨W.heap.size, 1, none⟩ (.int .i64 ox8)).setCell ⟨W.heap.size, 2, none⟩ (.int .i64 cx8)).setCell ⟨W.heap.size, 3, none⟩ (.int .i64 ax8)).setCell ⟨W.heap.size, 4, none⟩ (.int .i64 (lv8 : Nat))).setCell ⟨g, 0, none⟩ (.int .i64 mk)).setCell ⟨g, 1, none⟩ (.string (bstr mv))).setCell ⟨g, 2, none⟩ (.string (bstr mn))).setCell ⟨g, 3, none⟩ (.slice q8 ms.length c8)) = w9 at HR9 HT9 HV9 HRW9 ⊢
            have hba : Below w9.heap.size w9 (w9.alloc (.cells #[.int .i64 mk, .string (bstr mv), .string (bstr mn), .slice q8 ms.length c8] 42)) := (Below.refl _ _).alloc (Nat.le_refl _) _
            have HRWa := hiD (HRW9.out.later hba)
            have HRa := hiD (HR9.out.later hba)
            have HEa : Hid (Arr (w9.alloc (.cells #[.int .i64 mk, .string (bstr mv), .string (bstr mn), .slice q8 ms.length c8] 42)) 42 w9.heap.size [.int .i64 mk, .string (bstr mv), .string (bstr mn), .slice q8 ms.length c8]) := Arr.new' _ _ _ _ rfl
            have HV9' : rdEx (Bt w7.heap.size w9.heap.size) w9 (.mk mk mv mn ms) [.int .i64 mk, .string (bstr mv), .string (bstr mn), .slice q8 ms.length c8] := ⟨_, _, _, _, rfl, HV9.out⟩
            have HXa : Hid (kdEx.rd (SubX (W.heap.size + 4) (fun _ => False) (w9.alloc (.cells #[.int .i64 mk, .string (bstr mv), .string (bstr mn), .slice q8 ms.length c8] 42)) (.slice q6 acc.length c6)) (w9.alloc (.cells #[.int .i64 mk, .string (bstr mv), .string (bstr mn), .slice q8 ms.length c8] 42)) (.mk mk mv mn ms) [.int .i64 mk, .string (bstr mv), .string (bstr mn), .slice q8 ms.length c8]) := kdEx.imp (fun b hb => ⟨by have := HG6.out.1; have := HTL.out; have := hb.1; omega, Nat.lt_of_lt_of_le hb.2 hba.size, fun e => by have h1 := HBLK.out b e.symm; have := hb.1; have := HSZ.out; omega, fun h => h⟩) (kdEx.keep (fun b hb n => hba.cell (p := ⟨b, n, none⟩) hb.2) HV9')
            have HBS : Hid (W.heap.size + 4 ≤ (w9.alloc (.cells #[.int .i64 mk, .string (bstr mv), .string (bstr mn), .slice q8 ms.length c8] 42)).heap.size) := by show _ ≤ _; have := HRa.out.2.2.2.1.lt; omega
            have e0 := HR9.out.2.2.2.1.cell 0
            have f0 := HR9.out.2.2.2.1.free 0
            have e1 := HR9.out.2.2.2.1.cell 1
            have f1 := HR9.out.2.2.2.1.free 1
            have e2 := HR9.out.2.2.2.1.cell 2
            have f2 := HR9.out.2.2.2.1.free 2
            have e3 := HR9.out.2.2.2.1.cell 3
            have f3 := HR9.out.2.2.2.1.free 3
            simp only [List.getElem?_cons_zero, List.getElem?_cons_succ] at e0 e1 e2 e3
            obtain ⟨t0, r0, t1, r1, t2, r2, t3, r3⟩ := HT9.out.all4
            go_wp2_with (at_builtin; refine app_row (K := kdEx) (x := .mk mk mv mn ms) rfl _ _ rfl rfl HRWa.out rfl HEa.out HXa.out HAC.out HBS.out (fun b h => h.elim) ?_)
            intro v10 w10 r10 g10 o10
            have HR10 := hiD (HRa.out.grown g10 (fun k hk => o10 k hk))
            have HRW10 := hiD r10
            obtain ⟨q10, c10, hv10⟩ := r10.form
            rw [List.length_append, List.length_singleton] at hv10
            subst hv10
            clear r10 g10 o10 hba HRWa HRa HEa HXa HV9' HBS HR9 HT9 HV9 HRW9 t0 t1 t2 t3 r0 r1 r2 r3
            clear e0 f0 e1 f1 e2 f2 e3 f3
            have e0 := HR10.out.2.2.2.1.cell 0
            have f0 := HR10.out.2.2.2.1.free 0
            have e1 := HR10.out.2.2.2.1.cell 1
            have f1 := HR10.out.2.2.2.1.free 1
            have e2 := HR10.out.2.2.2.1.cell 2
            have f2 := HR10.out.2.2.2.1.free 2
            have e3 := HR10.out.2.2.2.1.cell 3
            have f3 := HR10.out.2.2.2.1.free 3
            simp only [List.getElem?_cons_zero, List.getElem?_cons_succ] at e0 e1 e2 e3
            go_wp2_with fail
            have HR11 := hiD (HR10.out.ce (i := 3) (.slice q10 (acc.length + 1) c10) (by decide))
            have HRW11 := hiD (HRW10.out.box (g := W.heap.size + 3) (.inl (by omega)) 3 (.slice q10 (acc.length + 1) c10))
            go_roundw
            case rel => exact ⟨i + 1, acc ++ [Ex.mk mk mv mn ms], s8, ox8, cx8, ax8, lv8, q10, c10, HLT.out, by go_num, by rw [List.length_append, HLEN.out]; rfl, by rw [List.length_append]; exact HRW11.out, by rw [List.length_append]; exact HR11.out, HP8, HL8, HE7⟩
            case measure => first | exact meas HLT.out (Nat.le_trans HNN.out (by decide)) | exact meas' HLT.out
        · have hlt' : ¬ (i : Int) < n := by omega
          have HEN : Hid (refC b (d + 1) o lv = (.mk 3 [] [] acc, s6, lv6)) := by
            show _ = _
            rw [HE6.out, show n - i = 0 by omega]; rfl
          clear HE6 IH hlt
          go_upto_region 25 with (fail)
          refine wp_region_noPanic ?_
          refine wp_region_held_drew (S := fun W' => Arr W' 59 W.heap.size [.slice q b.length cp, .int .i64 ox6, .int .i64 cx6, .int .i64 ax6, .int .i64 (lv6 : Nat)] ∧ Arr W' 42 (W.heap.size + 3) [.int .i64 3, .string ⟨#[]⟩, .string ⟨#[]⟩, .slice q6 acc.length c6]) (by kernel_rfl) ⟨HR6.out.drew.1, HR6.out.drew.2.2.2.1⟩ (fun hHeld => ?_)
          try simp only [Act.put]
          have HD := hiD HR6.out.drew
          have HWD := hiD (HRW6.out.later (Below.refl _ _).drew)
          generalize wr.drew = wd at HD hHeld HWD ⊢
          refine wpAnyH_take (i := 0) (oi := ⟨some 107, _, _, _, _, _⟩) (v := .agg #[.slice q b.length cp, .int .i64 ox6, .int .i64 cx6, .int .i64 ax6, .int .i64 (lv6 : Nat)]) rfl (by kernel_rfl) (by kernel_rfl) (by kernel_rfl) (fun _ _ _ h => h) (.inl ⟨by rfl, fun w' hSw => ?_⟩) hHeld ?_
          focus (have a0 := hSw.1.cell 0; have a1 := hSw.1.cell 1; have a2 := hSw.1.cell 2; have a3 := hSw.1.cell 3; have a4 := hSw.1.cell 4; simp only [List.getElem?_cons_zero, List.getElem?_cons_succ] at a0 a1 a2 a3 a4; clear hHeld; go_simp)
          try simp only [Act.put, pz0, pz1, pz2]
          refine wpAnyH_take (i := 1) (oi := ⟨some 108, _, _, _, _, _⟩) (v := .agg #[.int .i64 3, .string ⟨#[]⟩, .string ⟨#[]⟩, .slice q6 acc.length c6]) rfl (by kernel_rfl) (by kernel_rfl) (by kernel_rfl) (fun _ _ _ h => h) (.inl ⟨by rfl, fun w' hSw => ?_⟩) hHeld ?_
          focus (have a0 := hSw.2.cell 0; have a1 := hSw.2.cell 1; have a2 := hSw.2.cell 2; have a3 := hSw.2.cell 3; simp only [List.getElem?_cons_zero, List.getElem?_cons_succ] at a0 a1 a2 a3; clear hHeld; go_simp)
          try simp only [Act.put, pz0, pz1, pz2]
          refine wpAnyH_ready (rs := [2]) (by kernel_rfl) (by simp) ?_
          refine AllReadyH.cons (o := ⟨none, _, _, _, _, _⟩) rfl (fun K' hK' => ?_) AllReadyH.nil
          have p0 := HD.out.2.1.cell 0
          have z0 := HD.out.2.1.free 0
          have p1 := HD.out.2.1.cell 1
          have z1 := HD.out.2.1.free 1
          have p2 := HD.out.2.1.cell 2
          have z2 := HD.out.2.1.free 2
          have p3 := HD.out.2.1.cell 3
          have z3 := HD.out.2.1.free 3
          have p4 := HD.out.2.1.cell 4
          have z4 := HD.out.2.1.free 4
          simp only [List.getElem?_cons_zero, List.getElem?_cons_succ] at p0 p1 p2 p3 p4
          go_simp
          clear p0 z0 p1 z1 p2 z2 p3 z3 p4 z4
          have HD1 := hiD (HD.out.p4 (.slice q b.length cp) (.int .i64 ox6) (.int .i64 cx6) (.int .i64 ax6) (.int .i64 (lv6 : Nat)))
          refine hK'.out _ _ ⟨HD1.out.1, HD1.out.2.2.2.1⟩ (fun _ => ?_)
          clear hK' K' hHeld
          have hHeld := And.intro HD1.out.1 HD1.out.2.2.2.1
          try simp only [Act.put, pz0, pz1, pz2]
          refine wpAnyH_ready (rs := [3]) (by kernel_rfl) (by simp) ?_
          refine AllReadyH.cons (o := ⟨none, _, _, _, _, _⟩) rfl (fun K' hK' => ?_) AllReadyH.nil
          have g0 := HD1.out.2.2.1.cell 0
          have h0 := HD1.out.2.2.1.free 0
          have g1 := HD1.out.2.2.1.cell 1
          have h1 := HD1.out.2.2.1.free 1
          have g2 := HD1.out.2.2.1.cell 2
          have h2 := HD1.out.2.2.1.free 2
          have g3 := HD1.out.2.2.1.cell 3
          have h3 := HD1.out.2.2.1.free 3
          simp only [List.getElem?_cons_zero, List.getElem?_cons_succ] at g0 g1 g2 g3
          go_simp
          clear g0 h0 g1 h1 g2 h2 g3 h3
          have HD2 := hiD (HD1.out.p5 (.int .i64 3) (.string ⟨#[]⟩) (.string ⟨#[]⟩) (.slice q6 acc.length c6))
          refine hK'.out _ _ ⟨HD2.out.1, HD2.out.2.2.2.1⟩ (fun _ => ?_)
          clear hK' K' hHeld
          have hHeld := And.intro HD2.out.1 HD2.out.2.2.2.1
          try simp only [Act.put, pz0, pz1, pz2]
          refine wpAnyH_done (by kernel_rfl) ?_ _
          refine NoPanic.normal ?_
          have HWF := hiD ((HWD.out.box5 (g := W.heap.size + 1) (by omega) (.slice q b.length cp) (.int .i64 ox6) (.int .i64 cx6) (.int .i64 ax6) (.int .i64 (lv6 : Nat))).box4 (g := W.heap.size + 2) (by omega) (.int .i64 3) (.string ⟨#[]⟩) (.string ⟨#[]⟩) (.slice q6 acc.length c6))
          go_wp2_with fail
          refine bodyPost_ret (resPX rfl HD2.out.2.1 HD2.out.2.2.1 rfl rfl) rfl ?_
          rw [HEN.out]
          exact ⟨_, _, _, _, rfl, HP6.out, (VE.low (HWF.out.rdE 3 [] []) (by omega)), HD2.out.2.2.2.2⟩
    · have x0 := HR1.out.1.cell 0
      have y0 := HR1.out.1.free 0
      have x1 := HR1.out.1.cell 1
      have y1 := HR1.out.1.free 1
      have x2 := HR1.out.1.cell 2
      have y2 := HR1.out.1.free 2
      have x3 := HR1.out.1.cell 3
      have y3 := HR1.out.1.free 3
      have x4 := HR1.out.1.cell 4
      have y4 := HR1.out.1.free 4
      simp only [List.getElem?_cons_zero, List.getElem?_cons_succ] at x0 x1 x2 x3 x4
      have e0 := HR1.out.2.2.2.1.cell 0
      have f0 := HR1.out.2.2.2.1.free 0
      have e1 := HR1.out.2.2.2.1.cell 1
      have f1 := HR1.out.2.2.2.1.free 1
      have e2 := HR1.out.2.2.2.1.cell 2
      have f2 := HR1.out.2.2.2.1.free 2
      have e3 := HR1.out.2.2.2.1.cell 3
      have f3 := HR1.out.2.2.2.1.free 3
      simp only [List.getElem?_cons_zero, List.getElem?_cons_succ] at e0 e1 e2 e3
      go_upto_region 4 with (fail)
      have HR2 := hiD ((HR1.out.pl (.slice q b.length cp) (.int .i64 (o1 : Nat)) (.int .i64 0) (.int .i64 0) (.int .i64 (lv : Nat))).ce (i := 0) (.int .i64 4) (by decide))
      clear x0 y0 x1 y1 x2 y2 x3 y3 x4 y4
      clear e0 f0 e1 f1 e2 f2 e3 f3
      have HR3 : Hid (RB W [.slice q b.length cp, .int .i64 (o1 : Nat), .int .i64 0, .int .i64 0, .int .i64 (lv : Nat)] [.slice none 0 0, .int .i64 0, .int .i64 0, .int .i64 0, .int .i64 0] [.int .i64 0, .string ⟨#[]⟩, .string ⟨#[]⟩, .slice none 0 0] [.int .i64 4, .string ⟨#[]⟩, .string ⟨#[]⟩, .slice none 0 0] ((((((w1.setCell ⟨W.heap.size, 0, none⟩ (.slice q b.length cp)).setCell ⟨W.heap.size, 1, none⟩ (.int .i64 (o1 : Nat))).setCell ⟨W.heap.size, 2, none⟩ (.int .i64 0)).setCell ⟨W.heap.size, 3, none⟩ (.int .i64 0)).setCell ⟨W.heap.size, 4, none⟩ (.int .i64 (lv : Nat))).setCell ⟨W.heap.size + 3, 0, none⟩ (.int .i64 4))) := HR2.out
      clear HR1 HR2
      generalize ((((((w1.setCell ⟨W.heap.size, 0, none⟩ (.slice q b.length cp)).setCell ⟨W.heap.size, 1, none⟩ (.int .i64 (o1 : Nat))).setCell ⟨W.heap.size, 2, none⟩ (.int .i64 0)).setCell ⟨W.heap.size, 3, none⟩ (.int .i64 0)).setCell ⟨W.heap.size, 4, none⟩ (.int .i64 (lv : Nat))).setCell ⟨W.heap.size + 3, 0, none⟩ (.int .i64 4)) = w3 at HR3 ⊢
      clear HK5 HKG
      obtain ⟨n, hn⟩ : ∃ x, x = (numC b (chkR 2 32 15) (.go o1)).1 := ⟨_, rfl⟩
      obtain ⟨s5, hs5⟩ : ∃ x, x = (numC b (chkR 2 32 15) (.go o1)).2 := ⟨_, rfl⟩
      have HNN : Hid (n ≤ 32) := by rw [hn]; exact numC_le (fun x hx => (chkC_0 hx).2) _
      have HN5 := hiD (pNum2 (lv := lv) ((HRD.out.below HR3.out.2.2.2.2 (Nat.le_refl _)).mono HR3.out.2.2.2.2.size) (PI.of_go HOL1.out) HBL.out)
      have HE1 : Hid (refC b (d + 1) o lv = (.mk 4 [] [] (loopE (refC b d) (n - 0) [] s5 lv).1, (loopE (refC b d) (n - 0) [] s5 lv).2)) := by
        show _ = _
        rw [HE0.out.trans (topE_go.trans ((if_neg (by omega)).trans (if_neg (by omega)))), hn, hs5]; rfl
      rw [← hn, ← hs5] at HN5
      clear hn hs5 HE0
      have x0 := HR3.out.1.cell 0
      have y0 := HR3.out.1.free 0
      have x1 := HR3.out.1.cell 1
      have y1 := HR3.out.1.free 1
      have x2 := HR3.out.1.cell 2
      have y2 := HR3.out.1.free 2
      have x3 := HR3.out.1.cell 3
      have y3 := HR3.out.1.free 3
      have x4 := HR3.out.1.cell 4
      have y4 := HR3.out.1.free 4
      simp only [List.getElem?_cons_zero, List.getElem?_cons_succ] at x0 x1 x2 x3 x4
      have e0 := HR3.out.2.2.2.1.cell 0
      have f0 := HR3.out.2.2.2.1.free 0
      have e1 := HR3.out.2.2.2.1.cell 1
      have f1 := HR3.out.2.2.2.1.free 1
      have e2 := HR3.out.2.2.2.1.cell 2
      have f2 := HR3.out.2.2.2.1.free 2
      have e3 := HR3.out.2.2.2.1.cell 3
      have f3 := HR3.out.2.2.2.1.free 3
      simp only [List.getElem?_cons_zero, List.getElem?_cons_succ] at e0 e1 e2 e3
      go_wp2_with fail
      refine HN5.out.mono ?_
      rintro e w5 ⟨ox5, cx5, ax5, rfl, hp5, b5⟩
      have HRa5 := hiD (HR3.out.later b5)
      have HP5 := hiD hp5
      clear hp5 b5 HN5 HR3
      clear x0 y0 x1 y1 x2 y2 x3 y3 x4 y4
      clear e0 f0 e1 f1 e2 f2 e3 f3
      have x0 := HRa5.out.1.cell 0
      have y0 := HRa5.out.1.free 0
      have x1 := HRa5.out.1.cell 1
      have y1 := HRa5.out.1.free 1
      have x2 := HRa5.out.1.cell 2
      have y2 := HRa5.out.1.free 2
      have x3 := HRa5.out.1.cell 3
      have y3 := HRa5.out.1.free 3
      have x4 := HRa5.out.1.cell 4
      have y4 := HRa5.out.1.free 4
      simp only [List.getElem?_cons_zero, List.getElem?_cons_succ] at x0 x1 x2 x3 x4
      go_upto_region 19 with (fail)
      have HR5 : Hid (RB W [.slice q b.length cp, .int .i64 ox5, .int .i64 cx5, .int .i64 ax5, .int .i64 (lv : Nat)] [.slice none 0 0, .int .i64 0, .int .i64 0, .int .i64 0, .int .i64 0] [.int .i64 0, .string ⟨#[]⟩, .string ⟨#[]⟩, .slice none 0 0] [.int .i64 4, .string ⟨#[]⟩, .string ⟨#[]⟩, .slice none 0 0] (((((w5.setCell ⟨W.heap.size, 0, none⟩ (.slice q b.length cp)).setCell ⟨W.heap.size, 1, none⟩ (.int .i64 ox5)).setCell ⟨W.heap.size, 2, none⟩ (.int .i64 cx5)).setCell ⟨W.heap.size, 3, none⟩ (.int .i64 ax5)).setCell ⟨W.heap.size, 4, none⟩ (.int .i64 (lv : Nat)))) := HRa5.out.pl (.slice q b.length cp) (.int .i64 ox5) (.int .i64 cx5) (.int .i64 ax5) (.int .i64 (lv : Nat))
      clear x0 y0 x1 y1 x2 y2 x3 y3 x4 y4
      clear HRa5
      generalize (((((w5.setCell ⟨W.heap.size, 0, none⟩ (.slice q b.length cp)).setCell ⟨W.heap.size, 1, none⟩ (.int .i64 ox5)).setCell ⟨W.heap.size, 2, none⟩ (.int .i64 cx5)).setCell ⟨W.heap.size, 3, none⟩ (.int .i64 ax5)).setCell ⟨W.heap.size, 4, none⟩ (.int .i64 (lv : Nat))) = wz5 at HR5 ⊢
      go_wp2_with fail
      go_loopw [9] (fun iv wr => ∃ (i : Nat) (acc : List Ex) (s6 : St) (ox6 cx6 ax6 : Int) (lv6 : Nat) (q6 : Option Addr) (c6 : Nat), i ≤ n ∧ iv = .int .i64 (i : Nat) ∧ Hid (acc.length = i) ∧ Hid (PRow kdEx (W.heap.size + 4) (fun _ => False) wr (.slice q6 acc.length c6) acc) ∧ Hid (RB W [.slice q b.length cp, .int .i64 ox6, .int .i64 cx6, .int .i64 ax6, .int .i64 (lv6 : Nat)] [.slice none 0 0, .int .i64 0, .int .i64 0, .int .i64 0, .int .i64 0] [.int .i64 0, .string ⟨#[]⟩, .string ⟨#[]⟩, .slice none 0 0] [.int .i64 4, .string ⟨#[]⟩, .string ⟨#[]⟩, .slice q6 acc.length c6] wr) ∧ Hid (PI b s6 ox6 cx6 ax6) ∧ Hid (lv6 ≤ 32) ∧ Hid (refC b (d + 1) o lv = (.mk 4 [] [] (loopE (refC b d) (n - i) acc s6 lv6).1, (loopE (refC b d) (n - i) acc s6 lv6).2))) (fun iv _ => n - (intOf iv).toNat)
      case atStart => exact ⟨0, [], s5, ox5, cx5, ax5, lv, none, 0, Nat.zero_le _, rfl, rfl, PRow.nil _ _ _ _, HR5, HP5, HLV, HE1⟩
      case round =>
        obtain ⟨i, acc, s6, ox6, cx6, ax6, lv6, q6, c6, hi, rfl, HLEN, HRW6, HR6, HP6, HL6, HE6⟩ := hrel
        by_cases hlt : i < n
        · cases s6 with
          | er c a =>
            have hlt' : (i : Int) < n := by omega
            have hcx := HP6.out.er
            have hc2 : (cx6 == 0) = false := by simpa using hcx
            have HEN : Hid (refC b (d + 1) o lv = (.mk 4 [] [] acc, .er c a, lv6)) := by
              show _ = _
              rw [HE6.out, loopE_er]
            clear HE6 IH hlt
            have x0 := HR6.out.1.cell 0
            have y0 := HR6.out.1.free 0
            have x1 := HR6.out.1.cell 1
            have y1 := HR6.out.1.free 1
            have x2 := HR6.out.1.cell 2
            have y2 := HR6.out.1.free 2
            have x3 := HR6.out.1.cell 3
            have y3 := HR6.out.1.free 3
            have x4 := HR6.out.1.cell 4
            have y4 := HR6.out.1.free 4
            simp only [List.getElem?_cons_zero, List.getElem?_cons_succ] at x0 x1 x2 x3 x4
            go_upto_region 25 with (fail)
            clear x0 y0 x1 y1 x2 y2 x3 y3 x4 y4
            refine wp_region_noPanic ?_
            refine wp_region_held_drew (S := fun W' => Arr W' 59 W.heap.size [.slice q b.length cp, .int .i64 ox6, .int .i64 cx6, .int .i64 ax6, .int .i64 (lv6 : Nat)] ∧ Arr W' 42 (W.heap.size + 3) [.int .i64 4, .string ⟨#[]⟩, .string ⟨#[]⟩, .slice q6 acc.length c6]) (by kernel_rfl) ⟨HR6.out.drew.1, HR6.out.drew.2.2.2.1⟩ (fun hHeld => ?_)
            try simp only [Act.put]
            have HD := hiD HR6.out.drew
            have HWD := hiD (HRW6.out.later (Below.refl _ _).drew)
            generalize wr.drew = wd at HD hHeld HWD ⊢
            refine wpAnyH_take (i := 0) (oi := ⟨some 107, _, _, _, _, _⟩) (v := .agg #[.slice q b.length cp, .int .i64 ox6, .int .i64 cx6, .int .i64 ax6, .int .i64 (lv6 : Nat)]) rfl (by kernel_rfl) (by kernel_rfl) (by kernel_rfl) (fun _ _ _ h => h) (.inl ⟨by rfl, fun w' hSw => ?_⟩) hHeld ?_
            focus (have a0 := hSw.1.cell 0; have a1 := hSw.1.cell 1; have a2 := hSw.1.cell 2; have a3 := hSw.1.cell 3; have a4 := hSw.1.cell 4; simp only [List.getElem?_cons_zero, List.getElem?_cons_succ] at a0 a1 a2 a3 a4; clear hHeld; go_simp)
            try simp only [Act.put, pz0, pz1, pz2]
            refine wpAnyH_take (i := 1) (oi := ⟨some 108, _, _, _, _, _⟩) (v := .agg #[.int .i64 4, .string ⟨#[]⟩, .string ⟨#[]⟩, .slice q6 acc.length c6]) rfl (by kernel_rfl) (by kernel_rfl) (by kernel_rfl) (fun _ _ _ h => h) (.inl ⟨by rfl, fun w' hSw => ?_⟩) hHeld ?_
            focus (have a0 := hSw.2.cell 0; have a1 := hSw.2.cell 1; have a2 := hSw.2.cell 2; have a3 := hSw.2.cell 3; simp only [List.getElem?_cons_zero, List.getElem?_cons_succ] at a0 a1 a2 a3; clear hHeld; go_simp)
            try simp only [Act.put, pz0, pz1, pz2]
            refine wpAnyH_ready (rs := [2]) (by kernel_rfl) (by simp) ?_
            refine AllReadyH.cons (o := ⟨none, _, _, _, _, _⟩) rfl (fun K' hK' => ?_) AllReadyH.nil
            have p0 := HD.out.2.1.cell 0
            have z0 := HD.out.2.1.free 0
            have p1 := HD.out.2.1.cell 1
            have z1 := HD.out.2.1.free 1
            have p2 := HD.out.2.1.cell 2
            have z2 := HD.out.2.1.free 2
            have p3 := HD.out.2.1.cell 3
            have z3 := HD.out.2.1.free 3
            have p4 := HD.out.2.1.cell 4
            have z4 := HD.out.2.1.free 4
            simp only [List.getElem?_cons_zero, List.getElem?_cons_succ] at p0 p1 p2 p3 p4
            go_simp
            clear p0 z0 p1 z1 p2 z2 p3 z3 p4 z4
            have HD1 := hiD (HD.out.p4 (.slice q b.length cp) (.int .i64 ox6) (.int .i64 cx6) (.int .i64 ax6) (.int .i64 (lv6 : Nat)))
            refine hK'.out _ _ ⟨HD1.out.1, HD1.out.2.2.2.1⟩ (fun _ => ?_)
            clear hK' K' hHeld
            have hHeld := And.intro HD1.out.1 HD1.out.2.2.2.1
            try simp only [Act.put, pz0, pz1, pz2]
            refine wpAnyH_ready (rs := [3]) (by kernel_rfl) (by simp) ?_
            refine AllReadyH.cons (o := ⟨none, _, _, _, _, _⟩) rfl (fun K' hK' => ?_) AllReadyH.nil
            have g0 := HD1.out.2.2.1.cell 0
            have h0 := HD1.out.2.2.1.free 0
            have g1 := HD1.out.2.2.1.cell 1
            have h1 := HD1.out.2.2.1.free 1
            have g2 := HD1.out.2.2.1.cell 2
            have h2 := HD1.out.2.2.1.free 2
            have g3 := HD1.out.2.2.1.cell 3
            have h3 := HD1.out.2.2.1.free 3
            simp only [List.getElem?_cons_zero, List.getElem?_cons_succ] at g0 g1 g2 g3
            go_simp
            clear g0 h0 g1 h1 g2 h2 g3 h3
            have HD2 := hiD (HD1.out.p5 (.int .i64 4) (.string ⟨#[]⟩) (.string ⟨#[]⟩) (.slice q6 acc.length c6))
            refine hK'.out _ _ ⟨HD2.out.1, HD2.out.2.2.2.1⟩ (fun _ => ?_)
            clear hK' K' hHeld
            have hHeld := And.intro HD2.out.1 HD2.out.2.2.2.1
            try simp only [Act.put, pz0, pz1, pz2]
            refine wpAnyH_done (by kernel_rfl) ?_ _
            refine NoPanic.normal ?_
            have HWF := hiD ((HWD.out.box5 (g := W.heap.size + 1) (by omega) (.slice q b.length cp) (.int .i64 ox6) (.int .i64 cx6) (.int .i64 ax6) (.int .i64 (lv6 : Nat))).box4 (g := W.heap.size + 2) (by omega) (.int .i64 4) (.string ⟨#[]⟩) (.string ⟨#[]⟩) (.slice q6 acc.length c6))
            go_wp2_with fail
            refine bodyPost_ret (resPX rfl HD2.out.2.1 HD2.out.2.2.1 rfl rfl) rfl ?_
            rw [HEN.out]
            exact ⟨_, _, _, _, rfl, HP6.out, (VE.low (HWF.out.rdE 4 [] []) (by omega)), HD2.out.2.2.2.2⟩
          | go o2 =>
            obtain ⟨rfl, rfl, rfl, hol2⟩ := HP6.out.go
            have HOL2 := hiD hol2
            have hlt' : (i : Int) < n := by omega
            have hw : wrap64 ((i : Int) + 1) = (i : Int) + 1 := by unfold wrap64; have := HNN.out; omega
            have HLT : Hid (i < n) := hlt
            obtain ⟨x, hx⟩ : ∃ x, x = (refC b d o2 lv6).1 := ⟨_, rfl⟩
            obtain ⟨s8, hs8⟩ : ∃ x, x = (refC b d o2 lv6).2.1 := ⟨_, rfl⟩
            obtain ⟨lv8, hl8⟩ : ∃ x, x = (refC b d o2 lv6).2.2 := ⟨_, rfl⟩
            have HL8 : Hid (lv8 ≤ 32) := by show _ ≤ _; rw [hl8]; exact (ref_as b d o2 lv6 HL6.out).2
            obtain ⟨mk, mv, mn, ms⟩ := x
            have HE7 : Hid (refC b (d + 1) o lv = (.mk 4 [] [] (loopE (refC b d) (n - (i + 1)) (acc ++ [.mk mk mv mn ms]) s8 lv8).1, (loopE (refC b d) (n - (i + 1)) (acc ++ [.mk mk mv mn ms]) s8 lv8).2)) := by
              show _ = _
              rw [HE6.out, show n - i = (n - (i + 1)) + 1 by omega, loopE, ← hx, ← hs8, ← hl8]
            have HCT : Hid (∀ w7, Rd w7.heap.size w7 (.slice q b.length cp) b → Calls Tryz.prog 27 #[.agg #[.slice q b.length cp, .int .i64 (o2 : Nat), .int .i64 0, .int .i64 0, .int .i64 (lv6 : Nat)], .int .i64 ((D : Int) + 1)] w7 fun e w' => ∃ ox8 cx8 ax8 v, e = .returned (.tuple #[.agg #[.slice q b.length cp, .int .i64 ox8, .int .i64 cx8, .int .i64 ax8, .int .i64 (lv8 : Nat)], v]) ∧ PI b s8 ox8 cx8 ax8 ∧ VE w7.heap.size (.mk mk mv mn ms) w' v ∧ Below w7.heap.size w7 w') := fun w7 hw7 => by
              have h := IH.out w7 o2 lv6 hw7 HBL.out HOL2.out HL6.out
              unfold QPost at h
              rw [← hx, ← hs8, ← hl8] at h
              exact h
            have HAC : Hid (acc.length + 1 ≤ 200000) := by show _ ≤ _; have := HNN.out; have := HLEN.out; omega
            clear HE6 hx hs8 hl8 hlt IH hol2 HP6
            generalize hwr : wr = w6 at HRW6 HR6 ⊢
            clear hwr
            have x0 := HR6.out.1.cell 0
            have y0 := HR6.out.1.free 0
            have x1 := HR6.out.1.cell 1
            have y1 := HR6.out.1.free 1
            have x2 := HR6.out.1.cell 2
            have y2 := HR6.out.1.free 2
            have x3 := HR6.out.1.cell 3
            have y3 := HR6.out.1.free 3
            have x4 := HR6.out.1.cell 4
            have y4 := HR6.out.1.free 4
            simp only [List.getElem?_cons_zero, List.getElem?_cons_succ] at x0 x1 x2 x3 x4
            go_upto_region 23 with (fail)
            clear x0 y0 x1 y1 x2 y2 x3 y3 x4 y4
            have hb7 : Below w6.heap.size w6 (w6.alloc (.cells #[.int .i64 0, .string ⟨#[]⟩, .string ⟨#[]⟩, .slice none 0 0] 42)) := (Below.refl _ _).alloc (Nat.le_refl _) _
            have HR7 := hiD (HR6.out.later hb7)
            have HT7 : Hid (Arr (w6.alloc (.cells #[.int .i64 0, .string ⟨#[]⟩, .string ⟨#[]⟩, .slice none 0 0] 42)) 42 w6.heap.size [.int .i64 0, .string ⟨#[]⟩, .string ⟨#[]⟩, .slice none 0 0]) := Arr.new' _ _ _ _ rfl
            have HK7 : Hid (Kp W.heap.size w6 (w6.alloc (.cells #[.int .i64 0, .string ⟨#[]⟩, .string ⟨#[]⟩, .slice none 0 0] 42))) := Kp.of hb7
            have HBLK : Hid (∀ b, (Value.slice q6 acc.length c6).ownBlock = some b → b < w6.heap.size) := fun b hb => by obtain ⟨_, h, _⟩ := HRW6.out; exact (h.lt b hb).2
            obtain ⟨g, hg⟩ : ∃ g, g = w6.heap.size := ⟨_, rfl⟩
            have HG6 : Hid (W.heap.size + 4 ≤ g ∧ w6.heap.size ≤ g) := ⟨by have := HR6.out.2.2.2.1.lt; omega, Nat.le_of_eq hg.symm⟩
            rw [← hg] at HT7 ⊢
            clear hb7 hg HR6
            generalize w6.alloc (.cells #[.int .i64 0, .string ⟨#[]⟩, .string ⟨#[]⟩, .slice none 0 0] 42) = w7 at HR7 HT7 HK7 ⊢
            have HC7 := hiD (HCT.out w7 ((HRD.out.below HR7.out.2.2.2.2 (Nat.le_refl _)).mono HR7.out.2.2.2.2.size))
            have HTL : Hid (g < w7.heap.size) := HT7.out.lt
            have x0 := HR7.out.1.cell 0
            have y0 := HR7.out.1.free 0
            have x1 := HR7.out.1.cell 1
            have y1 := HR7.out.1.free 1
            have x2 := HR7.out.1.cell 2
            have y2 := HR7.out.1.free 2
            have x3 := HR7.out.1.cell 3
            have y3 := HR7.out.1.free 3
            have x4 := HR7.out.1.cell 4
            have y4 := HR7.out.1.free 4
            simp only [List.getElem?_cons_zero, List.getElem?_cons_succ] at x0 x1 x2 x3 x4
            go_wp2_with fail
            refine HC7.out.mono ?_
            rintro e w8 ⟨ox8, cx8, ax8, v, rfl, hp8, hv8, b8⟩
            have r8' : VE w7.heap.size (.mk mk mv mn ms) w8 v := hv8
            obtain ⟨q8, c8, rfl, _, _⟩ := RdE.form hv8
            unfold exv at r8' ⊢
            dsimp only [Ex.kind, Ex.via, Ex.nm, Ex.kids] at r8' ⊢
            have HV8 : Hid (VE w7.heap.size (.mk mk mv mn ms) w8 (.agg #[.int .i64 mk, .string (bstr mv), .string (bstr mn), .slice q8 ms.length c8])) := r8'
            have HP8 := hiD hp8
            have HR8 := hiD (HR7.out.later b8)
            have HT8 := hiD (HT7.out.later b8)
            have HK8 := hiD (HK7.out.trans (Kp.of b8))
            clear r8' hv8 hp8 b8 HC7 HCT HR7 HT7 HK7
            have hgw : ¬ g = W.heap.size := by have := HG6.out.1; omega
            have hgw' : ¬ W.heap.size = g := by have := HG6.out.1; omega
            clear x0 y0 x1 y1 x2 y2 x3 y3 x4 y4
            have x0 := HR8.out.1.cell 0
            have y0 := HR8.out.1.free 0
            have x1 := HR8.out.1.cell 1
            have y1 := HR8.out.1.free 1
            have x2 := HR8.out.1.cell 2
            have y2 := HR8.out.1.free 2
            have x3 := HR8.out.1.cell 3
            have y3 := HR8.out.1.free 3
            have x4 := HR8.out.1.cell 4
            have y4 := HR8.out.1.free 4
            simp only [List.getElem?_cons_zero, List.getElem?_cons_succ] at x0 x1 x2 x3 x4
            obtain ⟨e0, f0, e1, f1, e2, f2, e3, f3⟩ := HT8.out.all4
            go_upto_region 24 with (fail)
            clear hgw hgw'
            clear x0 y0 x1 y1 x2 y2 x3 y3 x4 y4
            clear e0 f0 e1 f1 e2 f2 e3 f3
            have HR9 := hiD ((HR8.out.pl (.slice q b.length cp) (.int .i64 ox8) (.int .i64 cx8) (.int .i64 ax8) (.int .i64 (lv8 : Nat))).far4 HG6.out.1 (.int .i64 mk) (.string (bstr mv)) (.string (bstr mn)) (.slice q8 ms.length c8))
            have HT9 : Hid (Arr (((((((((w8.setCell ⟨W.heap.size, 0, none⟩ (.slice q b.length cp)).setCell ⟨W.heap.size, 1, none⟩ (.int .i64 ox8)).setCell ⟨W.heap.size, 2, none⟩ (.int .i64 cx8)).setCell ⟨W.heap.size, 3, none⟩ (.int .i64 ax8)).setCell ⟨W.heap.size, 4, none⟩ (.int .i64 (lv8 : Nat))).setCell ⟨g, 0, none⟩ (.int .i64 mk)).setCell ⟨g, 1, none⟩ (.string (bstr mv))).setCell ⟨g, 2, none⟩ (.string (bstr mn))).setCell ⟨g, 3, none⟩ (.slice q8 ms.length c8)) 42 g [.int .i64 mk, .string (bstr mv), .string (bstr mn), .slice q8 ms.length c8]) := Arr.set4x (((((HT8.out.setCell (by have := HG6.out.1; simp only [ne_eq]; omega) _).setCell (by have := HG6.out.1; simp only [ne_eq]; omega) _).setCell (by have := HG6.out.1; simp only [ne_eq]; omega) _).setCell (by have := HG6.out.1; simp only [ne_eq]; omega) _).setCell (by have := HG6.out.1; simp only [ne_eq]; omega) _) _ _ _ _
            have hk1 := kp_setP w8 W.heap.size (.slice q b.length cp) (.int .i64 ox8) (.int .i64 cx8) (.int .i64 ax8) (.int .i64 (lv8 : Nat))
            have hk2 := kp_set4 (((((w8.setCell ⟨W.heap.size, 0, none⟩ (.slice q b.length cp)).setCell ⟨W.heap.size, 1, none⟩ (.int .i64 ox8)).setCell ⟨W.heap.size, 2, none⟩ (.int .i64 cx8)).setCell ⟨W.heap.size, 3, none⟩ (.int .i64 ax8)).setCell ⟨W.heap.size, 4, none⟩ (.int .i64 (lv8 : Nat))) g (.int .i64 mk) (.string (bstr mv)) (.string (bstr mn)) (.slice q8 ms.length c8)
            have HK9 := hiD ((HK8.out.trans hk1).andThen hk2 HG6.out.2)
            have HV9 := hiD ((HV8.out.kp hk1 (by have := HG6.out.1; have := HTL.out; omega)).kp hk2 HTL.out)
            have HRW9 := hiD (HRW6.out.turn HK9.out.2.2.2.1 (fun b h1 h2 _ => HK9.out.2.2.2.2 b h2 (by omega)))
            have HSZ : Hid (w6.heap.size ≤ w7.heap.size) := by show _ ≤ _; have := HG6.out.2; have := HTL.out; omega
            clear hk1 hk2 HR8 HT8 HK8 HV8 HRW6 HK9
            generalize (((((((((w8.setCell ⟨W.heap.size, 0, none⟩ (.slice q b.length cp)).setCell ⟨W.heap.size, 1, none⟩ (.int .i64 ox8)).setCell ⟨W.heap.size, 2, none⟩ (.int .i64 cx8)).setCell ⟨W.heap.size, 3, none⟩ (.int .i64 ax8)).setCell ⟨W.heap.size, 4, none⟩ (.int .i64 (lv8 : Nat))).setCell ⟨g, 0, none⟩ (.int .i64 mk)).setCell ⟨g, 1, none⟩ (.string (bstr mv))).setCell ⟨g, 2, none⟩ (.string (bstr mn))).setCell ⟨g, 3, none⟩ (.slice q8 ms.length c8)) = w9 at HR9 HT9 HV9 HRW9 ⊢
            have hba : Below w9.heap.size w9 (w9.alloc (.cells #[.int .i64 mk, .string (bstr mv), .string (bstr mn), .slice q8 ms.length c8] 42)) := (Below.refl _ _).alloc (Nat.le_refl _) _
            have HRWa := hiD (HRW9.out.later hba)
            have HRa := hiD (HR9.out.later hba)
            have HEa : Hid (Arr (w9.alloc (.cells #[.int .i64 mk, .string (bstr mv), .string (bstr mn), .slice q8 ms.length c8] 42)) 42 w9.heap.size [.int .i64 mk, .string (bstr mv), .string (bstr mn), .slice q8 ms.length c8]) := Arr.new' _ _ _ _ rfl
            have HV9' : rdEx (Bt w7.heap.size w9.heap.size) w9 (.mk mk mv mn ms) [.int .i64 mk, .string (bstr mv), .string (bstr mn), .slice q8 ms.length c8] := ⟨_, _, _, _, rfl, HV9.out⟩
            have HXa : Hid (kdEx.rd (SubX (W.heap.size + 4) (fun _ => False) (w9.alloc (.cells #[.int .i64 mk, .string (bstr mv), .string (bstr mn), .slice q8 ms.length c8] 42)) (.slice q6 acc.length c6)) (w9.alloc (.cells #[.int .i64 mk, .string (bstr mv), .string (bstr mn), .slice q8 ms.length c8] 42)) (.mk mk mv mn ms) [.int .i64 mk, .string (bstr mv), .string (bstr mn), .slice q8 ms.length c8]) := kdEx.imp (fun b hb => ⟨by have := HG6.out.1; have := HTL.out; have := hb.1; omega, Nat.lt_of_lt_of_le hb.2 hba.size, fun e => by have h1 := HBLK.out b e.symm; have := hb.1; have := HSZ.out; omega, fun h => h⟩) (kdEx.keep (fun b hb n => hba.cell (p := ⟨b, n, none⟩) hb.2) HV9')
            have HBS : Hid (W.heap.size + 4 ≤ (w9.alloc (.cells #[.int .i64 mk, .string (bstr mv), .string (bstr mn), .slice q8 ms.length c8] 42)).heap.size) := by show _ ≤ _; have := HRa.out.2.2.2.1.lt; omega
            have e0 := HR9.out.2.2.2.1.cell 0
            have f0 := HR9.out.2.2.2.1.free 0
            have e1 := HR9.out.2.2.2.1.cell 1
            have f1 := HR9.out.2.2.2.1.free 1
            have e2 := HR9.out.2.2.2.1.cell 2
            have f2 := HR9.out.2.2.2.1.free 2
            have e3 := HR9.out.2.2.2.1.cell 3
            have f3 := HR9.out.2.2.2.1.free 3
            simp only [List.getElem?_cons_zero, List.getElem?_cons_succ] at e0 e1 e2 e3
            obtain ⟨t0, r0, t1, r1, t2, r2, t3, r3⟩ := HT9.out.all4
            go_wp2_with (at_builtin; refine app_row (K := kdEx) (x := .mk mk mv mn ms) rfl _ _ rfl rfl HRWa.out rfl HEa.out HXa.out HAC.out HBS.out (fun b h => h.elim) ?_)
            intro v10 w10 r10 g10 o10
            have HR10 := hiD (HRa.out.grown g10 (fun k hk => o10 k hk))
            have HRW10 := hiD r10
            obtain ⟨q10, c10, hv10⟩ := r10.form
            rw [List.length_append, List.length_singleton] at hv10
            subst hv10
            clear r10 g10 o10 hba HRWa HRa HEa HXa HV9' HBS HR9 HT9 HV9 HRW9 t0 t1 t2 t3 r0 r1 r2 r3
            clear e0 f0 e1 f1 e2 f2 e3 f3
            have e0 := HR10.out.2.2.2.1.cell 0
            have f0 := HR10.out.2.2.2.1.free 0
            have e1 := HR10.out.2.2.2.1.cell 1
            have f1 := HR10.out.2.2.2.1.free 1
            have e2 := HR10.out.2.2.2.1.cell 2
            have f2 := HR10.out.2.2.2.1.free 2
            have e3 := HR10.out.2.2.2.1.cell 3
            have f3 := HR10.out.2.2.2.1.free 3
            simp only [List.getElem?_cons_zero, List.getElem?_cons_succ] at e0 e1 e2 e3
            go_wp2_with fail
            have HR11 := hiD (HR10.out.ce (i := 3) (.slice q10 (acc.length + 1) c10) (by decide))
            have HRW11 := hiD (HRW10.out.box (g := W.heap.size + 3) (.inl (by omega)) 3 (.slice q10 (acc.length + 1) c10))
            go_roundw
            case rel => exact ⟨i + 1, acc ++ [Ex.mk mk mv mn ms], s8, ox8, cx8, ax8, lv8, q10, c10, HLT.out, by go_num, by rw [List.length_append, HLEN.out]; rfl, by rw [List.length_append]; exact HRW11.out, by rw [List.length_append]; exact HR11.out, HP8, HL8, HE7⟩
            case measure => first | exact meas HLT.out (Nat.le_trans HNN.out (by decide)) | exact meas' HLT.out
        · have hlt' : ¬ (i : Int) < n := by omega
          have HEN : Hid (refC b (d + 1) o lv = (.mk 4 [] [] acc, s6, lv6)) := by
            show _ = _
            rw [HE6.out, show n - i = 0 by omega]; rfl
          clear HE6 IH hlt
          go_upto_region 25 with (fail)
          refine wp_region_noPanic ?_
          refine wp_region_held_drew (S := fun W' => Arr W' 59 W.heap.size [.slice q b.length cp, .int .i64 ox6, .int .i64 cx6, .int .i64 ax6, .int .i64 (lv6 : Nat)] ∧ Arr W' 42 (W.heap.size + 3) [.int .i64 4, .string ⟨#[]⟩, .string ⟨#[]⟩, .slice q6 acc.length c6]) (by kernel_rfl) ⟨HR6.out.drew.1, HR6.out.drew.2.2.2.1⟩ (fun hHeld => ?_)
          try simp only [Act.put]
          have HD := hiD HR6.out.drew
          have HWD := hiD (HRW6.out.later (Below.refl _ _).drew)
          generalize wr.drew = wd at HD hHeld HWD ⊢
          refine wpAnyH_take (i := 0) (oi := ⟨some 107, _, _, _, _, _⟩) (v := .agg #[.slice q b.length cp, .int .i64 ox6, .int .i64 cx6, .int .i64 ax6, .int .i64 (lv6 : Nat)]) rfl (by kernel_rfl) (by kernel_rfl) (by kernel_rfl) (fun _ _ _ h => h) (.inl ⟨by rfl, fun w' hSw => ?_⟩) hHeld ?_
          focus (have a0 := hSw.1.cell 0; have a1 := hSw.1.cell 1; have a2 := hSw.1.cell 2; have a3 := hSw.1.cell 3; have a4 := hSw.1.cell 4; simp only [List.getElem?_cons_zero, List.getElem?_cons_succ] at a0 a1 a2 a3 a4; clear hHeld; go_simp)
          try simp only [Act.put, pz0, pz1, pz2]
          refine wpAnyH_take (i := 1) (oi := ⟨some 108, _, _, _, _, _⟩) (v := .agg #[.int .i64 4, .string ⟨#[]⟩, .string ⟨#[]⟩, .slice q6 acc.length c6]) rfl (by kernel_rfl) (by kernel_rfl) (by kernel_rfl) (fun _ _ _ h => h) (.inl ⟨by rfl, fun w' hSw => ?_⟩) hHeld ?_
          focus (have a0 := hSw.2.cell 0; have a1 := hSw.2.cell 1; have a2 := hSw.2.cell 2; have a3 := hSw.2.cell 3; simp only [List.getElem?_cons_zero, List.getElem?_cons_succ] at a0 a1 a2 a3; clear hHeld; go_simp)
          try simp only [Act.put, pz0, pz1, pz2]
          refine wpAnyH_ready (rs := [2]) (by kernel_rfl) (by simp) ?_
          refine AllReadyH.cons (o := ⟨none, _, _, _, _, _⟩) rfl (fun K' hK' => ?_) AllReadyH.nil
          have p0 := HD.out.2.1.cell 0
          have z0 := HD.out.2.1.free 0
          have p1 := HD.out.2.1.cell 1
          have z1 := HD.out.2.1.free 1
          have p2 := HD.out.2.1.cell 2
          have z2 := HD.out.2.1.free 2
          have p3 := HD.out.2.1.cell 3
          have z3 := HD.out.2.1.free 3
          have p4 := HD.out.2.1.cell 4
          have z4 := HD.out.2.1.free 4
          simp only [List.getElem?_cons_zero, List.getElem?_cons_succ] at p0 p1 p2 p3 p4
          go_simp
          clear p0 z0 p1 z1 p2 z2 p3 z3 p4 z4
          have HD1 := hiD (HD.out.p4 (.slice q b.length cp) (.int .i64 ox6) (.int .i64 cx6) (.int .i64 ax6) (.int .i64 (lv6 : Nat)))
          refine hK'.out _ _ ⟨HD1.out.1, HD1.out.2.2.2.1⟩ (fun _ => ?_)
          clear hK' K' hHeld
          have hHeld := And.intro HD1.out.1 HD1.out.2.2.2.1
          try simp only [Act.put, pz0, pz1, pz2]
          refine wpAnyH_ready (rs := [3]) (by kernel_rfl) (by simp) ?_
          refine AllReadyH.cons (o := ⟨none, _, _, _, _, _⟩) rfl (fun K' hK' => ?_) AllReadyH.nil
          have g0 := HD1.out.2.2.1.cell 0
          have h0 := HD1.out.2.2.1.free 0
          have g1 := HD1.out.2.2.1.cell 1
          have h1 := HD1.out.2.2.1.free 1
          have g2 := HD1.out.2.2.1.cell 2
          have h2 := HD1.out.2.2.1.free 2
          have g3 := HD1.out.2.2.1.cell 3
          have h3 := HD1.out.2.2.1.free 3
          simp only [List.getElem?_cons_zero, List.getElem?_cons_succ] at g0 g1 g2 g3
          go_simp
          clear g0 h0 g1 h1 g2 h2 g3 h3
          have HD2 := hiD (HD1.out.p5 (.int .i64 4) (.string ⟨#[]⟩) (.string ⟨#[]⟩) (.slice q6 acc.length c6))
          refine hK'.out _ _ ⟨HD2.out.1, HD2.out.2.2.2.1⟩ (fun _ => ?_)
          clear hK' K' hHeld
          have hHeld := And.intro HD2.out.1 HD2.out.2.2.2.1
          try simp only [Act.put, pz0, pz1, pz2]
          refine wpAnyH_done (by kernel_rfl) ?_ _
          refine NoPanic.normal ?_
          have HWF := hiD ((HWD.out.box5 (g := W.heap.size + 1) (by omega) (.slice q b.length cp) (.int .i64 ox6) (.int .i64 cx6) (.int .i64 ax6) (.int .i64 (lv6 : Nat))).box4 (g := W.heap.size + 2) (by omega) (.int .i64 4) (.string ⟨#[]⟩) (.string ⟨#[]⟩) (.slice q6 acc.length c6))
          go_wp2_with fail
          refine bodyPost_ret (resPX rfl HD2.out.2.1 HD2.out.2.2.1 rfl rfl) rfl ?_
          rw [HEN.out]
          exact ⟨_, _, _, _, rfl, HP6.out, (VE.low (HWF.out.rdE 4 [] []) (by omega)), HD2.out.2.2.2.2⟩
    · have x0 := HR1.out.1.cell 0
      have y0 := HR1.out.1.free 0
      have x1 := HR1.out.1.cell 1
      have y1 := HR1.out.1.free 1
      have x2 := HR1.out.1.cell 2
      have y2 := HR1.out.1.free 2
      have x3 := HR1.out.1.cell 3
      have y3 := HR1.out.1.free 3
      have x4 := HR1.out.1.cell 4
      have y4 := HR1.out.1.free 4
      simp only [List.getElem?_cons_zero, List.getElem?_cons_succ] at x0 x1 x2 x3 x4
      have e0 := HR1.out.2.2.2.1.cell 0
      have f0 := HR1.out.2.2.2.1.free 0
      have e1 := HR1.out.2.2.2.1.cell 1
      have f1 := HR1.out.2.2.2.1.free 1
      have e2 := HR1.out.2.2.2.1.cell 2
      have f2 := HR1.out.2.2.2.1.free 2
      have e3 := HR1.out.2.2.2.1.cell 3
      have f3 := HR1.out.2.2.2.1.free 3
      simp only [List.getElem?_cons_zero, List.getElem?_cons_succ] at e0 e1 e2 e3
      go_upto_region 4 with (fail)
      have HR2 := hiD ((HR1.out.pl (.slice q b.length cp) (.int .i64 (o1 : Nat)) (.int .i64 0) (.int .i64 0) (.int .i64 (lv : Nat))).ce (i := 0) (.int .i64 5) (by decide))
      clear x0 y0 x1 y1 x2 y2 x3 y3 x4 y4
      clear e0 f0 e1 f1 e2 f2 e3 f3
      have HR3 : Hid (RB W [.slice q b.length cp, .int .i64 (o1 : Nat), .int .i64 0, .int .i64 0, .int .i64 (lv : Nat)] [.slice none 0 0, .int .i64 0, .int .i64 0, .int .i64 0, .int .i64 0] [.int .i64 0, .string ⟨#[]⟩, .string ⟨#[]⟩, .slice none 0 0] [.int .i64 5, .string ⟨#[]⟩, .string ⟨#[]⟩, .slice none 0 0] ((((((w1.setCell ⟨W.heap.size, 0, none⟩ (.slice q b.length cp)).setCell ⟨W.heap.size, 1, none⟩ (.int .i64 (o1 : Nat))).setCell ⟨W.heap.size, 2, none⟩ (.int .i64 0)).setCell ⟨W.heap.size, 3, none⟩ (.int .i64 0)).setCell ⟨W.heap.size, 4, none⟩ (.int .i64 (lv : Nat))).setCell ⟨W.heap.size + 3, 0, none⟩ (.int .i64 5))) := HR2.out
      clear HR1 HR2
      generalize ((((((w1.setCell ⟨W.heap.size, 0, none⟩ (.slice q b.length cp)).setCell ⟨W.heap.size, 1, none⟩ (.int .i64 (o1 : Nat))).setCell ⟨W.heap.size, 2, none⟩ (.int .i64 0)).setCell ⟨W.heap.size, 3, none⟩ (.int .i64 0)).setCell ⟨W.heap.size, 4, none⟩ (.int .i64 (lv : Nat))).setCell ⟨W.heap.size + 3, 0, none⟩ (.int .i64 5)) = w3 at HR3 ⊢
      clear HK5 HKG
      have x0 := HR3.out.1.cell 0
      have y0 := HR3.out.1.free 0
      have x1 := HR3.out.1.cell 1
      have y1 := HR3.out.1.free 1
      have x2 := HR3.out.1.cell 2
      have y2 := HR3.out.1.free 2
      have x3 := HR3.out.1.cell 3
      have y3 := HR3.out.1.free 3
      have x4 := HR3.out.1.cell 4
      have y4 := HR3.out.1.free 4
      simp only [List.getElem?_cons_zero, List.getElem?_cons_succ] at x0 x1 x2 x3 x4
      have e0 := HR3.out.2.2.2.1.cell 0
      have f0 := HR3.out.2.2.2.1.free 0
      have e1 := HR3.out.2.2.2.1.cell 1
      have f1 := HR3.out.2.2.2.1.free 1
      have e2 := HR3.out.2.2.2.1.cell 2
      have f2 := HR3.out.2.2.2.1.free 2
      have e3 := HR3.out.2.2.2.1.cell 3
      have f3 := HR3.out.2.2.2.1.free 3
      simp only [List.getElem?_cons_zero, List.getElem?_cons_succ] at e0 e1 e2 e3
      go_upto_region 19 with (fail)
      clear x0 y0 x1 y1 x2 y2 x3 y3 x4 y4
      clear e0 f0 e1 f1 e2 f2 e3 f3
      obtain ⟨n, hn⟩ : ∃ n : Nat, n = 2 := ⟨_, rfl⟩
      have HNN : Hid (n ≤ 32) := by show _ ≤ _; omega
      have HNQ : (2 : Int) = (n : Int) := by omega
      obtain ⟨s5, hs5⟩ : ∃ x, x = St.go o1 := ⟨_, rfl⟩
      have HE1 : Hid (refC b (d + 1) o lv = (.mk 5 [] [] (loopE (refC b d) (n - 0) [] s5 lv).1, (loopE (refC b d) (n - 0) [] s5 lv).2)) := by
        show _ = _
        rw [HE0.out.trans (topE_go.trans ((if_neg (by omega)).trans (if_neg (by omega)))), hn, hs5]; rfl
      have HP5 : Hid (PI b s5 (o1 : Nat) 0 0) := by rw [hs5]; exact PI.of_go HOL1.out
      clear hs5 HE0
      rw [show (Value.int .i64 2) = Value.int .i64 (n : Int) by rw [HNQ]]
      clear hn HNQ
      obtain ⟨ox5, hox5⟩ : ∃ x : Int, x = (o1 : Nat) := ⟨_, rfl⟩
      obtain ⟨cx5, hcx5⟩ : ∃ x : Int, x = 0 := ⟨_, rfl⟩
      obtain ⟨ax5, hax5⟩ : ∃ x : Int, x = 0 := ⟨_, rfl⟩
      have HR5 : Hid (RB W [.slice q b.length cp, .int .i64 ox5, .int .i64 cx5, .int .i64 ax5, .int .i64 (lv : Nat)] [.slice none 0 0, .int .i64 0, .int .i64 0, .int .i64 0, .int .i64 0] [.int .i64 0, .string ⟨#[]⟩, .string ⟨#[]⟩, .slice none 0 0] [.int .i64 5, .string ⟨#[]⟩, .string ⟨#[]⟩, .slice none 0 0] w3) := by rw [hox5, hcx5, hax5]; exact HR3.out
      have HP5 : Hid (PI b s5 ox5 cx5 ax5) := by rw [hox5, hcx5, hax5]; exact HP5.out
      clear hox5 hcx5 hax5 HR3
      obtain ⟨wz5, hwz⟩ : ∃ x, x = w3 := ⟨_, rfl⟩
      rw [← hwz] at HR5 ⊢
      clear hwz
      go_wp2_with fail
      go_loopw [9] (fun iv wr => ∃ (i : Nat) (acc : List Ex) (s6 : St) (ox6 cx6 ax6 : Int) (lv6 : Nat) (q6 : Option Addr) (c6 : Nat), i ≤ n ∧ iv = .int .i64 (i : Nat) ∧ Hid (acc.length = i) ∧ Hid (PRow kdEx (W.heap.size + 4) (fun _ => False) wr (.slice q6 acc.length c6) acc) ∧ Hid (RB W [.slice q b.length cp, .int .i64 ox6, .int .i64 cx6, .int .i64 ax6, .int .i64 (lv6 : Nat)] [.slice none 0 0, .int .i64 0, .int .i64 0, .int .i64 0, .int .i64 0] [.int .i64 0, .string ⟨#[]⟩, .string ⟨#[]⟩, .slice none 0 0] [.int .i64 5, .string ⟨#[]⟩, .string ⟨#[]⟩, .slice q6 acc.length c6] wr) ∧ Hid (PI b s6 ox6 cx6 ax6) ∧ Hid (lv6 ≤ 32) ∧ Hid (refC b (d + 1) o lv = (.mk 5 [] [] (loopE (refC b d) (n - i) acc s6 lv6).1, (loopE (refC b d) (n - i) acc s6 lv6).2))) (fun iv _ => n - (intOf iv).toNat)
      case atStart => exact ⟨0, [], s5, ox5, cx5, ax5, lv, none, 0, Nat.zero_le _, rfl, rfl, PRow.nil _ _ _ _, HR5, HP5, HLV, HE1⟩
      case round =>
        obtain ⟨i, acc, s6, ox6, cx6, ax6, lv6, q6, c6, hi, rfl, HLEN, HRW6, HR6, HP6, HL6, HE6⟩ := hrel
        by_cases hlt : i < n
        · cases s6 with
          | er c a =>
            have hlt' : (i : Int) < n := by omega
            have hcx := HP6.out.er
            have hc2 : (cx6 == 0) = false := by simpa using hcx
            have HEN : Hid (refC b (d + 1) o lv = (.mk 5 [] [] acc, .er c a, lv6)) := by
              show _ = _
              rw [HE6.out, loopE_er]
            clear HE6 IH hlt
            have x0 := HR6.out.1.cell 0
            have y0 := HR6.out.1.free 0
            have x1 := HR6.out.1.cell 1
            have y1 := HR6.out.1.free 1
            have x2 := HR6.out.1.cell 2
            have y2 := HR6.out.1.free 2
            have x3 := HR6.out.1.cell 3
            have y3 := HR6.out.1.free 3
            have x4 := HR6.out.1.cell 4
            have y4 := HR6.out.1.free 4
            simp only [List.getElem?_cons_zero, List.getElem?_cons_succ] at x0 x1 x2 x3 x4
            go_upto_region 25 with (fail)
            clear x0 y0 x1 y1 x2 y2 x3 y3 x4 y4
            refine wp_region_noPanic ?_
            refine wp_region_held_drew (S := fun W' => Arr W' 59 W.heap.size [.slice q b.length cp, .int .i64 ox6, .int .i64 cx6, .int .i64 ax6, .int .i64 (lv6 : Nat)] ∧ Arr W' 42 (W.heap.size + 3) [.int .i64 5, .string ⟨#[]⟩, .string ⟨#[]⟩, .slice q6 acc.length c6]) (by kernel_rfl) ⟨HR6.out.drew.1, HR6.out.drew.2.2.2.1⟩ (fun hHeld => ?_)
            try simp only [Act.put]
            have HD := hiD HR6.out.drew
            have HWD := hiD (HRW6.out.later (Below.refl _ _).drew)
            generalize wr.drew = wd at HD hHeld HWD ⊢
            refine wpAnyH_take (i := 0) (oi := ⟨some 107, _, _, _, _, _⟩) (v := .agg #[.slice q b.length cp, .int .i64 ox6, .int .i64 cx6, .int .i64 ax6, .int .i64 (lv6 : Nat)]) rfl (by kernel_rfl) (by kernel_rfl) (by kernel_rfl) (fun _ _ _ h => h) (.inl ⟨by rfl, fun w' hSw => ?_⟩) hHeld ?_
            focus (have a0 := hSw.1.cell 0; have a1 := hSw.1.cell 1; have a2 := hSw.1.cell 2; have a3 := hSw.1.cell 3; have a4 := hSw.1.cell 4; simp only [List.getElem?_cons_zero, List.getElem?_cons_succ] at a0 a1 a2 a3 a4; clear hHeld; go_simp)
            try simp only [Act.put, pz0, pz1, pz2]
            refine wpAnyH_take (i := 1) (oi := ⟨some 108, _, _, _, _, _⟩) (v := .agg #[.int .i64 5, .string ⟨#[]⟩, .string ⟨#[]⟩, .slice q6 acc.length c6]) rfl (by kernel_rfl) (by kernel_rfl) (by kernel_rfl) (fun _ _ _ h => h) (.inl ⟨by rfl, fun w' hSw => ?_⟩) hHeld ?_
            focus (have a0 := hSw.2.cell 0; have a1 := hSw.2.cell 1; have a2 := hSw.2.cell 2; have a3 := hSw.2.cell 3; simp only [List.getElem?_cons_zero, List.getElem?_cons_succ] at a0 a1 a2 a3; clear hHeld; go_simp)
            try simp only [Act.put, pz0, pz1, pz2]
            refine wpAnyH_ready (rs := [2]) (by kernel_rfl) (by simp) ?_
            refine AllReadyH.cons (o := ⟨none, _, _, _, _, _⟩) rfl (fun K' hK' => ?_) AllReadyH.nil
            have p0 := HD.out.2.1.cell 0
            have z0 := HD.out.2.1.free 0
            have p1 := HD.out.2.1.cell 1
            have z1 := HD.out.2.1.free 1
            have p2 := HD.out.2.1.cell 2
            have z2 := HD.out.2.1.free 2
            have p3 := HD.out.2.1.cell 3
            have z3 := HD.out.2.1.free 3
            have p4 := HD.out.2.1.cell 4
            have z4 := HD.out.2.1.free 4
            simp only [List.getElem?_cons_zero, List.getElem?_cons_succ] at p0 p1 p2 p3 p4
            go_simp
            clear p0 z0 p1 z1 p2 z2 p3 z3 p4 z4
            have HD1 := hiD (HD.out.p4 (.slice q b.length cp) (.int .i64 ox6) (.int .i64 cx6) (.int .i64 ax6) (.int .i64 (lv6 : Nat)))
            refine hK'.out _ _ ⟨HD1.out.1, HD1.out.2.2.2.1⟩ (fun _ => ?_)
            clear hK' K' hHeld
            have hHeld := And.intro HD1.out.1 HD1.out.2.2.2.1
            try simp only [Act.put, pz0, pz1, pz2]
            refine wpAnyH_ready (rs := [3]) (by kernel_rfl) (by simp) ?_
            refine AllReadyH.cons (o := ⟨none, _, _, _, _, _⟩) rfl (fun K' hK' => ?_) AllReadyH.nil
            have g0 := HD1.out.2.2.1.cell 0
            have h0 := HD1.out.2.2.1.free 0
            have g1 := HD1.out.2.2.1.cell 1
            have h1 := HD1.out.2.2.1.free 1
            have g2 := HD1.out.2.2.1.cell 2
            have h2 := HD1.out.2.2.1.free 2
            have g3 := HD1.out.2.2.1.cell 3
            have h3 := HD1.out.2.2.1.free 3
            simp only [List.getElem?_cons_zero, List.getElem?_cons_succ] at g0 g1 g2 g3
            go_simp
            clear g0 h0 g1 h1 g2 h2 g3 h3
            have HD2 := hiD (HD1.out.p5 (.int .i64 5) (.string ⟨#[]⟩) (.string ⟨#[]⟩) (.slice q6 acc.length c6))
            refine hK'.out _ _ ⟨HD2.out.1, HD2.out.2.2.2.1⟩ (fun _ => ?_)
            clear hK' K' hHeld
            have hHeld := And.intro HD2.out.1 HD2.out.2.2.2.1
            try simp only [Act.put, pz0, pz1, pz2]
            refine wpAnyH_done (by kernel_rfl) ?_ _
            refine NoPanic.normal ?_
            have HWF := hiD ((HWD.out.box5 (g := W.heap.size + 1) (by omega) (.slice q b.length cp) (.int .i64 ox6) (.int .i64 cx6) (.int .i64 ax6) (.int .i64 (lv6 : Nat))).box4 (g := W.heap.size + 2) (by omega) (.int .i64 5) (.string ⟨#[]⟩) (.string ⟨#[]⟩) (.slice q6 acc.length c6))
            go_wp2_with fail
            refine bodyPost_ret (resPX rfl HD2.out.2.1 HD2.out.2.2.1 rfl rfl) rfl ?_
            rw [HEN.out]
            exact ⟨_, _, _, _, rfl, HP6.out, (VE.low (HWF.out.rdE 5 [] []) (by omega)), HD2.out.2.2.2.2⟩
          | go o2 =>
            obtain ⟨rfl, rfl, rfl, hol2⟩ := HP6.out.go
            have HOL2 := hiD hol2
            have hlt' : (i : Int) < n := by omega
            have hw : wrap64 ((i : Int) + 1) = (i : Int) + 1 := by unfold wrap64; have := HNN.out; omega
            have HLT : Hid (i < n) := hlt
            obtain ⟨x, hx⟩ : ∃ x, x = (refC b d o2 lv6).1 := ⟨_, rfl⟩
            obtain ⟨s8, hs8⟩ : ∃ x, x = (refC b d o2 lv6).2.1 := ⟨_, rfl⟩
            obtain ⟨lv8, hl8⟩ : ∃ x, x = (refC b d o2 lv6).2.2 := ⟨_, rfl⟩
            have HL8 : Hid (lv8 ≤ 32) := by show _ ≤ _; rw [hl8]; exact (ref_as b d o2 lv6 HL6.out).2
            obtain ⟨mk, mv, mn, ms⟩ := x
            have HE7 : Hid (refC b (d + 1) o lv = (.mk 5 [] [] (loopE (refC b d) (n - (i + 1)) (acc ++ [.mk mk mv mn ms]) s8 lv8).1, (loopE (refC b d) (n - (i + 1)) (acc ++ [.mk mk mv mn ms]) s8 lv8).2)) := by
              show _ = _
              rw [HE6.out, show n - i = (n - (i + 1)) + 1 by omega, loopE, ← hx, ← hs8, ← hl8]
            have HCT : Hid (∀ w7, Rd w7.heap.size w7 (.slice q b.length cp) b → Calls Tryz.prog 27 #[.agg #[.slice q b.length cp, .int .i64 (o2 : Nat), .int .i64 0, .int .i64 0, .int .i64 (lv6 : Nat)], .int .i64 ((D : Int) + 1)] w7 fun e w' => ∃ ox8 cx8 ax8 v, e = .returned (.tuple #[.agg #[.slice q b.length cp, .int .i64 ox8, .int .i64 cx8, .int .i64 ax8, .int .i64 (lv8 : Nat)], v]) ∧ PI b s8 ox8 cx8 ax8 ∧ VE w7.heap.size (.mk mk mv mn ms) w' v ∧ Below w7.heap.size w7 w') := fun w7 hw7 => by
              have h := IH.out w7 o2 lv6 hw7 HBL.out HOL2.out HL6.out
              unfold QPost at h
              rw [← hx, ← hs8, ← hl8] at h
              exact h
            have HAC : Hid (acc.length + 1 ≤ 200000) := by show _ ≤ _; have := HNN.out; have := HLEN.out; omega
            clear HE6 hx hs8 hl8 hlt IH hol2 HP6
            generalize hwr : wr = w6 at HRW6 HR6 ⊢
            clear hwr
            have x0 := HR6.out.1.cell 0
            have y0 := HR6.out.1.free 0
            have x1 := HR6.out.1.cell 1
            have y1 := HR6.out.1.free 1
            have x2 := HR6.out.1.cell 2
            have y2 := HR6.out.1.free 2
            have x3 := HR6.out.1.cell 3
            have y3 := HR6.out.1.free 3
            have x4 := HR6.out.1.cell 4
            have y4 := HR6.out.1.free 4
            simp only [List.getElem?_cons_zero, List.getElem?_cons_succ] at x0 x1 x2 x3 x4
            go_upto_region 23 with (fail)
            clear x0 y0 x1 y1 x2 y2 x3 y3 x4 y4
            have hb7 : Below w6.heap.size w6 (w6.alloc (.cells #[.int .i64 0, .string ⟨#[]⟩, .string ⟨#[]⟩, .slice none 0 0] 42)) := (Below.refl _ _).alloc (Nat.le_refl _) _
            have HR7 := hiD (HR6.out.later hb7)
            have HT7 : Hid (Arr (w6.alloc (.cells #[.int .i64 0, .string ⟨#[]⟩, .string ⟨#[]⟩, .slice none 0 0] 42)) 42 w6.heap.size [.int .i64 0, .string ⟨#[]⟩, .string ⟨#[]⟩, .slice none 0 0]) := Arr.new' _ _ _ _ rfl
            have HK7 : Hid (Kp W.heap.size w6 (w6.alloc (.cells #[.int .i64 0, .string ⟨#[]⟩, .string ⟨#[]⟩, .slice none 0 0] 42))) := Kp.of hb7
            have HBLK : Hid (∀ b, (Value.slice q6 acc.length c6).ownBlock = some b → b < w6.heap.size) := fun b hb => by obtain ⟨_, h, _⟩ := HRW6.out; exact (h.lt b hb).2
            obtain ⟨g, hg⟩ : ∃ g, g = w6.heap.size := ⟨_, rfl⟩
            have HG6 : Hid (W.heap.size + 4 ≤ g ∧ w6.heap.size ≤ g) := ⟨by have := HR6.out.2.2.2.1.lt; omega, Nat.le_of_eq hg.symm⟩
            rw [← hg] at HT7 ⊢
            clear hb7 hg HR6
            generalize w6.alloc (.cells #[.int .i64 0, .string ⟨#[]⟩, .string ⟨#[]⟩, .slice none 0 0] 42) = w7 at HR7 HT7 HK7 ⊢
            have HC7 := hiD (HCT.out w7 ((HRD.out.below HR7.out.2.2.2.2 (Nat.le_refl _)).mono HR7.out.2.2.2.2.size))
            have HTL : Hid (g < w7.heap.size) := HT7.out.lt
            have x0 := HR7.out.1.cell 0
            have y0 := HR7.out.1.free 0
            have x1 := HR7.out.1.cell 1
            have y1 := HR7.out.1.free 1
            have x2 := HR7.out.1.cell 2
            have y2 := HR7.out.1.free 2
            have x3 := HR7.out.1.cell 3
            have y3 := HR7.out.1.free 3
            have x4 := HR7.out.1.cell 4
            have y4 := HR7.out.1.free 4
            simp only [List.getElem?_cons_zero, List.getElem?_cons_succ] at x0 x1 x2 x3 x4
            go_wp2_with fail
            refine HC7.out.mono ?_
            rintro e w8 ⟨ox8, cx8, ax8, v, rfl, hp8, hv8, b8⟩
            have r8' : VE w7.heap.size (.mk mk mv mn ms) w8 v := hv8
            obtain ⟨q8, c8, rfl, _, _⟩ := RdE.form hv8
            unfold exv at r8' ⊢
            dsimp only [Ex.kind, Ex.via, Ex.nm, Ex.kids] at r8' ⊢
            have HV8 : Hid (VE w7.heap.size (.mk mk mv mn ms) w8 (.agg #[.int .i64 mk, .string (bstr mv), .string (bstr mn), .slice q8 ms.length c8])) := r8'
            have HP8 := hiD hp8
            have HR8 := hiD (HR7.out.later b8)
            have HT8 := hiD (HT7.out.later b8)
            have HK8 := hiD (HK7.out.trans (Kp.of b8))
            clear r8' hv8 hp8 b8 HC7 HCT HR7 HT7 HK7
            have hgw : ¬ g = W.heap.size := by have := HG6.out.1; omega
            have hgw' : ¬ W.heap.size = g := by have := HG6.out.1; omega
            clear x0 y0 x1 y1 x2 y2 x3 y3 x4 y4
            have x0 := HR8.out.1.cell 0
            have y0 := HR8.out.1.free 0
            have x1 := HR8.out.1.cell 1
            have y1 := HR8.out.1.free 1
            have x2 := HR8.out.1.cell 2
            have y2 := HR8.out.1.free 2
            have x3 := HR8.out.1.cell 3
            have y3 := HR8.out.1.free 3
            have x4 := HR8.out.1.cell 4
            have y4 := HR8.out.1.free 4
            simp only [List.getElem?_cons_zero, List.getElem?_cons_succ] at x0 x1 x2 x3 x4
            obtain ⟨e0, f0, e1, f1, e2, f2, e3, f3⟩ := HT8.out.all4
            go_upto_region 24 with (fail)
            clear hgw hgw'
            clear x0 y0 x1 y1 x2 y2 x3 y3 x4 y4
            clear e0 f0 e1 f1 e2 f2 e3 f3
            have HR9 := hiD ((HR8.out.pl (.slice q b.length cp) (.int .i64 ox8) (.int .i64 cx8) (.int .i64 ax8) (.int .i64 (lv8 : Nat))).far4 HG6.out.1 (.int .i64 mk) (.string (bstr mv)) (.string (bstr mn)) (.slice q8 ms.length c8))
            have HT9 : Hid (Arr (((((((((w8.setCell ⟨W.heap.size, 0, none⟩ (.slice q b.length cp)).setCell ⟨W.heap.size, 1, none⟩ (.int .i64 ox8)).setCell ⟨W.heap.size, 2, none⟩ (.int .i64 cx8)).setCell ⟨W.heap.size, 3, none⟩ (.int .i64 ax8)).setCell ⟨W.heap.size, 4, none⟩ (.int .i64 (lv8 : Nat))).setCell ⟨g, 0, none⟩ (.int .i64 mk)).setCell ⟨g, 1, none⟩ (.string (bstr mv))).setCell ⟨g, 2, none⟩ (.string (bstr mn))).setCell ⟨g, 3, none⟩ (.slice q8 ms.length c8)) 42 g [.int .i64 mk, .string (bstr mv), .string (bstr mn), .slice q8 ms.length c8]) := Arr.set4x (((((HT8.out.setCell (by have := HG6.out.1; simp only [ne_eq]; omega) _).setCell (by have := HG6.out.1; simp only [ne_eq]; omega) _).setCell (by have := HG6.out.1; simp only [ne_eq]; omega) _).setCell (by have := HG6.out.1; simp only [ne_eq]; omega) _).setCell (by have := HG6.out.1; simp only [ne_eq]; omega) _) _ _ _ _
            have hk1 := kp_setP w8 W.heap.size (.slice q b.length cp) (.int .i64 ox8) (.int .i64 cx8) (.int .i64 ax8) (.int .i64 (lv8 : Nat))
            have hk2 := kp_set4 (((((w8.setCell ⟨W.heap.size, 0, none⟩ (.slice q b.length cp)).setCell ⟨W.heap.size, 1, none⟩ (.int .i64 ox8)).setCell ⟨W.heap.size, 2, none⟩ (.int .i64 cx8)).setCell ⟨W.heap.size, 3, none⟩ (.int .i64 ax8)).setCell ⟨W.heap.size, 4, none⟩ (.int .i64 (lv8 : Nat))) g (.int .i64 mk) (.string (bstr mv)) (.string (bstr mn)) (.slice q8 ms.length c8)
            have HK9 := hiD ((HK8.out.trans hk1).andThen hk2 HG6.out.2)
            have HV9 := hiD ((HV8.out.kp hk1 (by have := HG6.out.1; have := HTL.out; omega)).kp hk2 HTL.out)
            have HRW9 := hiD (HRW6.out.turn HK9.out.2.2.2.1 (fun b h1 h2 _ => HK9.out.2.2.2.2 b h2 (by omega)))
            have HSZ : Hid (w6.heap.size ≤ w7.heap.size) := by show _ ≤ _; have := HG6.out.2; have := HTL.out; omega
            clear hk1 hk2 HR8 HT8 HK8 HV8 HRW6 HK9
            generalize (((((((((w8.setCell ⟨W.heap.size, 0, none⟩ (.slice q b.length cp)).setCell ⟨W.heap.size, 1, none⟩ (.int .i64 ox8)).setCell ⟨W.heap.size, 2, none⟩ (.int .i64 cx8)).setCell ⟨W.heap.size, 3, none⟩ (.int .i64 ax8)).setCell ⟨W.heap.size, 4, none⟩ (.int .i64 (lv8 : Nat))).setCell ⟨g, 0, none⟩ (.int .i64 mk)).setCell ⟨g, 1, none⟩ (.string (bstr mv))).setCell ⟨g, 2, none⟩ (.string (bstr mn))).setCell ⟨g, 3, none⟩ (.slice q8 ms.length c8)) = w9 at HR9 HT9 HV9 HRW9 ⊢
            have hba : Below w9.heap.size w9 (w9.alloc (.cells #[.int .i64 mk, .string (bstr mv), .string (bstr mn), .slice q8 ms.length c8] 42)) := (Below.refl _ _).alloc (Nat.le_refl _) _
            have HRWa := hiD (HRW9.out.later hba)
            have HRa := hiD (HR9.out.later hba)
            have HEa : Hid (Arr (w9.alloc (.cells #[.int .i64 mk, .string (bstr mv), .string (bstr mn), .slice q8 ms.length c8] 42)) 42 w9.heap.size [.int .i64 mk, .string (bstr mv), .string (bstr mn), .slice q8 ms.length c8]) := Arr.new' _ _ _ _ rfl
            have HV9' : rdEx (Bt w7.heap.size w9.heap.size) w9 (.mk mk mv mn ms) [.int .i64 mk, .string (bstr mv), .string (bstr mn), .slice q8 ms.length c8] := ⟨_, _, _, _, rfl, HV9.out⟩
            have HXa : Hid (kdEx.rd (SubX (W.heap.size + 4) (fun _ => False) (w9.alloc (.cells #[.int .i64 mk, .string (bstr mv), .string (bstr mn), .slice q8 ms.length c8] 42)) (.slice q6 acc.length c6)) (w9.alloc (.cells #[.int .i64 mk, .string (bstr mv), .string (bstr mn), .slice q8 ms.length c8] 42)) (.mk mk mv mn ms) [.int .i64 mk, .string (bstr mv), .string (bstr mn), .slice q8 ms.length c8]) := kdEx.imp (fun b hb => ⟨by have := HG6.out.1; have := HTL.out; have := hb.1; omega, Nat.lt_of_lt_of_le hb.2 hba.size, fun e => by have h1 := HBLK.out b e.symm; have := hb.1; have := HSZ.out; omega, fun h => h⟩) (kdEx.keep (fun b hb n => hba.cell (p := ⟨b, n, none⟩) hb.2) HV9')
            have HBS : Hid (W.heap.size + 4 ≤ (w9.alloc (.cells #[.int .i64 mk, .string (bstr mv), .string (bstr mn), .slice q8 ms.length c8] 42)).heap.size) := by show _ ≤ _; have := HRa.out.2.2.2.1.lt; omega
            have e0 := HR9.out.2.2.2.1.cell 0
            have f0 := HR9.out.2.2.2.1.free 0
            have e1 := HR9.out.2.2.2.1.cell 1
            have f1 := HR9.out.2.2.2.1.free 1
            have e2 := HR9.out.2.2.2.1.cell 2
            have f2 := HR9.out.2.2.2.1.free 2
            have e3 := HR9.out.2.2.2.1.cell 3
            have f3 := HR9.out.2.2.2.1.free 3
            simp only [List.getElem?_cons_zero, List.getElem?_cons_succ] at e0 e1 e2 e3
            obtain ⟨t0, r0, t1, r1, t2, r2, t3, r3⟩ := HT9.out.all4
            go_wp2_with (at_builtin; refine app_row (K := kdEx) (x := .mk mk mv mn ms) rfl _ _ rfl rfl HRWa.out rfl HEa.out HXa.out HAC.out HBS.out (fun b h => h.elim) ?_)
            intro v10 w10 r10 g10 o10
            have HR10 := hiD (HRa.out.grown g10 (fun k hk => o10 k hk))
            have HRW10 := hiD r10
            obtain ⟨q10, c10, hv10⟩ := r10.form
            rw [List.length_append, List.length_singleton] at hv10
            subst hv10
            clear r10 g10 o10 hba HRWa HRa HEa HXa HV9' HBS HR9 HT9 HV9 HRW9 t0 t1 t2 t3 r0 r1 r2 r3
            clear e0 f0 e1 f1 e2 f2 e3 f3
            have e0 := HR10.out.2.2.2.1.cell 0
            have f0 := HR10.out.2.2.2.1.free 0
            have e1 := HR10.out.2.2.2.1.cell 1
            have f1 := HR10.out.2.2.2.1.free 1
            have e2 := HR10.out.2.2.2.1.cell 2
            have f2 := HR10.out.2.2.2.1.free 2
            have e3 := HR10.out.2.2.2.1.cell 3
            have f3 := HR10.out.2.2.2.1.free 3
            simp only [List.getElem?_cons_zero, List.getElem?_cons_succ] at e0 e1 e2 e3
            go_wp2_with fail
            have HR11 := hiD (HR10.out.ce (i := 3) (.slice q10 (acc.length + 1) c10) (by decide))
            have HRW11 := hiD (HRW10.out.box (g := W.heap.size + 3) (.inl (by omega)) 3 (.slice q10 (acc.length + 1) c10))
            go_roundw
            case rel => exact ⟨i + 1, acc ++ [Ex.mk mk mv mn ms], s8, ox8, cx8, ax8, lv8, q10, c10, HLT.out, by go_num, by rw [List.length_append, HLEN.out]; rfl, by rw [List.length_append]; exact HRW11.out, by rw [List.length_append]; exact HR11.out, HP8, HL8, HE7⟩
            case measure => first | exact meas HLT.out (Nat.le_trans HNN.out (by decide)) | exact meas' HLT.out
        · have hlt' : ¬ (i : Int) < n := by omega
          have HEN : Hid (refC b (d + 1) o lv = (.mk 5 [] [] acc, s6, lv6)) := by
            show _ = _
            rw [HE6.out, show n - i = 0 by omega]; rfl
          clear HE6 IH hlt
          go_upto_region 25 with (fail)
          refine wp_region_noPanic ?_
          refine wp_region_held_drew (S := fun W' => Arr W' 59 W.heap.size [.slice q b.length cp, .int .i64 ox6, .int .i64 cx6, .int .i64 ax6, .int .i64 (lv6 : Nat)] ∧ Arr W' 42 (W.heap.size + 3) [.int .i64 5, .string ⟨#[]⟩, .string ⟨#[]⟩, .slice q6 acc.length c6]) (by kernel_rfl) ⟨HR6.out.drew.1, HR6.out.drew.2.2.2.1⟩ (fun hHeld => ?_)
          try simp only [Act.put]
          have HD := hiD HR6.out.drew
          have HWD := hiD (HRW6.out.later (Below.refl _ _).drew)
          generalize wr.drew = wd at HD hHeld HWD ⊢
          refine wpAnyH_take (i := 0) (oi := ⟨some 107, _, _, _, _, _⟩) (v := .agg #[.slice q b.length cp, .int .i64 ox6, .int .i64 cx6, .int .i64 ax6, .int .i64 (lv6 : Nat)]) rfl (by kernel_rfl) (by kernel_rfl) (by kernel_rfl) (fun _ _ _ h => h) (.inl ⟨by rfl, fun w' hSw => ?_⟩) hHeld ?_
          focus (have a0 := hSw.1.cell 0; have a1 := hSw.1.cell 1; have a2 := hSw.1.cell 2; have a3 := hSw.1.cell 3; have a4 := hSw.1.cell 4; simp only [List.getElem?_cons_zero, List.getElem?_cons_succ] at a0 a1 a2 a3 a4; clear hHeld; go_simp)
          try simp only [Act.put, pz0, pz1, pz2]
          refine wpAnyH_take (i := 1) (oi := ⟨some 108, _, _, _, _, _⟩) (v := .agg #[.int .i64 5, .string ⟨#[]⟩, .string ⟨#[]⟩, .slice q6 acc.length c6]) rfl (by kernel_rfl) (by kernel_rfl) (by kernel_rfl) (fun _ _ _ h => h) (.inl ⟨by rfl, fun w' hSw => ?_⟩) hHeld ?_
          focus (have a0 := hSw.2.cell 0; have a1 := hSw.2.cell 1; have a2 := hSw.2.cell 2; have a3 := hSw.2.cell 3; simp only [List.getElem?_cons_zero, List.getElem?_cons_succ] at a0 a1 a2 a3; clear hHeld; go_simp)
          try simp only [Act.put, pz0, pz1, pz2]
          refine wpAnyH_ready (rs := [2]) (by kernel_rfl) (by simp) ?_
          refine AllReadyH.cons (o := ⟨none, _, _, _, _, _⟩) rfl (fun K' hK' => ?_) AllReadyH.nil
          have p0 := HD.out.2.1.cell 0
          have z0 := HD.out.2.1.free 0
          have p1 := HD.out.2.1.cell 1
          have z1 := HD.out.2.1.free 1
          have p2 := HD.out.2.1.cell 2
          have z2 := HD.out.2.1.free 2
          have p3 := HD.out.2.1.cell 3
          have z3 := HD.out.2.1.free 3
          have p4 := HD.out.2.1.cell 4
          have z4 := HD.out.2.1.free 4
          simp only [List.getElem?_cons_zero, List.getElem?_cons_succ] at p0 p1 p2 p3 p4
          go_simp
          clear p0 z0 p1 z1 p2 z2 p3 z3 p4 z4
          have HD1 := hiD (HD.out.p4 (.slice q b.length cp) (.int .i64 ox6) (.int .i64 cx6) (.int .i64 ax6) (.int .i64 (lv6 : Nat)))
          refine hK'.out _ _ ⟨HD1.out.1, HD1.out.2.2.2.1⟩ (fun _ => ?_)
          clear hK' K' hHeld
          have hHeld := And.intro HD1.out.1 HD1.out.2.2.2.1
          try simp only [Act.put, pz0, pz1, pz2]
          refine wpAnyH_ready (rs := [3]) (by kernel_rfl) (by simp) ?_
          refine AllReadyH.cons (o := ⟨none, _, _, _, _, _⟩) rfl (fun K' hK' => ?_) AllReadyH.nil
          have g0 := HD1.out.2.2.1.cell 0
          have h0 := HD1.out.2.2.1.free 0
          have g1 := HD1.out.2.2.1.cell 1
          have h1 := HD1.out.2.2.1.free 1
          have g2 := HD1.out.2.2.1.cell 2
          have h2 := HD1.out.2.2.1.free 2
          have g3 := HD1.out.2.2.1.cell 3
          have h3 := HD1.out.2.2.1.free 3
          simp only [List.getElem?_cons_zero, List.getElem?_cons_succ] at g0 g1 g2 g3
          go_simp
          clear g0 h0 g1 h1 g2 h2 g3 h3
          have HD2 := hiD (HD1.out.p5 (.int .i64 5) (.string ⟨#[]⟩) (.string ⟨#[]⟩) (.slice q6 acc.length c6))
          refine hK'.out _ _ ⟨HD2.out.1, HD2.out.2.2.2.1⟩ (fun _ => ?_)
          clear hK' K' hHeld
          have hHeld := And.intro HD2.out.1 HD2.out.2.2.2.1
          try simp only [Act.put, pz0, pz1, pz2]
          refine wpAnyH_done (by kernel_rfl) ?_ _
          refine NoPanic.normal ?_
          have HWF := hiD ((HWD.out.box5 (g := W.heap.size + 1) (by omega) (.slice q b.length cp) (.int .i64 ox6) (.int .i64 cx6) (.int .i64 ax6) (.int .i64 (lv6 : Nat))).box4 (g := W.heap.size + 2) (by omega) (.int .i64 5) (.string ⟨#[]⟩) (.string ⟨#[]⟩) (.slice q6 acc.length c6))
          go_wp2_with fail
          refine bodyPost_ret (resPX rfl HD2.out.2.1 HD2.out.2.2.1 rfl rfl) rfl ?_
          rw [HEN.out]
          exact ⟨_, _, _, _, rfl, HP6.out, (VE.low (HWF.out.rdE 5 [] []) (by omega)), HD2.out.2.2.2.2⟩
theorem rRead_any : ∀ (d : Nat), d ≤ 16 → ∀ (W : World) (o lv : Nat), Rd W.heap.size W (.slice q b.length cp) b → b.length ≤ 1000000 → o ≤ b.length → lv ≤ 32 → Calls Tryz.prog 27 #[.agg #[.slice q b.length cp, .int .i64 (o : Nat), .int .i64 0, .int .i64 0, .int .i64 (lv : Nat)], .int .i64 ((17 - d : Nat) : Int)] W (QPost W b q cp (refC b d o lv))
  | 0, _, W, o, lv, hr, hbl, ho, hl => rRead_zero rfl hr hbl ho hl
  | d + 1, hd, W, o, lv, hr, hbl, ho, hl => rRead_step rfl hd (fun W o lv hr hbl ho hl => by
    have := rRead_any d (by omega) W o lv hr hbl ho hl
    rw [show 17 - d = (17 - (d + 1)) + 1 by omega, Int.natCast_add] at this
    exact this) hr hbl ho hl
end
theorem resX3 {fn : Func} {p q r : Tmp} (h : fn.results = #[.cell p 42, .tmp q, .tmp r]) {tmps : Array Value} {w : World} {g : Nat} {u0 u1 u2 u3 : Value} (hE : Arr w 42 g [u0, u1, u2, u3]) (hp : tmps.getD p undef = .pointer (some ⟨g, 0, none⟩)) :
  (results fn tmps).run Tryz.prog w = .ok (.tuple #[.agg #[u0, u1, u2, u3], tmps.getD q undef, tmps.getD r undef]) w := by
 have hp' : tmps[p]?.getD undef = .pointer (some ⟨g, 0, none⟩) := by simpa using hp
 have r2 := run_loadVar_row (P := Tryz.prog) w g _ 42 #[u0, u1, u2, u3] (0, 0) _ hE Tryz.underlying42 rfl (by kernel_rfl)
 simp [results, h, hp', asAddr, r2]
theorem parseEx_ref (b : List UInt8) : parseEx b = (if (finC b (refC b 16 0 0).2.1).1 = 0 then (refC b 16 0 0).1 else ex0, finC b (refC b 16 0 0).2.1) := by
 have h := (ref_as b 16 0 0 (Nat.zero_le _)).1
 unfold parseEx
 rcases finC_ok (b := b) (refC b 16 0 0) with ⟨c, a, h1, h2⟩ | ⟨o, h1, h2⟩
 ·rw [h1] at h
  rw [← h, h2]
  have : c ≠ 0 := readE_ne 16 0 0 c a h.symm
  show _ = (if c = 0 then _ else _, _)
  rw [if_neg this]
 ·rw [h1] at h
  rw [← h, h2]
  show (if o < b.length then _ else _) = _
  by_cases hlt : o < b.length
  ·rw [if_pos hlt, if_pos hlt]; rfl
  ·rw [if_neg hlt, if_neg hlt]; rfl
section
variable {b : List UInt8} {s : St} {W : World} {q : Option Addr} {cp lv : Nat} {ox cx ax : Int}
theorem pFail16 {o a : Nat} : Calls Tryz.prog 53 #[.agg #[.slice q b.length cp, .int .i64 (o : Nat), .int .i64 0, .int .i64 0, .int .i64 (lv : Nat)], .int .i64 16, .int .i64 (a : Nat)] W fun e w' => e = .returned (.agg #[.slice q b.length cp, .int .i64 (o : Nat), .int .i64 16, .int .i64 (a : Nat), .int .i64 (lv : Nat)]) ∧ Below W.heap.size W w' := rFail_any (b := b) 16 a
set_option maxRecDepth 100000 in
set_option maxHeartbeats 4000000 in
theorem pFin (hp : PI b s ox cx ax) : Calls Tryz.prog 28 #[.agg #[.slice q b.length cp, .int .i64 ox, .int .i64 cx, .int .i64 ax, .int .i64 (lv : Nat)]] W fun e w' => e = .returned (.tuple #[.int .i64 ((finC b s).1 : Nat), .int .i64 ((finC b s).2 : Nat)]) ∧ Below W.heap.size W w' := by
 cases s with
 | er c a =>
  obtain ⟨o2, h1, rfl, rfl, rfl⟩ := hp
  have hc0 := h1.2.2 c a rfl
  show Calls _ _ #[.agg #[.slice q b.length cp, .int .i64 (o2 : Nat), .int .i64 (c : Nat), .int .i64 (a : Nat), .int .i64 (lv : Nat)]] _ (fun e w' => e = .returned (.tuple #[.int .i64 (c : Nat), .int .i64 (a : Nat)]) ∧ Below W.heap.size W w')
  have hcx : ¬ (c : Int) = 0 := by omega
  have hc2 : ((c : Int) == 0) = false := by rw [beq_eq_false_iff_ne]; exact hcx
  clear hc0 h1
  have HA : Hid (Arr (W.alloc (.cells #[.slice q b.length cp, .int .i64 (o2 : Nat), .int .i64 (c : Nat), .int .i64 (a : Nat), .int .i64 (lv : Nat)] 59)) 59 W.heap.size [.slice q b.length cp, .int .i64 (o2 : Nat), .int .i64 (c : Nat), .int .i64 (a : Nat), .int .i64 (lv : Nat)]) := Arr.new' _ _ _ _ rfl
  have HB : Hid (Below W.heap.size W (W.alloc (.cells #[.slice q b.length cp, .int .i64 (o2 : Nat), .int .i64 (c : Nat), .int .i64 (a : Nat), .int .i64 (lv : Nat)] 59))) := (Below.refl _ _).alloc (Nat.le_refl _) _
  go_enter Tryz.func28, Tryz.ntmps28
  go_upto_region 1 with (fail)
  generalize W.alloc (.cells #[.slice q b.length cp, .int .i64 (o2 : Nat), .int .i64 (c : Nat), .int .i64 (a : Nat), .int .i64 (lv : Nat)] 59) = w1 at HA HB ⊢
  obtain ⟨x0, y0, x1, y1, x2, y2, x3, y3, x4, y4⟩ := HA.out.all5
  go_upto_region 3 with (fail)
  clear x0 y0 x1 y1 x2 y2 x3 y3 x4 y4
  refine wp_region_noPanic ?_
  refine wp_region_held_drew (S := fun W' => Arr W' 59 W.heap.size [.slice q b.length cp, .int .i64 (o2 : Nat), .int .i64 (c : Nat), .int .i64 (a : Nat), .int .i64 (lv : Nat)]) (by kernel_rfl) HA.out.drew (fun hHeld => ?_)
  try simp only [Act.put]
  have HBD := hiD (HB.out.trans ((Below.refl _ _).drew.mono HB.out.size))
  generalize w1.drew = wd at hHeld HBD ⊢
  refine wpAnyH_take (i := 0) (oi := ⟨some 19, _, _, _, _, _⟩) (v := .pointer (some ⟨W.heap.size, 2, none⟩)) rfl (by kernel_rfl) (by kernel_rfl) (by kernel_rfl) (fun _ _ _ h => h) (.inl ⟨by rfl, fun w' hSw => ?_⟩) hHeld ?_
  focus (skip; clear hHeld; go_simp)
  try simp only [Act.put, pz0, pz1, pz2]
  refine wpAnyH_take (i := 1) (oi := ⟨some 20, _, _, _, _, _⟩) (v := .int .i64 (c : Nat)) rfl (by kernel_rfl) (by kernel_rfl) (by kernel_rfl) (fun _ _ _ h => h) (.inl ⟨by rfl, fun w' hSw => ?_⟩) hHeld ?_
  focus (have a0 := hSw.cell 0; have a1 := hSw.cell 1; have a2 := hSw.cell 2; have a3 := hSw.cell 3; have a4 := hSw.cell 4; simp only [List.getElem?_cons_zero, List.getElem?_cons_succ] at a0 a1 a2 a3 a4; clear hHeld; go_simp)
  try simp only [Act.put, pz0, pz1, pz2]
  refine wpAnyH_take (i := 2) (oi := ⟨some 21, _, _, _, _, _⟩) (v := .pointer (some ⟨W.heap.size, 3, none⟩)) rfl (by kernel_rfl) (by kernel_rfl) (by kernel_rfl) (fun _ _ _ h => h) (.inl ⟨by rfl, fun w' hSw => ?_⟩) hHeld ?_
  focus (skip; clear hHeld; go_simp)
  try simp only [Act.put, pz0, pz1, pz2]
  refine wpAnyH_take (i := 3) (oi := ⟨some 22, _, _, _, _, _⟩) (v := .int .i64 (a : Nat)) rfl (by kernel_rfl) (by kernel_rfl) (by kernel_rfl) (fun _ _ _ h => h) (.inl ⟨by rfl, fun w' hSw => ?_⟩) hHeld ?_
  focus (have a0 := hSw.cell 0; have a1 := hSw.cell 1; have a2 := hSw.cell 2; have a3 := hSw.cell 3; have a4 := hSw.cell 4; simp only [List.getElem?_cons_zero, List.getElem?_cons_succ] at a0 a1 a2 a3 a4; clear hHeld; go_simp)
  try simp only [Act.put, pz0, pz1, pz2]
  refine wpAnyH_take (i := 4) (oi := ⟨some 2, _, _, _, _, _⟩) (v := .int .i64 (c : Nat)) rfl (by kernel_rfl) (by kernel_rfl) (by kernel_rfl) (fun _ _ _ h => h) (.inl ⟨by rfl, fun w' hSw => ?_⟩) hHeld ?_
  focus (skip; clear hHeld; go_simp)
  try simp only [Act.put, pz0, pz1, pz2]
  refine wpAnyH_take (i := 5) (oi := ⟨some 3, _, _, _, _, _⟩) (v := .int .i64 (a : Nat)) rfl (by kernel_rfl) (by kernel_rfl) (by kernel_rfl) (fun _ _ _ h => h) (.inl ⟨by rfl, fun w' hSw => ?_⟩) hHeld ?_
  focus (skip; clear hHeld; go_simp)
  try simp only [Act.put, pz0, pz1, pz2]
  refine wpAnyH_done (by kernel_rfl) ?_ _
  refine NoPanic.normal ?_
  go_wp2_with fail
  go_ret2
  exact ⟨rfl, HBD.out⟩
 | go o =>
  obtain ⟨rfl, rfl, rfl, hol⟩ := hp.go
  clear hp
  by_cases hlt : o < b.length
  ·have e : finC b (.go o) = (16, o) := if_pos hlt
   have hlt' : (o : Int) < (b.length : Nat) := by omega
   rw [e]
   clear e hol hlt
   show Calls _ _ #[.agg #[.slice q b.length cp, .int .i64 (o : Nat), .int .i64 0, .int .i64 0, .int .i64 (lv : Nat)]] _ (fun e w' => e = .returned (.tuple #[.int .i64 16, .int .i64 (o : Nat)]) ∧ Below W.heap.size W w')
   have HA : Hid (Arr (W.alloc (.cells #[.slice q b.length cp, .int .i64 (o : Nat), .int .i64 0, .int .i64 0, .int .i64 (lv : Nat)] 59)) 59 W.heap.size [.slice q b.length cp, .int .i64 (o : Nat), .int .i64 0, .int .i64 0, .int .i64 (lv : Nat)]) := Arr.new' _ _ _ _ rfl
   have HB : Hid (Below W.heap.size W (W.alloc (.cells #[.slice q b.length cp, .int .i64 (o : Nat), .int .i64 0, .int .i64 0, .int .i64 (lv : Nat)] 59))) := (Below.refl _ _).alloc (Nat.le_refl _) _
   go_enter Tryz.func28, Tryz.ntmps28
   go_upto_region 1 with (fail)
   generalize W.alloc (.cells #[.slice q b.length cp, .int .i64 (o : Nat), .int .i64 0, .int .i64 0, .int .i64 (lv : Nat)] 59) = w1 at HA HB ⊢
   obtain ⟨x0, y0, x1, y1, x2, y2, x3, y3, x4, y4⟩ := HA.out.all5
   go_wp2_with fail
   refine (pFail16 (b := b)).mono ?_
   rintro e w2 ⟨rfl, b2⟩
   have HA2 := hiD (HA.out.later b2)
   have HB2 := hiD (HB.out.trans (b2.mono HB.out.size))
   clear b2 HA HB
   clear x0 y0 x1 y1 x2 y2 x3 y3 x4 y4
   obtain ⟨x0, y0, x1, y1, x2, y2, x3, y3, x4, y4⟩ := HA2.out.all5
   go_upto_region 3 with (fail)
   clear x0 y0 x1 y1 x2 y2 x3 y3 x4 y4
   have HA3 := hiD (HA2.out.setP (.slice q b.length cp) (.int .i64 (o : Nat)) (.int .i64 16) (.int .i64 (o : Nat)) (.int .i64 (lv : Nat)))
   have HB3 := hiD (below_set5 HB2.out (Nat.le_refl _) (.slice q b.length cp) (.int .i64 (o : Nat)) (.int .i64 16) (.int .i64 (o : Nat)) (.int .i64 (lv : Nat)))
   clear HA2 HB2
   generalize (((((w2.setCell ⟨W.heap.size, 0, none⟩ (.slice q b.length cp)).setCell ⟨W.heap.size, 1, none⟩ (.int .i64 (o : Nat))).setCell ⟨W.heap.size, 2, none⟩ (.int .i64 16)).setCell ⟨W.heap.size, 3, none⟩ (.int .i64 (o : Nat))).setCell ⟨W.heap.size, 4, none⟩ (.int .i64 (lv : Nat))) = w3 at HA3 HB3 ⊢
   refine wp_region_noPanic ?_
   refine wp_region_held_drew (S := fun W' => Arr W' 59 W.heap.size [.slice q b.length cp, .int .i64 (o : Nat), .int .i64 16, .int .i64 (o : Nat), .int .i64 (lv : Nat)]) (by kernel_rfl) HA3.out.drew (fun hHeld => ?_)
   try simp only [Act.put]
   have HBD := hiD (HB3.out.trans ((Below.refl _ _).drew.mono HB3.out.size))
   generalize w3.drew = wd at hHeld HBD ⊢
   refine wpAnyH_take (i := 0) (oi := ⟨some 19, _, _, _, _, _⟩) (v := .pointer (some ⟨W.heap.size, 2, none⟩)) rfl (by kernel_rfl) (by kernel_rfl) (by kernel_rfl) (fun _ _ _ h => h) (.inl ⟨by rfl, fun w' hSw => ?_⟩) hHeld ?_
   focus (skip; clear hHeld; go_simp)
   try simp only [Act.put, pz0, pz1, pz2]
   refine wpAnyH_take (i := 1) (oi := ⟨some 20, _, _, _, _, _⟩) (v := .int .i64 16) rfl (by kernel_rfl) (by kernel_rfl) (by kernel_rfl) (fun _ _ _ h => h) (.inl ⟨by rfl, fun w' hSw => ?_⟩) hHeld ?_
   focus (have a0 := hSw.cell 0; have a1 := hSw.cell 1; have a2 := hSw.cell 2; have a3 := hSw.cell 3; have a4 := hSw.cell 4; simp only [List.getElem?_cons_zero, List.getElem?_cons_succ] at a0 a1 a2 a3 a4; clear hHeld; go_simp)
   try simp only [Act.put, pz0, pz1, pz2]
   refine wpAnyH_take (i := 2) (oi := ⟨some 21, _, _, _, _, _⟩) (v := .pointer (some ⟨W.heap.size, 3, none⟩)) rfl (by kernel_rfl) (by kernel_rfl) (by kernel_rfl) (fun _ _ _ h => h) (.inl ⟨by rfl, fun w' hSw => ?_⟩) hHeld ?_
   focus (skip; clear hHeld; go_simp)
   try simp only [Act.put, pz0, pz1, pz2]
   refine wpAnyH_take (i := 3) (oi := ⟨some 22, _, _, _, _, _⟩) (v := .int .i64 (o : Nat)) rfl (by kernel_rfl) (by kernel_rfl) (by kernel_rfl) (fun _ _ _ h => h) (.inl ⟨by rfl, fun w' hSw => ?_⟩) hHeld ?_
   focus (have a0 := hSw.cell 0; have a1 := hSw.cell 1; have a2 := hSw.cell 2; have a3 := hSw.cell 3; have a4 := hSw.cell 4; simp only [List.getElem?_cons_zero, List.getElem?_cons_succ] at a0 a1 a2 a3 a4; clear hHeld; go_simp)
   try simp only [Act.put, pz0, pz1, pz2]
   refine wpAnyH_take (i := 4) (oi := ⟨some 2, _, _, _, _, _⟩) (v := .int .i64 16) rfl (by kernel_rfl) (by kernel_rfl) (by kernel_rfl) (fun _ _ _ h => h) (.inl ⟨by rfl, fun w' hSw => ?_⟩) hHeld ?_
   focus (skip; clear hHeld; go_simp)
   try simp only [Act.put, pz0, pz1, pz2]
   refine wpAnyH_take (i := 5) (oi := ⟨some 3, _, _, _, _, _⟩) (v := .int .i64 (o : Nat)) rfl (by kernel_rfl) (by kernel_rfl) (by kernel_rfl) (fun _ _ _ h => h) (.inl ⟨by rfl, fun w' hSw => ?_⟩) hHeld ?_
   focus (skip; clear hHeld; go_simp)
   try simp only [Act.put, pz0, pz1, pz2]
   refine wpAnyH_done (by kernel_rfl) ?_ _
   refine NoPanic.normal ?_
   go_wp2_with fail
   go_ret2
   exact ⟨rfl, HBD.out⟩
  ·have e : finC b (.go o) = (0, 0) := if_neg hlt
   have hlt' : ¬ (o : Int) < (b.length : Nat) := by omega
   rw [e]
   clear e hol hlt
   show Calls _ _ #[.agg #[.slice q b.length cp, .int .i64 (o : Nat), .int .i64 0, .int .i64 0, .int .i64 (lv : Nat)]] _ (fun e w' => e = .returned (.tuple #[.int .i64 0, .int .i64 0]) ∧ Below W.heap.size W w')
   have HA : Hid (Arr (W.alloc (.cells #[.slice q b.length cp, .int .i64 (o : Nat), .int .i64 0, .int .i64 0, .int .i64 (lv : Nat)] 59)) 59 W.heap.size [.slice q b.length cp, .int .i64 (o : Nat), .int .i64 0, .int .i64 0, .int .i64 (lv : Nat)]) := Arr.new' _ _ _ _ rfl
   have HB : Hid (Below W.heap.size W (W.alloc (.cells #[.slice q b.length cp, .int .i64 (o : Nat), .int .i64 0, .int .i64 0, .int .i64 (lv : Nat)] 59))) := (Below.refl _ _).alloc (Nat.le_refl _) _
   go_enter Tryz.func28, Tryz.ntmps28
   go_upto_region 1 with (fail)
   generalize W.alloc (.cells #[.slice q b.length cp, .int .i64 (o : Nat), .int .i64 0, .int .i64 0, .int .i64 (lv : Nat)] 59) = w1 at HA HB ⊢
   obtain ⟨x0, y0, x1, y1, x2, y2, x3, y3, x4, y4⟩ := HA.out.all5
   go_upto_region 3 with (fail)
   clear x0 y0 x1 y1 x2 y2 x3 y3 x4 y4
   refine wp_region_noPanic ?_
   refine wp_region_held_drew (S := fun W' => Arr W' 59 W.heap.size [.slice q b.length cp, .int .i64 (o : Nat), .int .i64 0, .int .i64 0, .int .i64 (lv : Nat)]) (by kernel_rfl) HA.out.drew (fun hHeld => ?_)
   try simp only [Act.put]
   have HBD := hiD (HB.out.trans ((Below.refl _ _).drew.mono HB.out.size))
   generalize w1.drew = wd at hHeld HBD ⊢
   refine wpAnyH_take (i := 0) (oi := ⟨some 19, _, _, _, _, _⟩) (v := .pointer (some ⟨W.heap.size, 2, none⟩)) rfl (by kernel_rfl) (by kernel_rfl) (by kernel_rfl) (fun _ _ _ h => h) (.inl ⟨by rfl, fun w' hSw => ?_⟩) hHeld ?_
   focus (skip; clear hHeld; go_simp)
   try simp only [Act.put, pz0, pz1, pz2]
   refine wpAnyH_take (i := 1) (oi := ⟨some 20, _, _, _, _, _⟩) (v := .int .i64 0) rfl (by kernel_rfl) (by kernel_rfl) (by kernel_rfl) (fun _ _ _ h => h) (.inl ⟨by rfl, fun w' hSw => ?_⟩) hHeld ?_
   focus (have a0 := hSw.cell 0; have a1 := hSw.cell 1; have a2 := hSw.cell 2; have a3 := hSw.cell 3; have a4 := hSw.cell 4; simp only [List.getElem?_cons_zero, List.getElem?_cons_succ] at a0 a1 a2 a3 a4; clear hHeld; go_simp)
   try simp only [Act.put, pz0, pz1, pz2]
   refine wpAnyH_take (i := 2) (oi := ⟨some 21, _, _, _, _, _⟩) (v := .pointer (some ⟨W.heap.size, 3, none⟩)) rfl (by kernel_rfl) (by kernel_rfl) (by kernel_rfl) (fun _ _ _ h => h) (.inl ⟨by rfl, fun w' hSw => ?_⟩) hHeld ?_
   focus (skip; clear hHeld; go_simp)
   try simp only [Act.put, pz0, pz1, pz2]
   refine wpAnyH_take (i := 3) (oi := ⟨some 22, _, _, _, _, _⟩) (v := .int .i64 0) rfl (by kernel_rfl) (by kernel_rfl) (by kernel_rfl) (fun _ _ _ h => h) (.inl ⟨by rfl, fun w' hSw => ?_⟩) hHeld ?_
   focus (have a0 := hSw.cell 0; have a1 := hSw.cell 1; have a2 := hSw.cell 2; have a3 := hSw.cell 3; have a4 := hSw.cell 4; simp only [List.getElem?_cons_zero, List.getElem?_cons_succ] at a0 a1 a2 a3 a4; clear hHeld; go_simp)
   try simp only [Act.put, pz0, pz1, pz2]
   refine wpAnyH_take (i := 4) (oi := ⟨some 2, _, _, _, _, _⟩) (v := .int .i64 0) rfl (by kernel_rfl) (by kernel_rfl) (by kernel_rfl) (fun _ _ _ h => h) (.inl ⟨by rfl, fun w' hSw => ?_⟩) hHeld ?_
   focus (skip; clear hHeld; go_simp)
   try simp only [Act.put, pz0, pz1, pz2]
   refine wpAnyH_take (i := 5) (oi := ⟨some 3, _, _, _, _, _⟩) (v := .int .i64 0) rfl (by kernel_rfl) (by kernel_rfl) (by kernel_rfl) (fun _ _ _ h => h) (.inl ⟨by rfl, fun w' hSw => ?_⟩) hHeld ?_
   focus (skip; clear hHeld; go_simp)
   try simp only [Act.put, pz0, pz1, pz2]
   refine wpAnyH_done (by kernel_rfl) ?_ _
   refine NoPanic.normal ?_
   go_wp2_with fail
   go_ret2
   exact ⟨rfl, HBD.out⟩
theorem finC_0 (hp : PI b s ox cx ax) (h : (finC b s).1 = 0) : (finC b s).2 = 0 := by
 cases s with
 | er c a => obtain ⟨o2, h1, _⟩ := hp; exact absurd h (h1.2.2 c a rfl)
 | go o =>
  by_cases hlt : o < b.length
  ·have e : finC b (.go o) = (16, o) := if_pos hlt
   rw [e] at h; cases h
  ·have e : finC b (.go o) = (0, 0) := if_neg hlt
   rw [e]
def RPost (W : World) (r : Ex × Nat × Nat) (e : Ending) (w' : World) : Prop := ∃ v, e = .returned (.tuple #[v, .int .i64 (r.2.1 : Nat), .int .i64 (r.2.2 : Nat)]) ∧ VE W.heap.size r.1 w' v ∧ Below W.heap.size W w'
set_option maxRecDepth 100000 in
set_option maxHeartbeats 4000000 in
theorem rParseExpr_any {vb : Value} (hr : Rd W.heap.size W vb b) (hl : b.length ≤ 1000000) : Calls Tryz.prog 21 #[vb] W (RPost W (parseEx b)) := by
 obtain ⟨q, cp, rfl, _, _⟩ := hr.form
 have HG : Hid (Arr (W.alloc (.cells #[.int .i64 0, .string ⟨#[]⟩, .string ⟨#[]⟩, .slice none 0 0] 42)) 42 W.heap.size [.int .i64 0, .string ⟨#[]⟩, .string ⟨#[]⟩, .slice none 0 0]) := Arr.new' _ _ _ _ rfl
 have hb0 : Below W.heap.size W (W.alloc (.cells #[.int .i64 0, .string ⟨#[]⟩, .string ⟨#[]⟩, .slice none 0 0] 42)) := (Below.refl _ _).alloc (Nat.le_refl _) _
 have HN : Hid (Calls Tryz.prog 27 #[.agg #[.slice q b.length cp, .int .i64 0, .int .i64 0, .int .i64 0, .int .i64 0], .int .i64 1] (W.alloc (.cells #[.int .i64 0, .string ⟨#[]⟩, .string ⟨#[]⟩, .slice none 0 0] 42)) (QPost (W.alloc (.cells #[.int .i64 0, .string ⟨#[]⟩, .string ⟨#[]⟩, .slice none 0 0] 42)) b q cp (refC b 16 0 0))) := rRead_any 16 (by decide) _ 0 0 ((hr.below hb0 (Nat.le_refl _)).mono hb0.size) hl (Nat.zero_le _) (Nat.zero_le _)
 have HB := hiD hb0
 have HSZ : Hid ((W.alloc (.cells #[.int .i64 0, .string ⟨#[]⟩, .string ⟨#[]⟩, .slice none 0 0] 42)).heap.size = W.heap.size + 1) := World.size_alloc _ _
 have HE := hiD (parseEx_ref b)
 obtain ⟨⟨xk, xv, xn, xs⟩, hx⟩ : ∃ x, x = (refC b 16 0 0).1 := ⟨_, rfl⟩
 obtain ⟨s, hs⟩ : ∃ x, x = (refC b 16 0 0).2.1 := ⟨_, rfl⟩
 obtain ⟨lv, hlv⟩ : ∃ x, x = (refC b 16 0 0).2.2 := ⟨_, rfl⟩
 unfold QPost at HN
 rw [← hx, ← hs, ← hlv] at HN
 rw [← hx, ← hs] at HE
 clear hr hl hb0 hx hs hlv
 go_enter Tryz.func21, Tryz.ntmps21
 go_upto_region 1 with (fail)
 generalize W.alloc (.cells #[.int .i64 0, .string ⟨#[]⟩, .string ⟨#[]⟩, .slice none 0 0] 42) = w0 at HG HB HN HSZ ⊢
 go_wp2_with fail
 refine HN.out.mono ?_
 rintro e w1 ⟨ox, cx, ax, v, rfl, hp1, hv1, b1⟩
 have r1' : VE w0.heap.size (.mk xk xv xn xs) w1 v := hv1
 obtain ⟨q1, c1, rfl, _, _⟩ := RdE.form hv1
 unfold exv at r1' ⊢
 dsimp only [Ex.kind, Ex.via, Ex.nm, Ex.kids] at r1' ⊢
 have HV1 : Hid (VE w0.heap.size (.mk xk xv xn xs) w1 (.agg #[.int .i64 xk, .string (bstr xv), .string (bstr xn), .slice q1 xs.length c1])) := r1'
 have HP1 := hiD hp1
 have HA1 := hiD (HG.out.later b1)
 have HB1 := hiD (HB.out.trans (b1.mono HB.out.size))
 clear r1' hv1 hp1 b1 HN HG HB
 go_upto_region 2 with (fail)
 have hb2 : Below w1.heap.size w1 ((w1.alloc (.cells #[.slice q b.length cp, .int .i64 ox, .int .i64 cx, .int .i64 ax, .int .i64 (lv : Nat)] 59)).alloc (.cells #[.int .i64 xk, .string (bstr xv), .string (bstr xn), .slice q1 xs.length c1] 42)) := ((Below.refl _ _).alloc (Nat.le_refl _) _).alloc (by simp) _
 have HP2 : Hid (Arr ((w1.alloc (.cells #[.slice q b.length cp, .int .i64 ox, .int .i64 cx, .int .i64 ax, .int .i64 (lv : Nat)] 59)).alloc (.cells #[.int .i64 xk, .string (bstr xv), .string (bstr xn), .slice q1 xs.length c1] 42)) 59 w1.heap.size [.slice q b.length cp, .int .i64 ox, .int .i64 cx, .int .i64 ax, .int .i64 (lv : Nat)]) := (Arr.new' _ _ _ _ rfl).alloc _
 have HX2 : Hid (Arr ((w1.alloc (.cells #[.slice q b.length cp, .int .i64 ox, .int .i64 cx, .int .i64 ax, .int .i64 (lv : Nat)] 59)).alloc (.cells #[.int .i64 xk, .string (bstr xv), .string (bstr xn), .slice q1 xs.length c1] 42)) 42 (w1.heap.size + 1) [.int .i64 xk, .string (bstr xv), .string (bstr xn), .slice q1 xs.length c1]) := Arr.new2 _ _ _ _ _ rfl
 have HV2 := hiD (HV1.out.later hb2)
 have HA2 := hiD (HA1.out.later hb2)
 have HB2 := hiD (HB1.out.trans (hb2.mono HB1.out.size))
 clear hb2 HV1 HA1 HB1
 obtain ⟨g, hg⟩ : ∃ g, g = w1.heap.size := ⟨_, rfl⟩
 rw [← hg] at HP2 HX2 ⊢
 clear hg
 generalize ((w1.alloc (.cells #[.slice q b.length cp, .int .i64 ox, .int .i64 cx, .int .i64 ax, .int .i64 (lv : Nat)] 59)).alloc (.cells #[.int .i64 xk, .string (bstr xv), .string (bstr xn), .slice q1 xs.length c1] 42)) = w2 at HP2 HX2 HV2 HA2 HB2 ⊢
 have HF := hiD (pFin (lv := lv) (W := w2) (q := q) (cp := cp) HP1.out)
 obtain ⟨fc, hfc⟩ : ∃ x, x = (finC b s).1 := ⟨_, rfl⟩
 obtain ⟨fa, hfa⟩ : ∃ x, x = (finC b s).2 := ⟨_, rfl⟩
 rw [← hfc, ← hfa] at HF
 have HE1 : Hid (parseEx b = (if fc = 0 then .mk xk xv xn xs else ex0, fc, fa)) := by rw [hfc, hfa]; exact HE.out
 have HFZ : Hid (fc = 0 → fa = 0) := by rw [hfc, hfa]; exact finC_0 HP1.out
 clear hfc hfa HE
 obtain ⟨x0, y0, x1, y1, x2, y2, x3, y3, x4, y4⟩ := HP2.out.all5
 go_wp2_with fail
 refine HF.out.mono ?_
 rintro e w3 ⟨rfl, b3⟩
 have HV3 := hiD (HV2.out.later b3)
 have HX3 := hiD (HX2.out.later b3)
 have HA3 := hiD (HA2.out.later b3)
 have HB3 := hiD (HB2.out.trans (b3.mono HB2.out.size))
 clear b3 HF HV2 HX2 HA2 HB2 HP2
 clear x0 y0 x1 y1 x2 y2 x3 y3 x4 y4
 obtain ⟨e0, f0, e1, f1, e2, f2, e3, f3⟩ := HA3.out.all4
 obtain ⟨t0, r0, t1, r1, t2, r2, t3, r3⟩ := HX3.out.all4
 by_cases hz : fc = 0
 ·have HE2 : Hid (parseEx b = (.mk xk xv xn xs, 0, 0)) := by show _ = _; rw [HE1.out, if_pos hz, HFZ.out hz, hz]
  subst hz
  go_wp2_with fail
  have hA := HA3.out.set4x (.int .i64 xk) (.string (bstr xv)) (.string (bstr xn)) (.slice q1 xs.length c1)
  have hk := kp_set4 w3 W.heap.size (.int .i64 xk) (.string (bstr xv)) (.string (bstr xn)) (.slice q1 xs.length c1)
  refine bodyPost_ret (resX3 rfl hA rfl) rfl ?_
  rw [HE2.out]
  exact ⟨_, rfl, (VE.kp HV3.out hk (by have := HSZ.out; omega)).low (by have := HSZ.out; omega), below_box (below_box (below_box (below_box HB3.out (Nat.le_refl _) _ _) (Nat.le_refl _) _ _) (Nat.le_refl _) _ _) (Nat.le_refl _) _ _⟩
 ·have HE2 : Hid (parseEx b = (ex0, fc, fa)) := by show _ = _; rw [HE1.out, if_neg hz]
  have hcx : ¬ (fc : Int) = 0 := by omega
  have hc2 : ((fc : Int) == 0) = false := by rw [beq_eq_false_iff_ne]; exact hcx
  have hc3 : ((fc : Int) != 0) = true := by rw [bne_iff_ne]; exact hcx
  go_wp2_with fail
  have hA := HA3.out.set4x (.int .i64 0) (.string ⟨#[]⟩) (.string ⟨#[]⟩) (.slice none 0 0)
  refine bodyPost_ret (resX3 rfl hA rfl) rfl ?_
  rw [HE2.out]
  exact ⟨_, rfl, VE.leaf _ _ _ _ _, below_box (below_box (below_box (below_box HB3.out (Nat.le_refl _) _ _) (Nat.le_refl _) _ _) (Nat.le_refl _) _ _) (Nat.le_refl _) _ _⟩
end
def allE (b : List UInt8) (o lv : Nat) : AlB × St × Nat := allC b (.go o) lv
def typesE (b : List UInt8) (o lv : Nat) : List AlB × St × Nat := loopE (allE b) (numC b (chkR 1 32 15) (.go o)).1 [] (numC b (chkR 1 32 15) (.go o)).2 lv
def memT (b nm : List UInt8) (k : Nat) (lv : Nat) : St → MemB × St × Nat
 | .er c a => ((nm, (k : Nat), [], ex0), .er c a, lv)
 | .go o => if k = 2 then ((nm, 2, [], (refC b 16 o 0).1), (refC b 16 o 0).2) else ((nm, (k : Nat), (typesE b o lv).1, ex0), (typesE b o lv).2)
def memE (b : List UInt8) (o lv : Nat) : MemB × St × Nat := memT b (nameC b false (.go o)).1 (numC b (chkR 1 2 6) (nameC b false (.go o)).2).1 lv (numC b (chkR 1 2 6) (nameC b false (.go o)).2).2
def defE (b : List UInt8) (o lv : Nat) : DefB × St × Nat :=
 (((nameC b false (.go o)).1, (loopE (memE b) (numC b (chkR 0 64 15) (nameC b false (.go o)).2).1 [] (numC b (chkR 0 64 15) (nameC b false (.go o)).2).2 lv).1), (loopE (memE b) (numC b (chkR 0 64 15) (nameC b false (.go o)).2).1 [] (numC b (chkR 0 64 15) (nameC b false (.go o)).2).2 lv).2)
def schE (b : List UInt8) : List DefB × St × Nat := loopE (defE b) (numC b (chkR 0 64 15) (.go 0)).1 [] (numC b (chkR 0 64 15) (.go 0)).2 0
def Reads0 {α : Type} (f : Nat → Nat → α × St × Nat) (g : Nat → Nat → Rs α) : Prop := ∀ o lv, lv ≤ 32 → asR0 (f o lv) = g o 0 ∧ (f o lv).2.2 ≤ 32
theorem loopE_lv {α : Type} {f : Nat → Nat → α × St × Nat} (hf : ∀ o lv, f o lv = ((f o 0).1, (f o 0).2.1, lv)) : ∀ (n : Nat) (acc : List α) (s : St) (lv : Nat), loopE f n acc s lv = ((loopE f n acc s 0).1, (loopE f n acc s 0).2.1, lv)
 | 0, _, _, _ => rfl
 | n + 1, acc, .er c a, lv => rfl
 | n + 1, acc, .go o, lv => by
  rw [loopE, loopE, hf o lv]
  have e : (f o 0).2.2 = 0 := by rw [hf o 0]
  rw [e]
  exact loopE_lv hf n _ _ lv
theorem types_lvE (b : List UInt8) (o lv : Nat) : typesE b o lv = ((typesE b o 0).1, (typesE b o 0).2.1, lv) := loopE_lv (fun _ _ => rfl) _ _ _ _
theorem all_reads (b : List UInt8) : ReadsAs (allE b) (allR b) := fun o lv hl => ⟨all_as b o lv, hl⟩
theorem loopE_many0 {α : Type} {f : Nat → Nat → α × St × Nat} {g : Nat → Nat → Rs α} (hg : Reads0 f g) : ∀ (n : Nat) (acc : List α) (o lv : Nat), lv ≤ 32 → asR0 (loopE f n acc (.go o) lv) = ((manyR g n o 0).then fun xs o1 l1 => .ok (acc ++ xs) o1 l1) ∧ (loopE f n acc (.go o) lv).2.2 ≤ 32
 | 0, acc, o, lv, hl => ⟨by show Rs.ok acc o 0 = Rs.ok (acc ++ []) o 0; rw [List.append_nil], hl⟩
 | n + 1, acc, o, lv, hl => by
  obtain ⟨h1, h2⟩ := hg o lv hl
  rw [loopE, manyR, ← h1]
  generalize f o lv = r at h1 h2 ⊢
  obtain ⟨x, s, l1⟩ := r
  cases s with
  | er c a => rw [loopE_er]; exact ⟨rfl, h2⟩
  | go o1 =>
   obtain ⟨h3, h4⟩ := loopE_many0 hg n (acc ++ [x]) o1 l1 h2
   refine ⟨?_, h4⟩
   show asR0 (loopE f n (acc ++ [x]) (.go o1) l1) = _
   rw [h3]
   show _ = Rs.then (Rs.then (manyR g n o1 0) _) _
   cases manyR g n o1 0 with
   | bad c a => rfl
   | ok xs o2 l2 => show Rs.ok _ _ _ = Rs.ok _ _ _; rw [List.append_assoc]; rfl
theorem mem_reads (b : List UInt8) : Reads0 (memE b) (memR b) := fun o lv hl => by
 unfold memE memR
 rw [← nameC_name]
 generalize nameC b false (.go o) = r
 obtain ⟨nm, s1⟩ := r
 cases s1 with
 | er c a => exact ⟨rfl, hl⟩
 | go o1 =>
  show asR0 (memT b nm (numC b (chkR 1 2 6) (.go o1)).1 lv (numC b (chkR 1 2 6) (.go o1)).2) = Rs.then (numK b 1 2 6 o1 0) _ ∧ (memT b nm (numC b (chkR 1 2 6) (.go o1)).1 lv (numC b (chkR 1 2 6) (.go o1)).2).2.2 ≤ 32
  rw [← numR_num (by decide)]
  generalize hn : numC b (chkR 1 2 6) (.go o1) = r
  obtain ⟨k, s2⟩ := r
  cases s2 with
  | er c a => exact ⟨rfl, hl⟩
  | go o2 =>
   have hk : k = 1 ∨ k = 2 := by
    have h1 : k ≤ 2 := by
     have := numC_le (b := b) (chk := chkR 1 2 6) (M := 2) (fun x h => by unfold chkR at h; split at h; cases h; omega) (.go o1)
     rw [hn] at this; exact this
    have h2 : 1 ≤ k := by
     have := numC_ge (b := b) (chk := chkR 1 2 6) (s := .go o1) (lo := 1) (o' := o2) (fun x h => by unfold chkR at h; split at h; cases h; split at h; cases h; omega) (by rw [hn])
     rw [hn] at this; exact this
    omega
   show asR0 (if k = 2 then _ else _) = (if k = 2 then permR b nm o2 0 else relR b nm o2 0) ∧ (if k = 2 then _ else _ : MemB × St × Nat).2.2 ≤ 32
   rcases hk with rfl | rfl
   ·show asR0 ((nm, (1 : Int), (typesE b o2 lv).1, ex0), (typesE b o2 lv).2) = relR b nm o2 0 ∧ (typesE b o2 lv).2.2 ≤ 32
    unfold relR
    rw [types_lvE b o2 lv]
    refine ⟨?_, hl⟩
    unfold typesE
    rw [← numR_num (by decide)]
    generalize numC b (chkR 1 32 15) (.go o2) = r
    obtain ⟨t, s3⟩ := r
    cases s3 with
    | er c a => simp only [loopE_er]; rfl
    | go o3 =>
     obtain ⟨h3, _⟩ := loopE_many (all_reads b) t [] o3 0 (Nat.zero_le _)
     show _ = Rs.then (manyR (allR b) t o3 0) _
     show asR0 (_, (loopE (allE b) t [] (.go o3) 0).2.1, lv) = _
     generalize loopE (allE b) t [] (.go o3) 0 = r at h3
     obtain ⟨xs, s4, l4⟩ := r
     cases s4 with
     | er c a =>
      cases hm : manyR (allR b) t o3 0 with
      | bad c2 a2 => rw [hm] at h3; change Rs.bad c a = Rs.bad c2 a2 at h3; cases h3; rfl
      | ok ys o5 l5 => rw [hm] at h3; cases h3
     | go o4 =>
      cases hm : manyR (allR b) t o3 0 with
      | bad c2 a2 => rw [hm] at h3; cases h3
      | ok ys o5 l5 => rw [hm] at h3; change Rs.ok _ _ _ = Rs.ok _ _ _ at h3; cases h3; rfl
   ·show asR0 ((nm, (2 : Int), [], (refC b 16 o2 0).1), (refC b 16 o2 0).2) = permR b nm o2 0 ∧ (refC b 16 o2 0).2.2 ≤ 32
    unfold permR
    obtain ⟨h3, h4⟩ := ref_as b 16 o2 0 (Nat.zero_le _)
    rw [← h3]
    generalize refC b 16 o2 0 = r at h4 ⊢
    obtain ⟨x, s3, l3⟩ := r
    cases s3 with
    | er c a => exact ⟨rfl, h4⟩
    | go o3 => exact ⟨rfl, h4⟩
theorem numR_0 {b : List UInt8} {o : Nat} : asR ((numC b (chkR 0 64 15) (.go o)).1, (numC b (chkR 0 64 15) (.go o)).2, 0) = numK b 0 64 15 o 0 := numR_num (by decide)
theorem mem_zero {b : List UInt8} {o o1 l1 : Nat} {x : MemB} (e : memR b o 0 = .ok x o1 l1) : l1 = 0 := by
 have e2 := (mem_reads b o 0 (Nat.zero_le _)).1
 rw [e] at e2
 unfold asR0 at e2
 split at e2 <;> cases e2
 rfl
theorem def_reads (b : List UInt8) : Reads0 (defE b) (defR b) := fun o lv hl => by
 unfold defE defR
 rw [← nameC_name]
 generalize nameC b false (.go o) = r
 obtain ⟨nm, s1⟩ := r
 cases s1 with
 | er c a =>
  show asR0 ((nm, (loopE (memE b) 0 [] (.er c a) lv).1), (loopE (memE b) 0 [] (.er c a) lv).2) = _ ∧ (loopE (memE b) 0 [] (.er c a) lv).2.2 ≤ 32
  exact ⟨rfl, hl⟩
 | go o1 =>
  show asR0 ((nm, (loopE (memE b) (numC b (chkR 0 64 15) (.go o1)).1 [] (numC b (chkR 0 64 15) (.go o1)).2 lv).1), (loopE (memE b) (numC b (chkR 0 64 15) (.go o1)).1 [] (numC b (chkR 0 64 15) (.go o1)).2 lv).2) = Rs.then (numK b 0 64 15 o1 0) _ ∧ (loopE (memE b) (numC b (chkR 0 64 15) (.go o1)).1 [] (numC b (chkR 0 64 15) (.go o1)).2 lv).2.2 ≤ 32
  rw [← numR_0]
  generalize numC b (chkR 0 64 15) (.go o1) = r
  obtain ⟨n, s2⟩ := r
  cases s2 with
  | er c a => simp only [loopE_er]; exact ⟨rfl, hl⟩
  | go o2 =>
   obtain ⟨h3, h4⟩ := loopE_many0 (mem_reads b) n [] o2 lv hl
   refine ⟨?_, h4⟩
   have hz := many_zero (g := memR b) (fun o x o1 l1 e => mem_zero e) n o2
   show _ = Rs.then (manyR (memR b) n o2 0) _
   generalize loopE (memE b) n [] (.go o2) lv = T at h3 ⊢
   obtain ⟨ms, s, l⟩ := T
   cases hm : manyR (memR b) n o2 0 with
   | bad c2 a2 =>
    rw [hm] at h3
    cases s with
    | er c a => cases h3; rfl
    | go o => cases h3
   | ok xs o3 l3 =>
    obtain rfl := hz _ _ _ hm
    rw [hm] at h3
    cases s with
    | er c a => cases h3
    | go o => cases h3; rfl
theorem sch_reads (b : List UInt8) : asR0 (schE b) = schR b 0 0 := by
 unfold schR schE
 rw [← numR_0]
 generalize numC b (chkR 0 64 15) (.go 0) = r
 obtain ⟨n, s⟩ := r
 cases s with
 | er c a => rw [loopE_er]; rfl
 | go o1 =>
  rw [(loopE_many0 (def_reads b) n [] o1 0 (Nat.zero_le _)).1]
  show _ = manyR (defR b) n o1 0
  cases manyR (defR b) n o1 0 with
  | bad c a => rfl
  | ok xs o2 l2 => rfl
theorem parseSc_ref (b : List UInt8) : parseSc b = (if (finC b (schE b).2.1).1 = 0 then (schE b).1 else [], finC b (schE b).2.1) := by
 have h := sch_reads b
 unfold parseSc
 obtain ⟨⟨x, s, l⟩, hx⟩ : ∃ r, r = schE b := ⟨_, rfl⟩
 rw [← hx] at h ⊢
 cases s with
 | er c a =>
  change Rs.bad c a = _ at h
  rw [← h]
  have : c ≠ 0 := schR_ne 0 0 c a h.symm
  show _ = (if c = 0 then _ else _, _)
  rw [if_neg this]; rfl
 | go o =>
  change Rs.ok x o 0 = _ at h
  rw [← h]
  show (if o < b.length then _ else _) = _
  by_cases hlt : o < b.length
  ·have e : finC b (.go o) = (16, o) := if_pos hlt
   rw [if_pos hlt, e]; rfl
  ·have e : finC b (.go o) = (0, 0) := if_neg hlt
   rw [if_neg hlt, e]; rfl
end Go.Proofs.YtdnmgemjhpkekaaGreatDoor
