/-
  The reference's read, a level.
-/
import Derived.Test.YtdnmgemjhpkekaaGreatDoorMh0
namespace Go.Proofs.YtdnmgemjhpkekaaGreatDoor
open Go.ChangeShapes Go.WideShapes Go.ChangeAt Go.RowKit
set_option linter.unusedVariables false

theorem PRow.box4 {α : Type} {K : Kd α} {base : Nat} {X : Nat → Prop} {w : World} {v : Value} {xs : List α} (h : PRow K base X w v xs) {g : Nat} (hg : g < base) (x0 x1 x2 x3 : Value) : PRow K base X ((((w.setCell ⟨g, 0, none⟩ x0).setCell ⟨g, 1, none⟩ x1).setCell ⟨g, 2, none⟩ x2).setCell ⟨g, 3, none⟩ x3) v xs := (((h.box (.inl hg) 0 x0).box (.inl hg) 1 x1).box (.inl hg) 2 x2).box (.inl hg) 3 x3
theorem PRow.box5 {α : Type} {K : Kd α} {base : Nat} {X : Nat → Prop} {w : World} {v : Value} {xs : List α} (h : PRow K base X w v xs) {g : Nat} (hg : g < base) (x0 x1 x2 x3 x4 : Value) : PRow K base X (((((w.setCell ⟨g, 0, none⟩ x0).setCell ⟨g, 1, none⟩ x1).setCell ⟨g, 2, none⟩ x2).setCell ⟨g, 3, none⟩ x3).setCell ⟨g, 4, none⟩ x4) v xs := (h.box4 hg x0 x1 x2 x3).box (.inl hg) 4 x4
section
variable {b : List UInt8} {W : World} {q : Option Addr} {cp o lv : Nat}
set_option maxRecDepth 100000 in
set_option maxHeartbeats 16000000 in
theorem rRead_step {d D : Nat} (hd : D = 17 - (d + 1)) (hd16 : d + 1 ≤ 16) (IH : ∀ (W : World) (o lv : Nat), Rd W.heap.size W (.slice q b.length cp) b → b.length ≤ 1000000 → o ≤ b.length → lv ≤ 32 → Calls Tryz.prog 27 #[.agg #[.slice q b.length cp, .int .i64 (o : Nat), .int .i64 0, .int .i64 0, .int .i64 (lv : Nat)], .int .i64 ((D : Int) + 1)] W (QPost W b q cp (refC b d o lv))) (hr : Rd W.heap.size W (.slice q b.length cp) b) (hbl : b.length ≤ 1000000) (ho : o ≤ b.length) (hl : lv ≤ 32) : Calls Tryz.prog 27 #[.agg #[.slice q b.length cp, .int .i64 (o : Nat), .int .i64 0, .int .i64 0, .int .i64 (lv : Nat)], .int .i64 (D : Nat)] W (QPost W b q cp (refC b (d + 1) o lv)) := by
  have hdp : ¬ (16 : Int) < (D : Nat) := by omega
  have hDW : wrap64 ((D : Int) + 1) = (D : Int) + 1 := by unfold wrap64; omega
  replace IH := Lib.hid IH
  have HE0 : Hid (refC b (d + 1) o lv = topE (d + 1) o lv (fun k o1 => bodyE b (refC b d) k o1 lv) (numC b (chkR 1 5 6) (.go o))) := rfl
  clear hd hd16
  have hb4 : Below W.heap.size W ((((W.alloc (.cells #[.slice q b.length cp, .int .i64 (o : Nat), .int .i64 0, .int .i64 0, .int .i64 (lv : Nat)] 59)).alloc (.cells #[.slice none 0 0, .int .i64 0, .int .i64 0, .int .i64 0, .int .i64 0] 59)).alloc (.cells #[.int .i64 0, .string ⟨#[]⟩, .string ⟨#[]⟩, .slice none 0 0] 42)).alloc (.cells #[.int .i64 0, .string ⟨#[]⟩, .string ⟨#[]⟩, .slice none 0 0] 42)) := ((((Below.refl _ _).alloc (Nat.le_refl _) _).alloc (by simp) _).alloc (by simp; omega) _).alloc (by simp; omega) _
  have hE4 : Arr ((((W.alloc (.cells #[.slice q b.length cp, .int .i64 (o : Nat), .int .i64 0, .int .i64 0, .int .i64 (lv : Nat)] 59)).alloc (.cells #[.slice none 0 0, .int .i64 0, .int .i64 0, .int .i64 0, .int .i64 0] 59)).alloc (.cells #[.int .i64 0, .string ⟨#[]⟩, .string ⟨#[]⟩, .slice none 0 0] 42)).alloc (.cells #[.int .i64 0, .string ⟨#[]⟩, .string ⟨#[]⟩, .slice none 0 0] 42)) 42 (W.heap.size + 3) [.int .i64 0, .string ⟨#[]⟩, .string ⟨#[]⟩, .slice none 0 0] := by
    have h := Arr.new' (((W.alloc (.cells #[.slice q b.length cp, .int .i64 (o : Nat), .int .i64 0, .int .i64 0, .int .i64 (lv : Nat)] 59)).alloc (.cells #[.slice none 0 0, .int .i64 0, .int .i64 0, .int .i64 0, .int .i64 0] 59)).alloc (.cells #[.int .i64 0, .string ⟨#[]⟩, .string ⟨#[]⟩, .slice none 0 0] 42)) 42 #[.int .i64 0, .string ⟨#[]⟩, .string ⟨#[]⟩, .slice none 0 0] _ rfl
    rw [World.size_alloc, World.size_alloc, World.size_alloc] at h
    exact h
  have HR0 : Hid (RB W [.slice q b.length cp, .int .i64 (o : Nat), .int .i64 0, .int .i64 0, .int .i64 (lv : Nat)] [.slice none 0 0, .int .i64 0, .int .i64 0, .int .i64 0, .int .i64 0] [.int .i64 0, .string ⟨#[]⟩, .string ⟨#[]⟩, .slice none 0 0] [.int .i64 0, .string ⟨#[]⟩, .string ⟨#[]⟩, .slice none 0 0] ((((W.alloc (.cells #[.slice q b.length cp, .int .i64 (o : Nat), .int .i64 0, .int .i64 0, .int .i64 (lv : Nat)] 59)).alloc (.cells #[.slice none 0 0, .int .i64 0, .int .i64 0, .int .i64 0, .int .i64 0] 59)).alloc (.cells #[.int .i64 0, .string ⟨#[]⟩, .string ⟨#[]⟩, .slice none 0 0] 42)).alloc (.cells #[.int .i64 0, .string ⟨#[]⟩, .string ⟨#[]⟩, .slice none 0 0] 42))) := ⟨(((Arr.new' _ _ _ _ rfl).alloc _).alloc _).alloc _, ((Arr.new2 _ _ _ _ _ rfl).alloc _).alloc _, (Arr.new3 _ _ _ _ _ _ rfl).alloc _, hE4, hb4⟩
  have HRD := Lib.hid hr
  have HBL := Lib.hid hbl
  have HLV := Lib.hid hl
  have HN1 := Lib.hid (pNum1 (lv := lv) ((hr.below hb4 (Nat.le_refl _)).mono hb4.size) (PI.of_go ho) hbl)
  obtain ⟨k, hk⟩ : ∃ x, x = (numC b (chkR 1 5 6) (.go o)).1 := ⟨_, rfl⟩
  obtain ⟨s1, hs1⟩ : ∃ x, x = (numC b (chkR 1 5 6) (.go o)).2 := ⟨_, rfl⟩
  have HPR : Hid (numC b (chkR 1 5 6) (.go o) = (k, s1)) := Prod.ext hk.symm hs1.symm
  rw [← hk, ← hs1] at HN1
  have HK5 : Hid (s1 ≠ .er 0 0 → k ≤ 5) := fun _ => by rw [hk]; exact numC_le (fun x h => chkR_5 h) _
  have HKG : Hid (∀ o', s1 = .go o' → 1 ≤ k) := fun o' h => by
    rw [hs1] at h; rw [hk]; exact numC_ge (fun x h => chkR_1 h) h
  have HOL := Lib.hid ho
  clear hr hbl hl hk hs1 ho hb4 hE4
  go_enter Tryz.func27, Tryz.ntmps27
  go_upto_region 2 with (fail)
  generalize ((((W.alloc (.cells #[.slice q b.length cp, .int .i64 (o : Nat), .int .i64 0, .int .i64 0, .int .i64 (lv : Nat)] 59)).alloc (.cells #[.slice none 0 0, .int .i64 0, .int .i64 0, .int .i64 0, .int .i64 0] 59)).alloc (.cells #[.int .i64 0, .string ⟨#[]⟩, .string ⟨#[]⟩, .slice none 0 0] 42)).alloc (.cells #[.int .i64 0, .string ⟨#[]⟩, .string ⟨#[]⟩, .slice none 0 0] 42)) = w0 at HR0 HN1 ⊢
  have x0 := HR0.out.1.cell 0
  have y0 := HR0.out.1.free 0
  have x1 := HR0.out.1.cell 1
  have y1 := HR0.out.1.free 1
  have x2 := HR0.out.1.cell 2
  have y2 := HR0.out.1.free 2
  have x3 := HR0.out.1.cell 3
  have y3 := HR0.out.1.free 3
  have x4 := HR0.out.1.cell 4
  have y4 := HR0.out.1.free 4
  simp only [List.getElem?_cons_zero, List.getElem?_cons_succ] at x0 x1 x2 x3 x4
  have e0 := HR0.out.2.2.2.1.cell 0
  have f0 := HR0.out.2.2.2.1.free 0
  have e1 := HR0.out.2.2.2.1.cell 1
  have f1 := HR0.out.2.2.2.1.free 1
  have e2 := HR0.out.2.2.2.1.cell 2
  have f2 := HR0.out.2.2.2.1.free 2
  have e3 := HR0.out.2.2.2.1.cell 3
  have f3 := HR0.out.2.2.2.1.free 3
  simp only [List.getElem?_cons_zero, List.getElem?_cons_succ] at e0 e1 e2 e3
  go_wp2_with fail
  refine HN1.out.mono ?_
  rintro e w1 ⟨ox, cx, ax, rfl, hp1, b1⟩
  have HR1 := Lib.hid (HR0.out.later b1)
  have HP1 := Lib.hid hp1
  clear hp1 b1 HN1 HR0
  clear x0 y0 x1 y1 x2 y2 x3 y3 x4 y4
  clear e0 f0 e1 f1 e2 f2 e3 f3
  rw [HPR.out] at HE0
  clear HPR
  cases s1 with
  | er c a =>
    have x0 := HR1.out.1.cell 0
    have y0 := HR1.out.1.free 0
    have x1 := HR1.out.1.cell 1
    have y1 := HR1.out.1.free 1
    have x2 := HR1.out.1.cell 2
    have y2 := HR1.out.1.free 2
    have x3 := HR1.out.1.cell 3
    have y3 := HR1.out.1.free 3
    have x4 := HR1.out.1.cell 4
    have y4 := HR1.out.1.free 4
    simp only [List.getElem?_cons_zero, List.getElem?_cons_succ] at x0 x1 x2 x3 x4
    have e0 := HR1.out.2.2.2.1.cell 0
    have f0 := HR1.out.2.2.2.1.free 0
    have e1 := HR1.out.2.2.2.1.cell 1
    have f1 := HR1.out.2.2.2.1.free 1
    have e2 := HR1.out.2.2.2.1.cell 2
    have f2 := HR1.out.2.2.2.1.free 2
    have e3 := HR1.out.2.2.2.1.cell 3
    have f3 := HR1.out.2.2.2.1.free 3
    simp only [List.getElem?_cons_zero, List.getElem?_cons_succ] at e0 e1 e2 e3
    go_upto_region 4 with (fail)
    have HR2 := Lib.hid ((HR1.out.pl (.slice q b.length cp) (.int .i64 ox) (.int .i64 cx) (.int .i64 ax) (.int .i64 (lv : Nat))).ce (i := 0) (.int .i64 (k : Nat)) (by decide))
    clear x0 y0 x1 y1 x2 y2 x3 y3 x4 y4
    clear e0 f0 e1 f1 e2 f2 e3 f3
    have HR3 : Hid (RB W [.slice q b.length cp, .int .i64 ox, .int .i64 cx, .int .i64 ax, .int .i64 (lv : Nat)] [.slice none 0 0, .int .i64 0, .int .i64 0, .int .i64 0, .int .i64 0] [.int .i64 0, .string ⟨#[]⟩, .string ⟨#[]⟩, .slice none 0 0] [.int .i64 (k : Nat), .string ⟨#[]⟩, .string ⟨#[]⟩, .slice none 0 0] ((((((w1.setCell ⟨W.heap.size, 0, none⟩ (.slice q b.length cp)).setCell ⟨W.heap.size, 1, none⟩ (.int .i64 ox)).setCell ⟨W.heap.size, 2, none⟩ (.int .i64 cx)).setCell ⟨W.heap.size, 3, none⟩ (.int .i64 ax)).setCell ⟨W.heap.size, 4, none⟩ (.int .i64 (lv : Nat))).setCell ⟨W.heap.size + 3, 0, none⟩ (.int .i64 (k : Nat)))) := HR2.out
    clear HR1 HR2
    generalize ((((((w1.setCell ⟨W.heap.size, 0, none⟩ (.slice q b.length cp)).setCell ⟨W.heap.size, 1, none⟩ (.int .i64 ox)).setCell ⟨W.heap.size, 2, none⟩ (.int .i64 cx)).setCell ⟨W.heap.size, 3, none⟩ (.int .i64 ax)).setCell ⟨W.heap.size, 4, none⟩ (.int .i64 (lv : Nat))).setCell ⟨W.heap.size + 3, 0, none⟩ (.int .i64 (k : Nat))) = w3 at HR3 ⊢
    have hcx := HP1.out.er
    have hc2 : (cx == 0) = false := by simpa using hcx
    have hc3 : (cx != 0) = true := by simpa using hcx
    have HE : Hid (refC b (d + 1) o lv = (ex0, .er c a, lv)) := HE0.out
    clear HE0 HK5 HKG IH
    have x0 := HR3.out.1.cell 0
    have y0 := HR3.out.1.free 0
    have x1 := HR3.out.1.cell 1
    have y1 := HR3.out.1.free 1
    have x2 := HR3.out.1.cell 2
    have y2 := HR3.out.1.free 2
    have x3 := HR3.out.1.cell 3
    have y3 := HR3.out.1.free 3
    have x4 := HR3.out.1.cell 4
    have y4 := HR3.out.1.free 4
    simp only [List.getElem?_cons_zero, List.getElem?_cons_succ] at x0 x1 x2 x3 x4
    have p0 := HR3.out.2.1.cell 0
    have z0 := HR3.out.2.1.free 0
    have p1 := HR3.out.2.1.cell 1
    have z1 := HR3.out.2.1.free 1
    have p2 := HR3.out.2.1.cell 2
    have z2 := HR3.out.2.1.free 2
    have p3 := HR3.out.2.1.cell 3
    have z3 := HR3.out.2.1.free 3
    have p4 := HR3.out.2.1.cell 4
    have z4 := HR3.out.2.1.free 4
    simp only [List.getElem?_cons_zero, List.getElem?_cons_succ] at p0 p1 p2 p3 p4
    have g0 := HR3.out.2.2.1.cell 0
    have h0 := HR3.out.2.2.1.free 0
    have g1 := HR3.out.2.2.1.cell 1
    have h1 := HR3.out.2.2.1.free 1
    have g2 := HR3.out.2.2.1.cell 2
    have h2 := HR3.out.2.2.1.free 2
    have g3 := HR3.out.2.2.1.cell 3
    have h3 := HR3.out.2.2.1.free 3
    simp only [List.getElem?_cons_zero, List.getElem?_cons_succ] at g0 g1 g2 g3
    go_wp2_with fail
    have hF := (HR3.out.p4 (.slice q b.length cp) (.int .i64 ox) (.int .i64 cx) (.int .i64 ax) (.int .i64 (lv : Nat))).p5 (.int .i64 0) (.string ⟨#[]⟩) (.string ⟨#[]⟩) (.slice none 0 0)
    refine bodyPost_ret (resPX rfl hF.2.1 hF.2.2.1 rfl rfl) rfl ?_
    rw [HE.out]
    exact ⟨_, _, _, _, rfl, HP1.out, VE.leaf _ _ _ _ _, hF.2.2.2.2⟩
  | go o1 =>
    obtain ⟨rfl, rfl, rfl, hol⟩ := HP1.out.go
    have HOL1 := Lib.hid hol
    have hk5 := HK5.out (by intro h; cases h)
    have hk1 := HKG.out o1 rfl
    have hk6 : k = 1 ∨ k = 2 ∨ k = 3 ∨ k = 4 ∨ k = 5 := by omega
    clear hol hk5 hk1 HP1
    rcases hk6 with rfl | rfl | rfl | rfl | rfl
    · have x0 := HR1.out.1.cell 0
      have y0 := HR1.out.1.free 0
      have x1 := HR1.out.1.cell 1
      have y1 := HR1.out.1.free 1
      have x2 := HR1.out.1.cell 2
      have y2 := HR1.out.1.free 2
      have x3 := HR1.out.1.cell 3
      have y3 := HR1.out.1.free 3
      have x4 := HR1.out.1.cell 4
      have y4 := HR1.out.1.free 4
      simp only [List.getElem?_cons_zero, List.getElem?_cons_succ] at x0 x1 x2 x3 x4
      have e0 := HR1.out.2.2.2.1.cell 0
      have f0 := HR1.out.2.2.2.1.free 0
      have e1 := HR1.out.2.2.2.1.cell 1
      have f1 := HR1.out.2.2.2.1.free 1
      have e2 := HR1.out.2.2.2.1.cell 2
      have f2 := HR1.out.2.2.2.1.free 2
      have e3 := HR1.out.2.2.2.1.cell 3
      have f3 := HR1.out.2.2.2.1.free 3
      simp only [List.getElem?_cons_zero, List.getElem?_cons_succ] at e0 e1 e2 e3
      go_upto_region 4 with (fail)
      have HR2 := Lib.hid ((HR1.out.pl (.slice q b.length cp) (.int .i64 (o1 : Nat)) (.int .i64 0) (.int .i64 0) (.int .i64 (lv : Nat))).ce (i := 0) (.int .i64 1) (by decide))
      clear x0 y0 x1 y1 x2 y2 x3 y3 x4 y4
      clear e0 f0 e1 f1 e2 f2 e3 f3
      have HR3 : Hid (RB W [.slice q b.length cp, .int .i64 (o1 : Nat), .int .i64 0, .int .i64 0, .int .i64 (lv : Nat)] [.slice none 0 0, .int .i64 0, .int .i64 0, .int .i64 0, .int .i64 0] [.int .i64 0, .string ⟨#[]⟩, .string ⟨#[]⟩, .slice none 0 0] [.int .i64 1, .string ⟨#[]⟩, .string ⟨#[]⟩, .slice none 0 0] ((((((w1.setCell ⟨W.heap.size, 0, none⟩ (.slice q b.length cp)).setCell ⟨W.heap.size, 1, none⟩ (.int .i64 (o1 : Nat))).setCell ⟨W.heap.size, 2, none⟩ (.int .i64 0)).setCell ⟨W.heap.size, 3, none⟩ (.int .i64 0)).setCell ⟨W.heap.size, 4, none⟩ (.int .i64 (lv : Nat))).setCell ⟨W.heap.size + 3, 0, none⟩ (.int .i64 1))) := HR2.out
      clear HR1 HR2
      generalize ((((((w1.setCell ⟨W.heap.size, 0, none⟩ (.slice q b.length cp)).setCell ⟨W.heap.size, 1, none⟩ (.int .i64 (o1 : Nat))).setCell ⟨W.heap.size, 2, none⟩ (.int .i64 0)).setCell ⟨W.heap.size, 3, none⟩ (.int .i64 0)).setCell ⟨W.heap.size, 4, none⟩ (.int .i64 (lv : Nat))).setCell ⟨W.heap.size + 3, 0, none⟩ (.int .i64 1)) = w3 at HR3 ⊢
      by_cases hl32 : lv = 32
      · subst hl32
        have HE : Hid (refC b (d + 1) o 32 = (ex0, .er 15 o, 32)) := HE0.out.trans (topE_go.trans ((if_neg (by omega)).trans (if_pos (by decide))))
        clear HE0 HK5 HKG IH
        have x0 := HR3.out.1.cell 0
        have y0 := HR3.out.1.free 0
        have x1 := HR3.out.1.cell 1
        have y1 := HR3.out.1.free 1
        have x2 := HR3.out.1.cell 2
        have y2 := HR3.out.1.free 2
        have x3 := HR3.out.1.cell 3
        have y3 := HR3.out.1.free 3
        have x4 := HR3.out.1.cell 4
        have y4 := HR3.out.1.free 4
        simp only [List.getElem?_cons_zero, List.getElem?_cons_succ] at x0 x1 x2 x3 x4
        have e0 := HR3.out.2.2.2.1.cell 0
        have f0 := HR3.out.2.2.2.1.free 0
        have e1 := HR3.out.2.2.2.1.cell 1
        have f1 := HR3.out.2.2.2.1.free 1
        have e2 := HR3.out.2.2.2.1.cell 2
        have f2 := HR3.out.2.2.2.1.free 2
        have e3 := HR3.out.2.2.2.1.cell 3
        have f3 := HR3.out.2.2.2.1.free 3
        simp only [List.getElem?_cons_zero, List.getElem?_cons_succ] at e0 e1 e2 e3
        go_wp2_with fail
        refine (pFail15 (b := b) (lv := 32)).mono ?_
        rintro e w4 ⟨rfl, b4⟩
        have HR4 := Lib.hid (HR3.out.later b4)
        clear b4 HR3
        clear x0 y0 x1 y1 x2 y2 x3 y3 x4 y4
        clear e0 f0 e1 f1 e2 f2 e3 f3
        have x0 := HR4.out.1.cell 0
        have y0 := HR4.out.1.free 0
        have x1 := HR4.out.1.cell 1
        have y1 := HR4.out.1.free 1
        have x2 := HR4.out.1.cell 2
        have y2 := HR4.out.1.free 2
        have x3 := HR4.out.1.cell 3
        have y3 := HR4.out.1.free 3
        have x4 := HR4.out.1.cell 4
        have y4 := HR4.out.1.free 4
        simp only [List.getElem?_cons_zero, List.getElem?_cons_succ] at x0 x1 x2 x3 x4
        go_upto_region 8 with (fail)
        have HR5 := Lib.hid (HR4.out.pl (.slice q b.length cp) (.int .i64 (o1 : Nat)) (.int .i64 15) (.int .i64 (o : Nat)) (.int .i64 32))
        clear x0 y0 x1 y1 x2 y2 x3 y3 x4 y4
        clear HR4
        generalize (((((w4.setCell ⟨W.heap.size, 0, none⟩ (.slice q b.length cp)).setCell ⟨W.heap.size, 1, none⟩ (.int .i64 (o1 : Nat))).setCell ⟨W.heap.size, 2, none⟩ (.int .i64 15)).setCell ⟨W.heap.size, 3, none⟩ (.int .i64 (o : Nat))).setCell ⟨W.heap.size, 4, none⟩ (.int .i64 32)) = w5 at HR5 ⊢
        have x0 := HR5.out.1.cell 0
        have y0 := HR5.out.1.free 0
        have x1 := HR5.out.1.cell 1
        have y1 := HR5.out.1.free 1
        have x2 := HR5.out.1.cell 2
        have y2 := HR5.out.1.free 2
        have x3 := HR5.out.1.cell 3
        have y3 := HR5.out.1.free 3
        have x4 := HR5.out.1.cell 4
        have y4 := HR5.out.1.free 4
        simp only [List.getElem?_cons_zero, List.getElem?_cons_succ] at x0 x1 x2 x3 x4
        have p0 := HR5.out.2.1.cell 0
        have z0 := HR5.out.2.1.free 0
        have p1 := HR5.out.2.1.cell 1
        have z1 := HR5.out.2.1.free 1
        have p2 := HR5.out.2.1.cell 2
        have z2 := HR5.out.2.1.free 2
        have p3 := HR5.out.2.1.cell 3
        have z3 := HR5.out.2.1.free 3
        have p4 := HR5.out.2.1.cell 4
        have z4 := HR5.out.2.1.free 4
        simp only [List.getElem?_cons_zero, List.getElem?_cons_succ] at p0 p1 p2 p3 p4
        have g0 := HR5.out.2.2.1.cell 0
        have h0 := HR5.out.2.2.1.free 0
        have g1 := HR5.out.2.2.1.cell 1
        have h1 := HR5.out.2.2.1.free 1
        have g2 := HR5.out.2.2.1.cell 2
        have h2 := HR5.out.2.2.1.free 2
        have g3 := HR5.out.2.2.1.cell 3
        have h3 := HR5.out.2.2.1.free 3
        simp only [List.getElem?_cons_zero, List.getElem?_cons_succ] at g0 g1 g2 g3
        go_wp2_with fail
        have hF := (HR5.out.p4 (.slice q b.length cp) (.int .i64 (o1 : Nat)) (.int .i64 15) (.int .i64 (o : Nat)) (.int .i64 32)).p5 (.int .i64 0) (.string ⟨#[]⟩) (.string ⟨#[]⟩) (.slice none 0 0)
        refine bodyPost_ret (resPX rfl hF.2.1 hF.2.2.1 rfl rfl) rfl ?_
        rw [HE.out]
        exact ⟨_, _, _, _, rfl, PI.of_er HOL1.out (by decide), VE.leaf _ _ _ _ _, hF.2.2.2.2⟩
      · have hlv : ¬ (lv : Int) = 32 := by omega
        have HE : Hid (refC b (d + 1) o lv = leafC b 1 (.go o1) lv) := (HE0.out.trans (topE_go.trans ((if_neg (by omega)).trans (if_neg (by omega))))).trans (if_pos (by decide))
        clear HE0 HK5 HKG IH
        have hl31 : lv ≤ 31 := by have := HLV.out; omega
        have HL31 := Lib.hid hl31
        have hlb : ((lv : Int) == 32) = false := by rw [beq_eq_false_iff_ne]; omega
        have hwl : wrap64 ((lv : Int) + 1) = (lv : Int) + 1 := by unfold wrap64; omega
        clear hl31
        have HP3 := Lib.hid (PI.of_go (b := b) HOL1.out)
        have HE : Hid (refC b (d + 1) o lv = (.mk 1 [] (nameC b false (.go o1)).1 [], (nameC b false (.go o1)).2, lv + 1)) := HE.out.trans (if_neg (by decide))
        obtain ⟨nn, hnn⟩ : ∃ x, x = (nameC b false (.go o1)).1 := ⟨_, rfl⟩
        obtain ⟨s7, hs7⟩ : ∃ x, x = (nameC b false (.go o1)).2 := ⟨_, rfl⟩
        have HN7 := Lib.hid (pName (lv := lv) ((HRD.out.below HR3.out.2.2.2.2 (Nat.le_refl _)).mono HR3.out.2.2.2.2.size) HP3.out HBL.out)
        rw [← hnn, ← hs7] at HN7
        rw [← hnn, ← hs7] at HE
        clear hnn hs7
        have x0 := HR3.out.1.cell 0
        have y0 := HR3.out.1.free 0
        have x1 := HR3.out.1.cell 1
        have y1 := HR3.out.1.free 1
        have x2 := HR3.out.1.cell 2
        have y2 := HR3.out.1.free 2
        have x3 := HR3.out.1.cell 3
        have y3 := HR3.out.1.free 3
        have x4 := HR3.out.1.cell 4
        have y4 := HR3.out.1.free 4
        simp only [List.getElem?_cons_zero, List.getElem?_cons_succ] at x0 x1 x2 x3 x4
        have e0 := HR3.out.2.2.2.1.cell 0
        have f0 := HR3.out.2.2.2.1.free 0
        have e1 := HR3.out.2.2.2.1.cell 1
        have f1 := HR3.out.2.2.2.1.free 1
        have e2 := HR3.out.2.2.2.1.cell 2
        have f2 := HR3.out.2.2.2.1.free 2
        have e3 := HR3.out.2.2.2.1.cell 3
        have f3 := HR3.out.2.2.2.1.free 3
        simp only [List.getElem?_cons_zero, List.getElem?_cons_succ] at e0 e1 e2 e3
        go_wp2_with fail
        refine HN7.out.mono ?_
        rintro e w7 ⟨ox7, cx7, ax7, rfl, hp7, b7⟩
        have HRa7 := Lib.hid (HR3.out.later b7)
        have HP7 := Lib.hid hp7
        clear hp7 b7 HN7 HR3 HP3
        clear x0 y0 x1 y1 x2 y2 x3 y3 x4 y4
        clear e0 f0 e1 f1 e2 f2 e3 f3
        have x0 := HRa7.out.1.cell 0
        have y0 := HRa7.out.1.free 0
        have x1 := HRa7.out.1.cell 1
        have y1 := HRa7.out.1.free 1
        have x2 := HRa7.out.1.cell 2
        have y2 := HRa7.out.1.free 2
        have x3 := HRa7.out.1.cell 3
        have y3 := HRa7.out.1.free 3
        have x4 := HRa7.out.1.cell 4
        have y4 := HRa7.out.1.free 4
        simp only [List.getElem?_cons_zero, List.getElem?_cons_succ] at x0 x1 x2 x3 x4
        have e0 := HRa7.out.2.2.2.1.cell 0
        have f0 := HRa7.out.2.2.2.1.free 0
        have e1 := HRa7.out.2.2.2.1.cell 1
        have f1 := HRa7.out.2.2.2.1.free 1
        have e2 := HRa7.out.2.2.2.1.cell 2
        have f2 := HRa7.out.2.2.2.1.free 2
        have e3 := HRa7.out.2.2.2.1.cell 3
        have f3 := HRa7.out.2.2.2.1.free 3
        simp only [List.getElem?_cons_zero, List.getElem?_cons_succ] at e0 e1 e2 e3
        go_upto_region 14 with (fail)
        have HR7 : Hid (RB W [.slice q b.length cp, .int .i64 ox7, .int .i64 cx7, .int .i64 ax7, .int .i64 (lv : Nat)] [.slice none 0 0, .int .i64 0, .int .i64 0, .int .i64 0, .int .i64 0] [.int .i64 0, .string ⟨#[]⟩, .string ⟨#[]⟩, .slice none 0 0] [.int .i64 1, .string ⟨#[]⟩, .string (bstr nn), .slice none 0 0] ((((((w7.setCell ⟨W.heap.size, 0, none⟩ (.slice q b.length cp)).setCell ⟨W.heap.size, 1, none⟩ (.int .i64 ox7)).setCell ⟨W.heap.size, 2, none⟩ (.int .i64 cx7)).setCell ⟨W.heap.size, 3, none⟩ (.int .i64 ax7)).setCell ⟨W.heap.size, 4, none⟩ (.int .i64 (lv : Nat))).setCell ⟨W.heap.size + 3, 2, none⟩ (.string (bstr nn)))) := (HRa7.out.pl (.slice q b.length cp) (.int .i64 ox7) (.int .i64 cx7) (.int .i64 ax7) (.int .i64 (lv : Nat))).ce (i := 2) (.string (bstr nn)) (by decide)
        clear x0 y0 x1 y1 x2 y2 x3 y3 x4 y4
        clear e0 f0 e1 f1 e2 f2 e3 f3
        clear HRa7
        generalize ((((((w7.setCell ⟨W.heap.size, 0, none⟩ (.slice q b.length cp)).setCell ⟨W.heap.size, 1, none⟩ (.int .i64 ox7)).setCell ⟨W.heap.size, 2, none⟩ (.int .i64 cx7)).setCell ⟨W.heap.size, 3, none⟩ (.int .i64 ax7)).setCell ⟨W.heap.size, 4, none⟩ (.int .i64 (lv : Nat))).setCell ⟨W.heap.size + 3, 2, none⟩ (.string (bstr nn))) = wz7 at HR7 ⊢
        have x0 := HR7.out.1.cell 0
        have y0 := HR7.out.1.free 0
        have x1 := HR7.out.1.cell 1
        have y1 := HR7.out.1.free 1
        have x2 := HR7.out.1.cell 2
        have y2 := HR7.out.1.free 2
        have x3 := HR7.out.1.cell 3
        have y3 := HR7.out.1.free 3
        have x4 := HR7.out.1.cell 4
        have y4 := HR7.out.1.free 4
        simp only [List.getElem?_cons_zero, List.getElem?_cons_succ] at x0 x1 x2 x3 x4
        go_upto_region 15 with (fail)
        have HR8 : Hid (RB W [.slice q b.length cp, .int .i64 ox7, .int .i64 cx7, .int .i64 ax7, .int .i64 ((lv : Int) + 1)] [.slice none 0 0, .int .i64 0, .int .i64 0, .int .i64 0, .int .i64 0] [.int .i64 0, .string ⟨#[]⟩, .string ⟨#[]⟩, .slice none 0 0] [.int .i64 1, .string ⟨#[]⟩, .string (bstr nn), .slice none 0 0] (wz7.setCell ⟨W.heap.size, 4, none⟩ (.int .i64 ((lv : Int) + 1)))) := HR7.out.cp (i := 4) _ (by decide)
        clear x0 y0 x1 y1 x2 y2 x3 y3 x4 y4
        clear HR7
        generalize wz7.setCell ⟨W.heap.size, 4, none⟩ (.int .i64 ((lv : Int) + 1)) = w8 at HR8 ⊢
        refine wp_region_noPanic ?_
        refine wp_region_held_drew (S := fun W' => Arr W' 59 W.heap.size [.slice q b.length cp, .int .i64 ox7, .int .i64 cx7, .int .i64 ax7, .int .i64 ((lv : Int) + 1)] ∧ Arr W' 42 (W.heap.size + 3) [.int .i64 1, .string ⟨#[]⟩, .string (bstr nn), .slice none 0 0]) (by kernel_rfl) ⟨HR8.out.drew.1, HR8.out.drew.2.2.2.1⟩ (fun hHeld => ?_)
        try simp only [Act.put]
        have HD := Lib.hid HR8.out.drew
        skip
        generalize w8.drew = wd at HD hHeld  ⊢
        refine wpAnyH_take (i := 0) (oi := ⟨some 73, _, _, _, _, _⟩) (v := .agg #[.slice q b.length cp, .int .i64 ox7, .int .i64 cx7, .int .i64 ax7, .int .i64 ((lv : Int) + 1)]) rfl (by kernel_rfl) (by kernel_rfl) (by kernel_rfl) (fun _ _ _ h => h) (.inl ⟨by rfl, fun w' hSw => ?_⟩) hHeld ?_
        focus (have a0 := hSw.1.cell 0; have a1 := hSw.1.cell 1; have a2 := hSw.1.cell 2; have a3 := hSw.1.cell 3; have a4 := hSw.1.cell 4; simp only [List.getElem?_cons_zero, List.getElem?_cons_succ] at a0 a1 a2 a3 a4; clear hHeld; go_simp)
        try simp only [Act.put, List.setIfInBounds_toArray, List.set_cons_zero, List.set_cons_succ]
        refine wpAnyH_take (i := 1) (oi := ⟨some 74, _, _, _, _, _⟩) (v := .agg #[.int .i64 1, .string ⟨#[]⟩, .string (bstr nn), .slice none 0 0]) rfl (by kernel_rfl) (by kernel_rfl) (by kernel_rfl) (fun _ _ _ h => h) (.inl ⟨by rfl, fun w' hSw => ?_⟩) hHeld ?_
        focus (have a0 := hSw.2.cell 0; have a1 := hSw.2.cell 1; have a2 := hSw.2.cell 2; have a3 := hSw.2.cell 3; simp only [List.getElem?_cons_zero, List.getElem?_cons_succ] at a0 a1 a2 a3; clear hHeld; go_simp)
        try simp only [Act.put, List.setIfInBounds_toArray, List.set_cons_zero, List.set_cons_succ]
        refine wpAnyH_ready (rs := [2]) (by kernel_rfl) (by simp) ?_
        refine AllReadyH.cons (o := ⟨none, _, _, _, _, _⟩) rfl (fun K' hK' => ?_) AllReadyH.nil
        have p0 := HD.out.2.1.cell 0
        have z0 := HD.out.2.1.free 0
        have p1 := HD.out.2.1.cell 1
        have z1 := HD.out.2.1.free 1
        have p2 := HD.out.2.1.cell 2
        have z2 := HD.out.2.1.free 2
        have p3 := HD.out.2.1.cell 3
        have z3 := HD.out.2.1.free 3
        have p4 := HD.out.2.1.cell 4
        have z4 := HD.out.2.1.free 4
        simp only [List.getElem?_cons_zero, List.getElem?_cons_succ] at p0 p1 p2 p3 p4
        go_simp
        clear p0 z0 p1 z1 p2 z2 p3 z3 p4 z4
        have HD1 := Lib.hid (HD.out.p4 (.slice q b.length cp) (.int .i64 ox7) (.int .i64 cx7) (.int .i64 ax7) (.int .i64 ((lv : Int) + 1)))
        refine hK'.out _ _ ⟨HD1.out.1, HD1.out.2.2.2.1⟩ (fun _ => ?_)
        clear hK' K' hHeld
        have hHeld := And.intro HD1.out.1 HD1.out.2.2.2.1
        try simp only [Act.put, List.setIfInBounds_toArray, List.set_cons_zero, List.set_cons_succ]
        refine wpAnyH_ready (rs := [3]) (by kernel_rfl) (by simp) ?_
        refine AllReadyH.cons (o := ⟨none, _, _, _, _, _⟩) rfl (fun K' hK' => ?_) AllReadyH.nil
        have g0 := HD1.out.2.2.1.cell 0
        have h0 := HD1.out.2.2.1.free 0
        have g1 := HD1.out.2.2.1.cell 1
        have h1 := HD1.out.2.2.1.free 1
        have g2 := HD1.out.2.2.1.cell 2
        have h2 := HD1.out.2.2.1.free 2
        have g3 := HD1.out.2.2.1.cell 3
        have h3 := HD1.out.2.2.1.free 3
        simp only [List.getElem?_cons_zero, List.getElem?_cons_succ] at g0 g1 g2 g3
        go_simp
        clear g0 h0 g1 h1 g2 h2 g3 h3
        have HD2 := Lib.hid (HD1.out.p5 (.int .i64 1) (.string ⟨#[]⟩) (.string (bstr nn)) (.slice none 0 0))
        refine hK'.out _ _ ⟨HD2.out.1, HD2.out.2.2.2.1⟩ (fun _ => ?_)
        clear hK' K' hHeld
        have hHeld := And.intro HD2.out.1 HD2.out.2.2.2.1
        try simp only [Act.put, List.setIfInBounds_toArray, List.set_cons_zero, List.set_cons_succ]
        refine wpAnyH_done (by kernel_rfl) ?_ _
        refine NoPanic.normal ?_
        go_wp2_with fail
        refine bodyPost_ret (resPX rfl HD2.out.2.1 HD2.out.2.2.1 rfl rfl) rfl ?_
        rw [HE.out]
        exact ⟨_, _, _, _, rfl, HP7.out, VE.leaf _ _ _ _ _, HD2.out.2.2.2.2⟩
    · have x0 := HR1.out.1.cell 0
      have y0 := HR1.out.1.free 0
      have x1 := HR1.out.1.cell 1
      have y1 := HR1.out.1.free 1
      have x2 := HR1.out.1.cell 2
      have y2 := HR1.out.1.free 2
      have x3 := HR1.out.1.cell 3
      have y3 := HR1.out.1.free 3
      have x4 := HR1.out.1.cell 4
      have y4 := HR1.out.1.free 4
      simp only [List.getElem?_cons_zero, List.getElem?_cons_succ] at x0 x1 x2 x3 x4
      have e0 := HR1.out.2.2.2.1.cell 0
      have f0 := HR1.out.2.2.2.1.free 0
      have e1 := HR1.out.2.2.2.1.cell 1
      have f1 := HR1.out.2.2.2.1.free 1
      have e2 := HR1.out.2.2.2.1.cell 2
      have f2 := HR1.out.2.2.2.1.free 2
      have e3 := HR1.out.2.2.2.1.cell 3
      have f3 := HR1.out.2.2.2.1.free 3
      simp only [List.getElem?_cons_zero, List.getElem?_cons_succ] at e0 e1 e2 e3
      go_upto_region 4 with (fail)
      have HR2 := Lib.hid ((HR1.out.pl (.slice q b.length cp) (.int .i64 (o1 : Nat)) (.int .i64 0) (.int .i64 0) (.int .i64 (lv : Nat))).ce (i := 0) (.int .i64 2) (by decide))
      clear x0 y0 x1 y1 x2 y2 x3 y3 x4 y4
      clear e0 f0 e1 f1 e2 f2 e3 f3
      have HR3 : Hid (RB W [.slice q b.length cp, .int .i64 (o1 : Nat), .int .i64 0, .int .i64 0, .int .i64 (lv : Nat)] [.slice none 0 0, .int .i64 0, .int .i64 0, .int .i64 0, .int .i64 0] [.int .i64 0, .string ⟨#[]⟩, .string ⟨#[]⟩, .slice none 0 0] [.int .i64 2, .string ⟨#[]⟩, .string ⟨#[]⟩, .slice none 0 0] ((((((w1.setCell ⟨W.heap.size, 0, none⟩ (.slice q b.length cp)).setCell ⟨W.heap.size, 1, none⟩ (.int .i64 (o1 : Nat))).setCell ⟨W.heap.size, 2, none⟩ (.int .i64 0)).setCell ⟨W.heap.size, 3, none⟩ (.int .i64 0)).setCell ⟨W.heap.size, 4, none⟩ (.int .i64 (lv : Nat))).setCell ⟨W.heap.size + 3, 0, none⟩ (.int .i64 2))) := HR2.out
      clear HR1 HR2
      generalize ((((((w1.setCell ⟨W.heap.size, 0, none⟩ (.slice q b.length cp)).setCell ⟨W.heap.size, 1, none⟩ (.int .i64 (o1 : Nat))).setCell ⟨W.heap.size, 2, none⟩ (.int .i64 0)).setCell ⟨W.heap.size, 3, none⟩ (.int .i64 0)).setCell ⟨W.heap.size, 4, none⟩ (.int .i64 (lv : Nat))).setCell ⟨W.heap.size + 3, 0, none⟩ (.int .i64 2)) = w3 at HR3 ⊢
      by_cases hl32 : lv = 32
      · subst hl32
        have HE : Hid (refC b (d + 1) o 32 = (ex0, .er 15 o, 32)) := HE0.out.trans (topE_go.trans ((if_neg (by omega)).trans (if_pos (by decide))))
        clear HE0 HK5 HKG IH
        have x0 := HR3.out.1.cell 0
        have y0 := HR3.out.1.free 0
        have x1 := HR3.out.1.cell 1
        have y1 := HR3.out.1.free 1
        have x2 := HR3.out.1.cell 2
        have y2 := HR3.out.1.free 2
        have x3 := HR3.out.1.cell 3
        have y3 := HR3.out.1.free 3
        have x4 := HR3.out.1.cell 4
        have y4 := HR3.out.1.free 4
        simp only [List.getElem?_cons_zero, List.getElem?_cons_succ] at x0 x1 x2 x3 x4
        have e0 := HR3.out.2.2.2.1.cell 0
        have f0 := HR3.out.2.2.2.1.free 0
        have e1 := HR3.out.2.2.2.1.cell 1
        have f1 := HR3.out.2.2.2.1.free 1
        have e2 := HR3.out.2.2.2.1.cell 2
        have f2 := HR3.out.2.2.2.1.free 2
        have e3 := HR3.out.2.2.2.1.cell 3
        have f3 := HR3.out.2.2.2.1.free 3
        simp only [List.getElem?_cons_zero, List.getElem?_cons_succ] at e0 e1 e2 e3
        go_wp2_with fail
        refine (pFail15 (b := b) (lv := 32)).mono ?_
        rintro e w4 ⟨rfl, b4⟩
        have HR4 := Lib.hid (HR3.out.later b4)
        clear b4 HR3
        clear x0 y0 x1 y1 x2 y2 x3 y3 x4 y4
        clear e0 f0 e1 f1 e2 f2 e3 f3
        have x0 := HR4.out.1.cell 0
        have y0 := HR4.out.1.free 0
        have x1 := HR4.out.1.cell 1
        have y1 := HR4.out.1.free 1
        have x2 := HR4.out.1.cell 2
        have y2 := HR4.out.1.free 2
        have x3 := HR4.out.1.cell 3
        have y3 := HR4.out.1.free 3
        have x4 := HR4.out.1.cell 4
        have y4 := HR4.out.1.free 4
        simp only [List.getElem?_cons_zero, List.getElem?_cons_succ] at x0 x1 x2 x3 x4
        go_upto_region 8 with (fail)
        have HR5 := Lib.hid (HR4.out.pl (.slice q b.length cp) (.int .i64 (o1 : Nat)) (.int .i64 15) (.int .i64 (o : Nat)) (.int .i64 32))
        clear x0 y0 x1 y1 x2 y2 x3 y3 x4 y4
        clear HR4
        generalize (((((w4.setCell ⟨W.heap.size, 0, none⟩ (.slice q b.length cp)).setCell ⟨W.heap.size, 1, none⟩ (.int .i64 (o1 : Nat))).setCell ⟨W.heap.size, 2, none⟩ (.int .i64 15)).setCell ⟨W.heap.size, 3, none⟩ (.int .i64 (o : Nat))).setCell ⟨W.heap.size, 4, none⟩ (.int .i64 32)) = w5 at HR5 ⊢
        have x0 := HR5.out.1.cell 0
        have y0 := HR5.out.1.free 0
        have x1 := HR5.out.1.cell 1
        have y1 := HR5.out.1.free 1
        have x2 := HR5.out.1.cell 2
        have y2 := HR5.out.1.free 2
        have x3 := HR5.out.1.cell 3
        have y3 := HR5.out.1.free 3
        have x4 := HR5.out.1.cell 4
        have y4 := HR5.out.1.free 4
        simp only [List.getElem?_cons_zero, List.getElem?_cons_succ] at x0 x1 x2 x3 x4
        have p0 := HR5.out.2.1.cell 0
        have z0 := HR5.out.2.1.free 0
        have p1 := HR5.out.2.1.cell 1
        have z1 := HR5.out.2.1.free 1
        have p2 := HR5.out.2.1.cell 2
        have z2 := HR5.out.2.1.free 2
        have p3 := HR5.out.2.1.cell 3
        have z3 := HR5.out.2.1.free 3
        have p4 := HR5.out.2.1.cell 4
        have z4 := HR5.out.2.1.free 4
        simp only [List.getElem?_cons_zero, List.getElem?_cons_succ] at p0 p1 p2 p3 p4
        have g0 := HR5.out.2.2.1.cell 0
        have h0 := HR5.out.2.2.1.free 0
        have g1 := HR5.out.2.2.1.cell 1
        have h1 := HR5.out.2.2.1.free 1
        have g2 := HR5.out.2.2.1.cell 2
        have h2 := HR5.out.2.2.1.free 2
        have g3 := HR5.out.2.2.1.cell 3
        have h3 := HR5.out.2.2.1.free 3
        simp only [List.getElem?_cons_zero, List.getElem?_cons_succ] at g0 g1 g2 g3
        go_wp2_with fail
        have hF := (HR5.out.p4 (.slice q b.length cp) (.int .i64 (o1 : Nat)) (.int .i64 15) (.int .i64 (o : Nat)) (.int .i64 32)).p5 (.int .i64 0) (.string ⟨#[]⟩) (.string ⟨#[]⟩) (.slice none 0 0)
        refine bodyPost_ret (resPX rfl hF.2.1 hF.2.2.1 rfl rfl) rfl ?_
        rw [HE.out]
        exact ⟨_, _, _, _, rfl, PI.of_er HOL1.out (by decide), VE.leaf _ _ _ _ _, hF.2.2.2.2⟩
      · have hlv : ¬ (lv : Int) = 32 := by omega
        have HE : Hid (refC b (d + 1) o lv = leafC b 2 (.go o1) lv) := (HE0.out.trans (topE_go.trans ((if_neg (by omega)).trans (if_neg (by omega))))).trans (if_pos (by decide))
        clear HE0 HK5 HKG IH
        have hl31 : lv ≤ 31 := by have := HLV.out; omega
        have HL31 := Lib.hid hl31
        have hlb : ((lv : Int) == 32) = false := by rw [beq_eq_false_iff_ne]; omega
        have hwl : wrap64 ((lv : Int) + 1) = (lv : Int) + 1 := by unfold wrap64; omega
        clear hl31
        have HP3 := Lib.hid (PI.of_go (b := b) HOL1.out)
        have HE : Hid (refC b (d + 1) o lv = (.mk 2 (nameC b false (.go o1)).1 (nameC b false (nameC b false (.go o1)).2).1 [], (nameC b false (nameC b false (.go o1)).2).2, lv + 1)) := HE.out.trans (if_pos rfl)
        obtain ⟨nv, hnv⟩ : ∃ x, x = (nameC b false (.go o1)).1 := ⟨_, rfl⟩
        obtain ⟨s5, hs5⟩ : ∃ x, x = (nameC b false (.go o1)).2 := ⟨_, rfl⟩
        have HN5 := Lib.hid (pName (lv := lv) ((HRD.out.below HR3.out.2.2.2.2 (Nat.le_refl _)).mono HR3.out.2.2.2.2.size) HP3.out HBL.out)
        rw [← hnv, ← hs5] at HN5
        rw [← hnv, ← hs5] at HE
        clear hnv hs5
        have x0 := HR3.out.1.cell 0
        have y0 := HR3.out.1.free 0
        have x1 := HR3.out.1.cell 1
        have y1 := HR3.out.1.free 1
        have x2 := HR3.out.1.cell 2
        have y2 := HR3.out.1.free 2
        have x3 := HR3.out.1.cell 3
        have y3 := HR3.out.1.free 3
        have x4 := HR3.out.1.cell 4
        have y4 := HR3.out.1.free 4
        simp only [List.getElem?_cons_zero, List.getElem?_cons_succ] at x0 x1 x2 x3 x4
        have e0 := HR3.out.2.2.2.1.cell 0
        have f0 := HR3.out.2.2.2.1.free 0
        have e1 := HR3.out.2.2.2.1.cell 1
        have f1 := HR3.out.2.2.2.1.free 1
        have e2 := HR3.out.2.2.2.1.cell 2
        have f2 := HR3.out.2.2.2.1.free 2
        have e3 := HR3.out.2.2.2.1.cell 3
        have f3 := HR3.out.2.2.2.1.free 3
        simp only [List.getElem?_cons_zero, List.getElem?_cons_succ] at e0 e1 e2 e3
        go_wp2_with fail
        refine HN5.out.mono ?_
        rintro e w5 ⟨ox5, cx5, ax5, rfl, hp5, b5⟩
        have HRa5 := Lib.hid (HR3.out.later b5)
        have HP5 := Lib.hid hp5
        clear hp5 b5 HN5 HR3 HP3
        clear x0 y0 x1 y1 x2 y2 x3 y3 x4 y4
        clear e0 f0 e1 f1 e2 f2 e3 f3
        have x0 := HRa5.out.1.cell 0
        have y0 := HRa5.out.1.free 0
        have x1 := HRa5.out.1.cell 1
        have y1 := HRa5.out.1.free 1
        have x2 := HRa5.out.1.cell 2
        have y2 := HRa5.out.1.free 2
        have x3 := HRa5.out.1.cell 3
        have y3 := HRa5.out.1.free 3
        have x4 := HRa5.out.1.cell 4
        have y4 := HRa5.out.1.free 4
        simp only [List.getElem?_cons_zero, List.getElem?_cons_succ] at x0 x1 x2 x3 x4
        have e0 := HRa5.out.2.2.2.1.cell 0
        have f0 := HRa5.out.2.2.2.1.free 0
        have e1 := HRa5.out.2.2.2.1.cell 1
        have f1 := HRa5.out.2.2.2.1.free 1
        have e2 := HRa5.out.2.2.2.1.cell 2
        have f2 := HRa5.out.2.2.2.1.free 2
        have e3 := HRa5.out.2.2.2.1.cell 3
        have f3 := HRa5.out.2.2.2.1.free 3
        simp only [List.getElem?_cons_zero, List.getElem?_cons_succ] at e0 e1 e2 e3
        go_upto_region 12 with (fail)
        have HR5 : Hid (RB W [.slice q b.length cp, .int .i64 ox5, .int .i64 cx5, .int .i64 ax5, .int .i64 (lv : Nat)] [.slice none 0 0, .int .i64 0, .int .i64 0, .int .i64 0, .int .i64 0] [.int .i64 0, .string ⟨#[]⟩, .string ⟨#[]⟩, .slice none 0 0] [.int .i64 2, .string (bstr nv), .string ⟨#[]⟩, .slice none 0 0] ((((((w5.setCell ⟨W.heap.size, 0, none⟩ (.slice q b.length cp)).setCell ⟨W.heap.size, 1, none⟩ (.int .i64 ox5)).setCell ⟨W.heap.size, 2, none⟩ (.int .i64 cx5)).setCell ⟨W.heap.size, 3, none⟩ (.int .i64 ax5)).setCell ⟨W.heap.size, 4, none⟩ (.int .i64 (lv : Nat))).setCell ⟨W.heap.size + 3, 1, none⟩ (.string (bstr nv)))) := (HRa5.out.pl (.slice q b.length cp) (.int .i64 ox5) (.int .i64 cx5) (.int .i64 ax5) (.int .i64 (lv : Nat))).ce (i := 1) (.string (bstr nv)) (by decide)
        clear x0 y0 x1 y1 x2 y2 x3 y3 x4 y4
        clear e0 f0 e1 f1 e2 f2 e3 f3
        clear HRa5
        generalize ((((((w5.setCell ⟨W.heap.size, 0, none⟩ (.slice q b.length cp)).setCell ⟨W.heap.size, 1, none⟩ (.int .i64 ox5)).setCell ⟨W.heap.size, 2, none⟩ (.int .i64 cx5)).setCell ⟨W.heap.size, 3, none⟩ (.int .i64 ax5)).setCell ⟨W.heap.size, 4, none⟩ (.int .i64 (lv : Nat))).setCell ⟨W.heap.size + 3, 1, none⟩ (.string (bstr nv))) = wz5 at HR5 ⊢
        obtain ⟨nn, hnn⟩ : ∃ x, x = (nameC b false s5).1 := ⟨_, rfl⟩
        obtain ⟨s7, hs7⟩ : ∃ x, x = (nameC b false s5).2 := ⟨_, rfl⟩
        have HN7 := Lib.hid (pName (lv := lv) ((HRD.out.below HR5.out.2.2.2.2 (Nat.le_refl _)).mono HR5.out.2.2.2.2.size) HP5.out HBL.out)
        rw [← hnn, ← hs7] at HN7
        rw [← hnn, ← hs7] at HE
        clear hnn hs7
        have x0 := HR5.out.1.cell 0
        have y0 := HR5.out.1.free 0
        have x1 := HR5.out.1.cell 1
        have y1 := HR5.out.1.free 1
        have x2 := HR5.out.1.cell 2
        have y2 := HR5.out.1.free 2
        have x3 := HR5.out.1.cell 3
        have y3 := HR5.out.1.free 3
        have x4 := HR5.out.1.cell 4
        have y4 := HR5.out.1.free 4
        simp only [List.getElem?_cons_zero, List.getElem?_cons_succ] at x0 x1 x2 x3 x4
        have e0 := HR5.out.2.2.2.1.cell 0
        have f0 := HR5.out.2.2.2.1.free 0
        have e1 := HR5.out.2.2.2.1.cell 1
        have f1 := HR5.out.2.2.2.1.free 1
        have e2 := HR5.out.2.2.2.1.cell 2
        have f2 := HR5.out.2.2.2.1.free 2
        have e3 := HR5.out.2.2.2.1.cell 3
        have f3 := HR5.out.2.2.2.1.free 3
        simp only [List.getElem?_cons_zero, List.getElem?_cons_succ] at e0 e1 e2 e3
        go_wp2_with fail
        refine HN7.out.mono ?_
        rintro e w7 ⟨ox7, cx7, ax7, rfl, hp7, b7⟩
        have HRa7 := Lib.hid (HR5.out.later b7)
        have HP7 := Lib.hid hp7
        clear hp7 b7 HN7 HR5 HP5
        clear x0 y0 x1 y1 x2 y2 x3 y3 x4 y4
        clear e0 f0 e1 f1 e2 f2 e3 f3
        have x0 := HRa7.out.1.cell 0
        have y0 := HRa7.out.1.free 0
        have x1 := HRa7.out.1.cell 1
        have y1 := HRa7.out.1.free 1
        have x2 := HRa7.out.1.cell 2
        have y2 := HRa7.out.1.free 2
        have x3 := HRa7.out.1.cell 3
        have y3 := HRa7.out.1.free 3
        have x4 := HRa7.out.1.cell 4
        have y4 := HRa7.out.1.free 4
        simp only [List.getElem?_cons_zero, List.getElem?_cons_succ] at x0 x1 x2 x3 x4
        have e0 := HRa7.out.2.2.2.1.cell 0
        have f0 := HRa7.out.2.2.2.1.free 0
        have e1 := HRa7.out.2.2.2.1.cell 1
        have f1 := HRa7.out.2.2.2.1.free 1
        have e2 := HRa7.out.2.2.2.1.cell 2
        have f2 := HRa7.out.2.2.2.1.free 2
        have e3 := HRa7.out.2.2.2.1.cell 3
        have f3 := HRa7.out.2.2.2.1.free 3
        simp only [List.getElem?_cons_zero, List.getElem?_cons_succ] at e0 e1 e2 e3
        go_upto_region 14 with (fail)
        have HR7 : Hid (RB W [.slice q b.length cp, .int .i64 ox7, .int .i64 cx7, .int .i64 ax7, .int .i64 (lv : Nat)] [.slice none 0 0, .int .i64 0, .int .i64 0, .int .i64 0, .int .i64 0] [.int .i64 0, .string ⟨#[]⟩, .string ⟨#[]⟩, .slice none 0 0] [.int .i64 2, .string (bstr nv), .string (bstr nn), .slice none 0 0] ((((((w7.setCell ⟨W.heap.size, 0, none⟩ (.slice q b.length cp)).setCell ⟨W.heap.size, 1, none⟩ (.int .i64 ox7)).setCell ⟨W.heap.size, 2, none⟩ (.int .i64 cx7)).setCell ⟨W.heap.size, 3, none⟩ (.int .i64 ax7)).setCell ⟨W.heap.size, 4, none⟩ (.int .i64 (lv : Nat))).setCell ⟨W.heap.size + 3, 2, none⟩ (.string (bstr nn)))) := (HRa7.out.pl (.slice q b.length cp) (.int .i64 ox7) (.int .i64 cx7) (.int .i64 ax7) (.int .i64 (lv : Nat))).ce (i := 2) (.string (bstr nn)) (by decide)
        clear x0 y0 x1 y1 x2 y2 x3 y3 x4 y4
        clear e0 f0 e1 f1 e2 f2 e3 f3
        clear HRa7
        generalize ((((((w7.setCell ⟨W.heap.size, 0, none⟩ (.slice q b.length cp)).setCell ⟨W.heap.size, 1, none⟩ (.int .i64 ox7)).setCell ⟨W.heap.size, 2, none⟩ (.int .i64 cx7)).setCell ⟨W.heap.size, 3, none⟩ (.int .i64 ax7)).setCell ⟨W.heap.size, 4, none⟩ (.int .i64 (lv : Nat))).setCell ⟨W.heap.size + 3, 2, none⟩ (.string (bstr nn))) = wz7 at HR7 ⊢
        have x0 := HR7.out.1.cell 0
        have y0 := HR7.out.1.free 0
        have x1 := HR7.out.1.cell 1
        have y1 := HR7.out.1.free 1
        have x2 := HR7.out.1.cell 2
        have y2 := HR7.out.1.free 2
        have x3 := HR7.out.1.cell 3
        have y3 := HR7.out.1.free 3
        have x4 := HR7.out.1.cell 4
        have y4 := HR7.out.1.free 4
        simp only [List.getElem?_cons_zero, List.getElem?_cons_succ] at x0 x1 x2 x3 x4
        go_upto_region 15 with (fail)
        have HR8 : Hid (RB W [.slice q b.length cp, .int .i64 ox7, .int .i64 cx7, .int .i64 ax7, .int .i64 ((lv : Int) + 1)] [.slice none 0 0, .int .i64 0, .int .i64 0, .int .i64 0, .int .i64 0] [.int .i64 0, .string ⟨#[]⟩, .string ⟨#[]⟩, .slice none 0 0] [.int .i64 2, .string (bstr nv), .string (bstr nn), .slice none 0 0] (wz7.setCell ⟨W.heap.size, 4, none⟩ (.int .i64 ((lv : Int) + 1)))) := HR7.out.cp (i := 4) _ (by decide)
        clear x0 y0 x1 y1 x2 y2 x3 y3 x4 y4
        clear HR7
        generalize wz7.setCell ⟨W.heap.size, 4, none⟩ (.int .i64 ((lv : Int) + 1)) = w8 at HR8 ⊢
        refine wp_region_noPanic ?_
        refine wp_region_held_drew (S := fun W' => Arr W' 59 W.heap.size [.slice q b.length cp, .int .i64 ox7, .int .i64 cx7, .int .i64 ax7, .int .i64 ((lv : Int) + 1)] ∧ Arr W' 42 (W.heap.size + 3) [.int .i64 2, .string (bstr nv), .string (bstr nn), .slice none 0 0]) (by kernel_rfl) ⟨HR8.out.drew.1, HR8.out.drew.2.2.2.1⟩ (fun hHeld => ?_)
        try simp only [Act.put]
        have HD := Lib.hid HR8.out.drew
        skip
        generalize w8.drew = wd at HD hHeld  ⊢
        refine wpAnyH_take (i := 0) (oi := ⟨some 73, _, _, _, _, _⟩) (v := .agg #[.slice q b.length cp, .int .i64 ox7, .int .i64 cx7, .int .i64 ax7, .int .i64 ((lv : Int) + 1)]) rfl (by kernel_rfl) (by kernel_rfl) (by kernel_rfl) (fun _ _ _ h => h) (.inl ⟨by rfl, fun w' hSw => ?_⟩) hHeld ?_
        focus (have a0 := hSw.1.cell 0; have a1 := hSw.1.cell 1; have a2 := hSw.1.cell 2; have a3 := hSw.1.cell 3; have a4 := hSw.1.cell 4; simp only [List.getElem?_cons_zero, List.getElem?_cons_succ] at a0 a1 a2 a3 a4; clear hHeld; go_simp)
        try simp only [Act.put, List.setIfInBounds_toArray, List.set_cons_zero, List.set_cons_succ]
        refine wpAnyH_take (i := 1) (oi := ⟨some 74, _, _, _, _, _⟩) (v := .agg #[.int .i64 2, .string (bstr nv), .string (bstr nn), .slice none 0 0]) rfl (by kernel_rfl) (by kernel_rfl) (by kernel_rfl) (fun _ _ _ h => h) (.inl ⟨by rfl, fun w' hSw => ?_⟩) hHeld ?_
        focus (have a0 := hSw.2.cell 0; have a1 := hSw.2.cell 1; have a2 := hSw.2.cell 2; have a3 := hSw.2.cell 3; simp only [List.getElem?_cons_zero, List.getElem?_cons_succ] at a0 a1 a2 a3; clear hHeld; go_simp)
        try simp only [Act.put, List.setIfInBounds_toArray, List.set_cons_zero, List.set_cons_succ]
        refine wpAnyH_ready (rs := [2]) (by kernel_rfl) (by simp) ?_
        refine AllReadyH.cons (o := ⟨none, _, _, _, _, _⟩) rfl (fun K' hK' => ?_) AllReadyH.nil
        have p0 := HD.out.2.1.cell 0
        have z0 := HD.out.2.1.free 0
        have p1 := HD.out.2.1.cell 1
        have z1 := HD.out.2.1.free 1
        have p2 := HD.out.2.1.cell 2
        have z2 := HD.out.2.1.free 2
        have p3 := HD.out.2.1.cell 3
        have z3 := HD.out.2.1.free 3
        have p4 := HD.out.2.1.cell 4
        have z4 := HD.out.2.1.free 4
        simp only [List.getElem?_cons_zero, List.getElem?_cons_succ] at p0 p1 p2 p3 p4
        go_simp
        clear p0 z0 p1 z1 p2 z2 p3 z3 p4 z4
        have HD1 := Lib.hid (HD.out.p4 (.slice q b.length cp) (.int .i64 ox7) (.int .i64 cx7) (.int .i64 ax7) (.int .i64 ((lv : Int) + 1)))
        refine hK'.out _ _ ⟨HD1.out.1, HD1.out.2.2.2.1⟩ (fun _ => ?_)
        clear hK' K' hHeld
        have hHeld := And.intro HD1.out.1 HD1.out.2.2.2.1
        try simp only [Act.put, List.setIfInBounds_toArray, List.set_cons_zero, List.set_cons_succ]
        refine wpAnyH_ready (rs := [3]) (by kernel_rfl) (by simp) ?_
        refine AllReadyH.cons (o := ⟨none, _, _, _, _, _⟩) rfl (fun K' hK' => ?_) AllReadyH.nil
        have g0 := HD1.out.2.2.1.cell 0
        have h0 := HD1.out.2.2.1.free 0
        have g1 := HD1.out.2.2.1.cell 1
        have h1 := HD1.out.2.2.1.free 1
        have g2 := HD1.out.2.2.1.cell 2
        have h2 := HD1.out.2.2.1.free 2
        have g3 := HD1.out.2.2.1.cell 3
        have h3 := HD1.out.2.2.1.free 3
        simp only [List.getElem?_cons_zero, List.getElem?_cons_succ] at g0 g1 g2 g3
        go_simp
        clear g0 h0 g1 h1 g2 h2 g3 h3
        have HD2 := Lib.hid (HD1.out.p5 (.int .i64 2) (.string (bstr nv)) (.string (bstr nn)) (.slice none 0 0))
        refine hK'.out _ _ ⟨HD2.out.1, HD2.out.2.2.2.1⟩ (fun _ => ?_)
        clear hK' K' hHeld
        have hHeld := And.intro HD2.out.1 HD2.out.2.2.2.1
        try simp only [Act.put, List.setIfInBounds_toArray, List.set_cons_zero, List.set_cons_succ]
        refine wpAnyH_done (by kernel_rfl) ?_ _
        refine NoPanic.normal ?_
        go_wp2_with fail
        refine bodyPost_ret (resPX rfl HD2.out.2.1 HD2.out.2.2.1 rfl rfl) rfl ?_
        rw [HE.out]
        exact ⟨_, _, _, _, rfl, HP7.out, VE.leaf _ _ _ _ _, HD2.out.2.2.2.2⟩
    · have x0 := HR1.out.1.cell 0
      have y0 := HR1.out.1.free 0
      have x1 := HR1.out.1.cell 1
      have y1 := HR1.out.1.free 1
      have x2 := HR1.out.1.cell 2
      have y2 := HR1.out.1.free 2
      have x3 := HR1.out.1.cell 3
      have y3 := HR1.out.1.free 3
      have x4 := HR1.out.1.cell 4
      have y4 := HR1.out.1.free 4
      simp only [List.getElem?_cons_zero, List.getElem?_cons_succ] at x0 x1 x2 x3 x4
      have e0 := HR1.out.2.2.2.1.cell 0
      have f0 := HR1.out.2.2.2.1.free 0
      have e1 := HR1.out.2.2.2.1.cell 1
      have f1 := HR1.out.2.2.2.1.free 1
      have e2 := HR1.out.2.2.2.1.cell 2
      have f2 := HR1.out.2.2.2.1.free 2
      have e3 := HR1.out.2.2.2.1.cell 3
      have f3 := HR1.out.2.2.2.1.free 3
      simp only [List.getElem?_cons_zero, List.getElem?_cons_succ] at e0 e1 e2 e3
      go_upto_region 4 with (fail)
      have HR2 := Lib.hid ((HR1.out.pl (.slice q b.length cp) (.int .i64 (o1 : Nat)) (.int .i64 0) (.int .i64 0) (.int .i64 (lv : Nat))).ce (i := 0) (.int .i64 3) (by decide))
      clear x0 y0 x1 y1 x2 y2 x3 y3 x4 y4
      clear e0 f0 e1 f1 e2 f2 e3 f3
      have HR3 : Hid (RB W [.slice q b.length cp, .int .i64 (o1 : Nat), .int .i64 0, .int .i64 0, .int .i64 (lv : Nat)] [.slice none 0 0, .int .i64 0, .int .i64 0, .int .i64 0, .int .i64 0] [.int .i64 0, .string ⟨#[]⟩, .string ⟨#[]⟩, .slice none 0 0] [.int .i64 3, .string ⟨#[]⟩, .string ⟨#[]⟩, .slice none 0 0] ((((((w1.setCell ⟨W.heap.size, 0, none⟩ (.slice q b.length cp)).setCell ⟨W.heap.size, 1, none⟩ (.int .i64 (o1 : Nat))).setCell ⟨W.heap.size, 2, none⟩ (.int .i64 0)).setCell ⟨W.heap.size, 3, none⟩ (.int .i64 0)).setCell ⟨W.heap.size, 4, none⟩ (.int .i64 (lv : Nat))).setCell ⟨W.heap.size + 3, 0, none⟩ (.int .i64 3))) := HR2.out
      clear HR1 HR2
      generalize ((((((w1.setCell ⟨W.heap.size, 0, none⟩ (.slice q b.length cp)).setCell ⟨W.heap.size, 1, none⟩ (.int .i64 (o1 : Nat))).setCell ⟨W.heap.size, 2, none⟩ (.int .i64 0)).setCell ⟨W.heap.size, 3, none⟩ (.int .i64 0)).setCell ⟨W.heap.size, 4, none⟩ (.int .i64 (lv : Nat))).setCell ⟨W.heap.size + 3, 0, none⟩ (.int .i64 3)) = w3 at HR3 ⊢
      clear HK5 HKG
      obtain ⟨n, hn⟩ : ∃ x, x = (numC b (chkR 2 32 15) (.go o1)).1 := ⟨_, rfl⟩
      obtain ⟨s5, hs5⟩ : ∃ x, x = (numC b (chkR 2 32 15) (.go o1)).2 := ⟨_, rfl⟩
      have HNN : Hid (n ≤ 32) := by rw [hn]; exact numC_le (fun x hx => (chkC_0 hx).2) _
      have HN5 := Lib.hid (pNum2 (lv := lv) ((HRD.out.below HR3.out.2.2.2.2 (Nat.le_refl _)).mono HR3.out.2.2.2.2.size) (PI.of_go HOL1.out) HBL.out)
      have HE1 : Hid (refC b (d + 1) o lv = (.mk 3 [] [] (loopE (refC b d) (n - 0) [] s5 lv).1, (loopE (refC b d) (n - 0) [] s5 lv).2)) := by
        show _ = _
        rw [HE0.out.trans (topE_go.trans ((if_neg (by omega)).trans (if_neg (by omega)))), hn, hs5]; rfl
      rw [← hn, ← hs5] at HN5
      clear hn hs5 HE0
      have x0 := HR3.out.1.cell 0
      have y0 := HR3.out.1.free 0
      have x1 := HR3.out.1.cell 1
      have y1 := HR3.out.1.free 1
      have x2 := HR3.out.1.cell 2
      have y2 := HR3.out.1.free 2
      have x3 := HR3.out.1.cell 3
      have y3 := HR3.out.1.free 3
      have x4 := HR3.out.1.cell 4
      have y4 := HR3.out.1.free 4
      simp only [List.getElem?_cons_zero, List.getElem?_cons_succ] at x0 x1 x2 x3 x4
      have e0 := HR3.out.2.2.2.1.cell 0
      have f0 := HR3.out.2.2.2.1.free 0
      have e1 := HR3.out.2.2.2.1.cell 1
      have f1 := HR3.out.2.2.2.1.free 1
      have e2 := HR3.out.2.2.2.1.cell 2
      have f2 := HR3.out.2.2.2.1.free 2
      have e3 := HR3.out.2.2.2.1.cell 3
      have f3 := HR3.out.2.2.2.1.free 3
      simp only [List.getElem?_cons_zero, List.getElem?_cons_succ] at e0 e1 e2 e3
      go_wp2_with fail
      refine HN5.out.mono ?_
      rintro e w5 ⟨ox5, cx5, ax5, rfl, hp5, b5⟩
      have HRa5 := Lib.hid (HR3.out.later b5)
      have HP5 := Lib.hid hp5
      clear hp5 b5 HN5 HR3
      clear x0 y0 x1 y1 x2 y2 x3 y3 x4 y4
      clear e0 f0 e1 f1 e2 f2 e3 f3
      have x0 := HRa5.out.1.cell 0
      have y0 := HRa5.out.1.free 0
      have x1 := HRa5.out.1.cell 1
      have y1 := HRa5.out.1.free 1
      have x2 := HRa5.out.1.cell 2
      have y2 := HRa5.out.1.free 2
      have x3 := HRa5.out.1.cell 3
      have y3 := HRa5.out.1.free 3
      have x4 := HRa5.out.1.cell 4
      have y4 := HRa5.out.1.free 4
      simp only [List.getElem?_cons_zero, List.getElem?_cons_succ] at x0 x1 x2 x3 x4
      go_upto_region 19 with (fail)
      have HR5 : Hid (RB W [.slice q b.length cp, .int .i64 ox5, .int .i64 cx5, .int .i64 ax5, .int .i64 (lv : Nat)] [.slice none 0 0, .int .i64 0, .int .i64 0, .int .i64 0, .int .i64 0] [.int .i64 0, .string ⟨#[]⟩, .string ⟨#[]⟩, .slice none 0 0] [.int .i64 3, .string ⟨#[]⟩, .string ⟨#[]⟩, .slice none 0 0] (((((w5.setCell ⟨W.heap.size, 0, none⟩ (.slice q b.length cp)).setCell ⟨W.heap.size, 1, none⟩ (.int .i64 ox5)).setCell ⟨W.heap.size, 2, none⟩ (.int .i64 cx5)).setCell ⟨W.heap.size, 3, none⟩ (.int .i64 ax5)).setCell ⟨W.heap.size, 4, none⟩ (.int .i64 (lv : Nat)))) := HRa5.out.pl (.slice q b.length cp) (.int .i64 ox5) (.int .i64 cx5) (.int .i64 ax5) (.int .i64 (lv : Nat))
      clear x0 y0 x1 y1 x2 y2 x3 y3 x4 y4
      clear HRa5
      generalize (((((w5.setCell ⟨W.heap.size, 0, none⟩ (.slice q b.length cp)).setCell ⟨W.heap.size, 1, none⟩ (.int .i64 ox5)).setCell ⟨W.heap.size, 2, none⟩ (.int .i64 cx5)).setCell ⟨W.heap.size, 3, none⟩ (.int .i64 ax5)).setCell ⟨W.heap.size, 4, none⟩ (.int .i64 (lv : Nat))) = wz5 at HR5 ⊢
      go_wp2_with fail
      go_loopw [9] (fun iv wr => ∃ (i : Nat) (acc : List Ex) (s6 : St) (ox6 cx6 ax6 : Int) (lv6 : Nat) (q6 : Option Addr) (c6 : Nat), i ≤ n ∧ iv = .int .i64 (i : Nat) ∧ Hid (acc.length = i) ∧ Hid (PRow kdEx (W.heap.size + 4) (fun _ => False) wr (.slice q6 acc.length c6) acc) ∧ Hid (RB W [.slice q b.length cp, .int .i64 ox6, .int .i64 cx6, .int .i64 ax6, .int .i64 (lv6 : Nat)] [.slice none 0 0, .int .i64 0, .int .i64 0, .int .i64 0, .int .i64 0] [.int .i64 0, .string ⟨#[]⟩, .string ⟨#[]⟩, .slice none 0 0] [.int .i64 3, .string ⟨#[]⟩, .string ⟨#[]⟩, .slice q6 acc.length c6] wr) ∧ Hid (PI b s6 ox6 cx6 ax6) ∧ Hid (lv6 ≤ 32) ∧ Hid (refC b (d + 1) o lv = (.mk 3 [] [] (loopE (refC b d) (n - i) acc s6 lv6).1, (loopE (refC b d) (n - i) acc s6 lv6).2))) (fun iv _ => n - (intOf iv).toNat)
      case atStart => exact ⟨0, [], s5, ox5, cx5, ax5, lv, none, 0, Nat.zero_le _, rfl, rfl, PRow.nil _ _ _ _, HR5, HP5, HLV, HE1⟩
      case round =>
        obtain ⟨i, acc, s6, ox6, cx6, ax6, lv6, q6, c6, hi, rfl, HLEN, HRW6, HR6, HP6, HL6, HE6⟩ := hrel
        by_cases hlt : i < n
        · cases s6 with
          | er c a =>
            have hlt' : (i : Int) < n := by omega
            have hcx := HP6.out.er
            have hc2 : (cx6 == 0) = false := by simpa using hcx
            have HEN : Hid (refC b (d + 1) o lv = (.mk 3 [] [] acc, .er c a, lv6)) := by
              show _ = _
              rw [HE6.out, loopE_er]
            clear HE6 IH hlt
            have x0 := HR6.out.1.cell 0
            have y0 := HR6.out.1.free 0
            have x1 := HR6.out.1.cell 1
            have y1 := HR6.out.1.free 1
            have x2 := HR6.out.1.cell 2
            have y2 := HR6.out.1.free 2
            have x3 := HR6.out.1.cell 3
            have y3 := HR6.out.1.free 3
            have x4 := HR6.out.1.cell 4
            have y4 := HR6.out.1.free 4
            simp only [List.getElem?_cons_zero, List.getElem?_cons_succ] at x0 x1 x2 x3 x4
            go_upto_region 25 with (fail)
            clear x0 y0 x1 y1 x2 y2 x3 y3 x4 y4
            refine wp_region_noPanic ?_
            refine wp_region_held_drew (S := fun W' => Arr W' 59 W.heap.size [.slice q b.length cp, .int .i64 ox6, .int .i64 cx6, .int .i64 ax6, .int .i64 (lv6 : Nat)] ∧ Arr W' 42 (W.heap.size + 3) [.int .i64 3, .string ⟨#[]⟩, .string ⟨#[]⟩, .slice q6 acc.length c6]) (by kernel_rfl) ⟨HR6.out.drew.1, HR6.out.drew.2.2.2.1⟩ (fun hHeld => ?_)
            try simp only [Act.put]
            have HD := Lib.hid HR6.out.drew
            have HWD := Lib.hid (HRW6.out.later (Below.refl _ _).drew)
            generalize wr.drew = wd at HD hHeld HWD ⊢
            refine wpAnyH_take (i := 0) (oi := ⟨some 107, _, _, _, _, _⟩) (v := .agg #[.slice q b.length cp, .int .i64 ox6, .int .i64 cx6, .int .i64 ax6, .int .i64 (lv6 : Nat)]) rfl (by kernel_rfl) (by kernel_rfl) (by kernel_rfl) (fun _ _ _ h => h) (.inl ⟨by rfl, fun w' hSw => ?_⟩) hHeld ?_
            focus (have a0 := hSw.1.cell 0; have a1 := hSw.1.cell 1; have a2 := hSw.1.cell 2; have a3 := hSw.1.cell 3; have a4 := hSw.1.cell 4; simp only [List.getElem?_cons_zero, List.getElem?_cons_succ] at a0 a1 a2 a3 a4; clear hHeld; go_simp)
            try simp only [Act.put, List.setIfInBounds_toArray, List.set_cons_zero, List.set_cons_succ]
            refine wpAnyH_take (i := 1) (oi := ⟨some 108, _, _, _, _, _⟩) (v := .agg #[.int .i64 3, .string ⟨#[]⟩, .string ⟨#[]⟩, .slice q6 acc.length c6]) rfl (by kernel_rfl) (by kernel_rfl) (by kernel_rfl) (fun _ _ _ h => h) (.inl ⟨by rfl, fun w' hSw => ?_⟩) hHeld ?_
            focus (have a0 := hSw.2.cell 0; have a1 := hSw.2.cell 1; have a2 := hSw.2.cell 2; have a3 := hSw.2.cell 3; simp only [List.getElem?_cons_zero, List.getElem?_cons_succ] at a0 a1 a2 a3; clear hHeld; go_simp)
            try simp only [Act.put, List.setIfInBounds_toArray, List.set_cons_zero, List.set_cons_succ]
            refine wpAnyH_ready (rs := [2]) (by kernel_rfl) (by simp) ?_
            refine AllReadyH.cons (o := ⟨none, _, _, _, _, _⟩) rfl (fun K' hK' => ?_) AllReadyH.nil
            have p0 := HD.out.2.1.cell 0
            have z0 := HD.out.2.1.free 0
            have p1 := HD.out.2.1.cell 1
            have z1 := HD.out.2.1.free 1
            have p2 := HD.out.2.1.cell 2
            have z2 := HD.out.2.1.free 2
            have p3 := HD.out.2.1.cell 3
            have z3 := HD.out.2.1.free 3
            have p4 := HD.out.2.1.cell 4
            have z4 := HD.out.2.1.free 4
            simp only [List.getElem?_cons_zero, List.getElem?_cons_succ] at p0 p1 p2 p3 p4
            go_simp
            clear p0 z0 p1 z1 p2 z2 p3 z3 p4 z4
            have HD1 := Lib.hid (HD.out.p4 (.slice q b.length cp) (.int .i64 ox6) (.int .i64 cx6) (.int .i64 ax6) (.int .i64 (lv6 : Nat)))
            refine hK'.out _ _ ⟨HD1.out.1, HD1.out.2.2.2.1⟩ (fun _ => ?_)
            clear hK' K' hHeld
            have hHeld := And.intro HD1.out.1 HD1.out.2.2.2.1
            try simp only [Act.put, List.setIfInBounds_toArray, List.set_cons_zero, List.set_cons_succ]
            refine wpAnyH_ready (rs := [3]) (by kernel_rfl) (by simp) ?_
            refine AllReadyH.cons (o := ⟨none, _, _, _, _, _⟩) rfl (fun K' hK' => ?_) AllReadyH.nil
            have g0 := HD1.out.2.2.1.cell 0
            have h0 := HD1.out.2.2.1.free 0
            have g1 := HD1.out.2.2.1.cell 1
            have h1 := HD1.out.2.2.1.free 1
            have g2 := HD1.out.2.2.1.cell 2
            have h2 := HD1.out.2.2.1.free 2
            have g3 := HD1.out.2.2.1.cell 3
            have h3 := HD1.out.2.2.1.free 3
            simp only [List.getElem?_cons_zero, List.getElem?_cons_succ] at g0 g1 g2 g3
            go_simp
            clear g0 h0 g1 h1 g2 h2 g3 h3
            have HD2 := Lib.hid (HD1.out.p5 (.int .i64 3) (.string ⟨#[]⟩) (.string ⟨#[]⟩) (.slice q6 acc.length c6))
            refine hK'.out _ _ ⟨HD2.out.1, HD2.out.2.2.2.1⟩ (fun _ => ?_)
            clear hK' K' hHeld
            have hHeld := And.intro HD2.out.1 HD2.out.2.2.2.1
            try simp only [Act.put, List.setIfInBounds_toArray, List.set_cons_zero, List.set_cons_succ]
            refine wpAnyH_done (by kernel_rfl) ?_ _
            refine NoPanic.normal ?_
            have HWF := Lib.hid ((HWD.out.box5 (g := W.heap.size + 1) (by omega) (.slice q b.length cp) (.int .i64 ox6) (.int .i64 cx6) (.int .i64 ax6) (.int .i64 (lv6 : Nat))).box4 (g := W.heap.size + 2) (by omega) (.int .i64 3) (.string ⟨#[]⟩) (.string ⟨#[]⟩) (.slice q6 acc.length c6))
            go_wp2_with fail
            refine bodyPost_ret (resPX rfl HD2.out.2.1 HD2.out.2.2.1 rfl rfl) rfl ?_
            rw [HEN.out]
            exact ⟨_, _, _, _, rfl, HP6.out, (VE.low (HWF.out.rdE 3 [] []) (by omega)), HD2.out.2.2.2.2⟩
          | go o2 =>
            obtain ⟨rfl, rfl, rfl, hol2⟩ := HP6.out.go
            have HOL2 := Lib.hid hol2
            have hlt' : (i : Int) < n := by omega
            have hw : wrap64 ((i : Int) + 1) = (i : Int) + 1 := by unfold wrap64; have := HNN.out; omega
            have HLT : Hid (i < n) := hlt
            obtain ⟨x, hx⟩ : ∃ x, x = (refC b d o2 lv6).1 := ⟨_, rfl⟩
            obtain ⟨s8, hs8⟩ : ∃ x, x = (refC b d o2 lv6).2.1 := ⟨_, rfl⟩
            obtain ⟨lv8, hl8⟩ : ∃ x, x = (refC b d o2 lv6).2.2 := ⟨_, rfl⟩
            have HL8 : Hid (lv8 ≤ 32) := by show _ ≤ _; rw [hl8]; exact (ref_as b d o2 lv6 HL6.out).2
            obtain ⟨mk, mv, mn, ms⟩ := x
            have HE7 : Hid (refC b (d + 1) o lv = (.mk 3 [] [] (loopE (refC b d) (n - (i + 1)) (acc ++ [.mk mk mv mn ms]) s8 lv8).1, (loopE (refC b d) (n - (i + 1)) (acc ++ [.mk mk mv mn ms]) s8 lv8).2)) := by
              show _ = _
              rw [HE6.out, show n - i = (n - (i + 1)) + 1 by omega, loopE, ← hx, ← hs8, ← hl8]
            have HCT : Hid (∀ w7, Rd w7.heap.size w7 (.slice q b.length cp) b → Calls Tryz.prog 27 #[.agg #[.slice q b.length cp, .int .i64 (o2 : Nat), .int .i64 0, .int .i64 0, .int .i64 (lv6 : Nat)], .int .i64 ((D : Int) + 1)] w7 fun e w' => ∃ ox8 cx8 ax8 v, e = .returned (.tuple #[.agg #[.slice q b.length cp, .int .i64 ox8, .int .i64 cx8, .int .i64 ax8, .int .i64 (lv8 : Nat)], v]) ∧ PI b s8 ox8 cx8 ax8 ∧ VE w7.heap.size (.mk mk mv mn ms) w' v ∧ Below w7.heap.size w7 w') := fun w7 hw7 => by
              have h := IH.out w7 o2 lv6 hw7 HBL.out HOL2.out HL6.out
              unfold QPost at h
              rw [← hx, ← hs8, ← hl8] at h
              exact h
            have HAC : Hid (acc.length + 1 ≤ 200000) := by show _ ≤ _; have := HNN.out; have := HLEN.out; omega
            clear HE6 hx hs8 hl8 hlt IH hol2 HP6
            generalize hwr : wr = w6 at HRW6 HR6 ⊢
            clear hwr
            have x0 := HR6.out.1.cell 0
            have y0 := HR6.out.1.free 0
            have x1 := HR6.out.1.cell 1
            have y1 := HR6.out.1.free 1
            have x2 := HR6.out.1.cell 2
            have y2 := HR6.out.1.free 2
            have x3 := HR6.out.1.cell 3
            have y3 := HR6.out.1.free 3
            have x4 := HR6.out.1.cell 4
            have y4 := HR6.out.1.free 4
            simp only [List.getElem?_cons_zero, List.getElem?_cons_succ] at x0 x1 x2 x3 x4
            go_upto_region 23 with (fail)
            clear x0 y0 x1 y1 x2 y2 x3 y3 x4 y4
            have hb7 : Below w6.heap.size w6 (w6.alloc (.cells #[.int .i64 0, .string ⟨#[]⟩, .string ⟨#[]⟩, .slice none 0 0] 42)) := (Below.refl _ _).alloc (Nat.le_refl _) _
            have HR7 := Lib.hid (HR6.out.later hb7)
            have HT7 : Hid (Arr (w6.alloc (.cells #[.int .i64 0, .string ⟨#[]⟩, .string ⟨#[]⟩, .slice none 0 0] 42)) 42 w6.heap.size [.int .i64 0, .string ⟨#[]⟩, .string ⟨#[]⟩, .slice none 0 0]) := Arr.new' _ _ _ _ rfl
            have HK7 : Hid (Kp W.heap.size w6 (w6.alloc (.cells #[.int .i64 0, .string ⟨#[]⟩, .string ⟨#[]⟩, .slice none 0 0] 42))) := Kp.of hb7
            have HBLK : Hid (∀ b, (Value.slice q6 acc.length c6).ownBlock = some b → b < w6.heap.size) := fun b hb => by obtain ⟨_, h, _⟩ := HRW6.out; exact (h.lt b hb).2
            obtain ⟨g, hg⟩ : ∃ g, g = w6.heap.size := ⟨_, rfl⟩
            have HG6 : Hid (W.heap.size + 4 ≤ g ∧ w6.heap.size ≤ g) := ⟨by have := HR6.out.2.2.2.1.lt; omega, Nat.le_of_eq hg.symm⟩
            rw [← hg] at HT7 ⊢
            clear hb7 hg HR6
            generalize w6.alloc (.cells #[.int .i64 0, .string ⟨#[]⟩, .string ⟨#[]⟩, .slice none 0 0] 42) = w7 at HR7 HT7 HK7 ⊢
            have HC7 := Lib.hid (HCT.out w7 ((HRD.out.below HR7.out.2.2.2.2 (Nat.le_refl _)).mono HR7.out.2.2.2.2.size))
            have HTL : Hid (g < w7.heap.size) := HT7.out.lt
            have x0 := HR7.out.1.cell 0
            have y0 := HR7.out.1.free 0
            have x1 := HR7.out.1.cell 1
            have y1 := HR7.out.1.free 1
            have x2 := HR7.out.1.cell 2
            have y2 := HR7.out.1.free 2
            have x3 := HR7.out.1.cell 3
            have y3 := HR7.out.1.free 3
            have x4 := HR7.out.1.cell 4
            have y4 := HR7.out.1.free 4
            simp only [List.getElem?_cons_zero, List.getElem?_cons_succ] at x0 x1 x2 x3 x4
            go_wp2_with fail
            refine HC7.out.mono ?_
            rintro e w8 ⟨ox8, cx8, ax8, v, rfl, hp8, hv8, b8⟩
            have r8' : VE w7.heap.size (.mk mk mv mn ms) w8 v := hv8
            obtain ⟨q8, c8, rfl, _, _⟩ := RdE.form hv8
            unfold exv at r8' ⊢
            dsimp only [Ex.kind, Ex.via, Ex.nm, Ex.kids] at r8' ⊢
            have HV8 : Hid (VE w7.heap.size (.mk mk mv mn ms) w8 (.agg #[.int .i64 mk, .string (bstr mv), .string (bstr mn), .slice q8 ms.length c8])) := r8'
            have HP8 := Lib.hid hp8
            have HR8 := Lib.hid (HR7.out.later b8)
            have HT8 := Lib.hid (HT7.out.later b8)
            have HK8 := Lib.hid (HK7.out.trans (Kp.of b8))
            clear r8' hv8 hp8 b8 HC7 HCT HR7 HT7 HK7
            have hgw : ¬ g = W.heap.size := by have := HG6.out.1; omega
            have hgw' : ¬ W.heap.size = g := by have := HG6.out.1; omega
            clear x0 y0 x1 y1 x2 y2 x3 y3 x4 y4
            have x0 := HR8.out.1.cell 0
            have y0 := HR8.out.1.free 0
            have x1 := HR8.out.1.cell 1
            have y1 := HR8.out.1.free 1
            have x2 := HR8.out.1.cell 2
            have y2 := HR8.out.1.free 2
            have x3 := HR8.out.1.cell 3
            have y3 := HR8.out.1.free 3
            have x4 := HR8.out.1.cell 4
            have y4 := HR8.out.1.free 4
            simp only [List.getElem?_cons_zero, List.getElem?_cons_succ] at x0 x1 x2 x3 x4
            have e0 := HT8.out.cell 0
            have f0 := HT8.out.free 0
            have e1 := HT8.out.cell 1
            have f1 := HT8.out.free 1
            have e2 := HT8.out.cell 2
            have f2 := HT8.out.free 2
            have e3 := HT8.out.cell 3
            have f3 := HT8.out.free 3
            simp only [List.getElem?_cons_zero, List.getElem?_cons_succ] at e0 e1 e2 e3
            go_upto_region 24 with (fail)
            clear hgw hgw'
            clear x0 y0 x1 y1 x2 y2 x3 y3 x4 y4
            clear e0 f0 e1 f1 e2 f2 e3 f3
            have HR9 := Lib.hid ((HR8.out.pl (.slice q b.length cp) (.int .i64 ox8) (.int .i64 cx8) (.int .i64 ax8) (.int .i64 (lv8 : Nat))).far4 HG6.out.1 (.int .i64 mk) (.string (bstr mv)) (.string (bstr mn)) (.slice q8 ms.length c8))
            have HT9 : Hid (Arr (((((((((w8.setCell ⟨W.heap.size, 0, none⟩ (.slice q b.length cp)).setCell ⟨W.heap.size, 1, none⟩ (.int .i64 ox8)).setCell ⟨W.heap.size, 2, none⟩ (.int .i64 cx8)).setCell ⟨W.heap.size, 3, none⟩ (.int .i64 ax8)).setCell ⟨W.heap.size, 4, none⟩ (.int .i64 (lv8 : Nat))).setCell ⟨g, 0, none⟩ (.int .i64 mk)).setCell ⟨g, 1, none⟩ (.string (bstr mv))).setCell ⟨g, 2, none⟩ (.string (bstr mn))).setCell ⟨g, 3, none⟩ (.slice q8 ms.length c8)) 42 g [.int .i64 mk, .string (bstr mv), .string (bstr mn), .slice q8 ms.length c8]) := Arr.set4x (((((HT8.out.setCell (by have := HG6.out.1; simp only [ne_eq]; omega) _).setCell (by have := HG6.out.1; simp only [ne_eq]; omega) _).setCell (by have := HG6.out.1; simp only [ne_eq]; omega) _).setCell (by have := HG6.out.1; simp only [ne_eq]; omega) _).setCell (by have := HG6.out.1; simp only [ne_eq]; omega) _) _ _ _ _
            have hk1 := kp_setP w8 W.heap.size (.slice q b.length cp) (.int .i64 ox8) (.int .i64 cx8) (.int .i64 ax8) (.int .i64 (lv8 : Nat))
            have hk2 := kp_set4 (((((w8.setCell ⟨W.heap.size, 0, none⟩ (.slice q b.length cp)).setCell ⟨W.heap.size, 1, none⟩ (.int .i64 ox8)).setCell ⟨W.heap.size, 2, none⟩ (.int .i64 cx8)).setCell ⟨W.heap.size, 3, none⟩ (.int .i64 ax8)).setCell ⟨W.heap.size, 4, none⟩ (.int .i64 (lv8 : Nat))) g (.int .i64 mk) (.string (bstr mv)) (.string (bstr mn)) (.slice q8 ms.length c8)
            have HK9 := Lib.hid ((HK8.out.trans hk1).andThen hk2 HG6.out.2)
            have HV9 := Lib.hid ((HV8.out.kp hk1 (by have := HG6.out.1; have := HTL.out; omega)).kp hk2 HTL.out)
            have HRW9 := Lib.hid (HRW6.out.turn HK9.out.2.2.2.1 (fun b h1 h2 _ => HK9.out.2.2.2.2 b h2 (by omega)))
            have HSZ : Hid (w6.heap.size ≤ w7.heap.size) := by show _ ≤ _; have := HG6.out.2; have := HTL.out; omega
            clear hk1 hk2 HR8 HT8 HK8 HV8 HRW6 HK9
            generalize (((((((((w8.setCell ⟨W.heap.size, 0, none⟩ (.slice q b.length cp)).setCell ⟨W.heap.size, 1, none⟩ (.int .i64 ox8)).setCell ⟨W.heap.size, 2, none⟩ (.int .i64 cx8)).setCell ⟨W.heap.size, 3, none⟩ (.int .i64 ax8)).setCell ⟨W.heap.size, 4, none⟩ (.int .i64 (lv8 : Nat))).setCell ⟨g, 0, none⟩ (.int .i64 mk)).setCell ⟨g, 1, none⟩ (.string (bstr mv))).setCell ⟨g, 2, none⟩ (.string (bstr mn))).setCell ⟨g, 3, none⟩ (.slice q8 ms.length c8)) = w9 at HR9 HT9 HV9 HRW9 ⊢
            have hba : Below w9.heap.size w9 (w9.alloc (.cells #[.int .i64 mk, .string (bstr mv), .string (bstr mn), .slice q8 ms.length c8] 42)) := (Below.refl _ _).alloc (Nat.le_refl _) _
            have HRWa := Lib.hid (HRW9.out.later hba)
            have HRa := Lib.hid (HR9.out.later hba)
            have HEa : Hid (Arr (w9.alloc (.cells #[.int .i64 mk, .string (bstr mv), .string (bstr mn), .slice q8 ms.length c8] 42)) 42 w9.heap.size [.int .i64 mk, .string (bstr mv), .string (bstr mn), .slice q8 ms.length c8]) := Arr.new' _ _ _ _ rfl
            have HV9' : rdEx (Bt w7.heap.size w9.heap.size) w9 (.mk mk mv mn ms) [.int .i64 mk, .string (bstr mv), .string (bstr mn), .slice q8 ms.length c8] := ⟨_, _, _, _, rfl, HV9.out⟩
            have HXa : Hid (kdEx.rd (SubX (W.heap.size + 4) (fun _ => False) (w9.alloc (.cells #[.int .i64 mk, .string (bstr mv), .string (bstr mn), .slice q8 ms.length c8] 42)) (.slice q6 acc.length c6)) (w9.alloc (.cells #[.int .i64 mk, .string (bstr mv), .string (bstr mn), .slice q8 ms.length c8] 42)) (.mk mk mv mn ms) [.int .i64 mk, .string (bstr mv), .string (bstr mn), .slice q8 ms.length c8]) := kdEx.imp (fun b hb => ⟨by have := HG6.out.1; have := HTL.out; have := hb.1; omega, Nat.lt_of_lt_of_le hb.2 hba.size, fun e => by have h1 := HBLK.out b e.symm; have := hb.1; have := HSZ.out; omega, fun h => h⟩) (kdEx.keep (fun b hb n => hba.cell (p := ⟨b, n, none⟩) hb.2) HV9')
            have HBS : Hid (W.heap.size + 4 ≤ (w9.alloc (.cells #[.int .i64 mk, .string (bstr mv), .string (bstr mn), .slice q8 ms.length c8] 42)).heap.size) := by show _ ≤ _; have := HRa.out.2.2.2.1.lt; omega
            have e0 := HR9.out.2.2.2.1.cell 0
            have f0 := HR9.out.2.2.2.1.free 0
            have e1 := HR9.out.2.2.2.1.cell 1
            have f1 := HR9.out.2.2.2.1.free 1
            have e2 := HR9.out.2.2.2.1.cell 2
            have f2 := HR9.out.2.2.2.1.free 2
            have e3 := HR9.out.2.2.2.1.cell 3
            have f3 := HR9.out.2.2.2.1.free 3
            simp only [List.getElem?_cons_zero, List.getElem?_cons_succ] at e0 e1 e2 e3
            have t0 := HT9.out.cell 0
            have r0 := HT9.out.free 0
            have t1 := HT9.out.cell 1
            have r1 := HT9.out.free 1
            have t2 := HT9.out.cell 2
            have r2 := HT9.out.free 2
            have t3 := HT9.out.cell 3
            have r3 := HT9.out.free 3
            simp only [List.getElem?_cons_zero, List.getElem?_cons_succ] at t0 t1 t2 t3
            go_wp2_with (at_builtin; refine app_row (K := kdEx) (x := .mk mk mv mn ms) rfl _ _ rfl rfl HRWa.out rfl HEa.out HXa.out HAC.out HBS.out (fun b h => h.elim) ?_)
            intro v10 w10 r10 g10 o10
            have HR10 := Lib.hid (HRa.out.grown g10 (fun k hk => o10 k hk))
            have HRW10 := Lib.hid r10
            obtain ⟨q10, c10, hv10⟩ := r10.form
            rw [List.length_append, List.length_singleton] at hv10
            subst hv10
            clear r10 g10 o10 hba HRWa HRa HEa HXa HV9' HBS HR9 HT9 HV9 HRW9 t0 t1 t2 t3 r0 r1 r2 r3
            clear e0 f0 e1 f1 e2 f2 e3 f3
            have e0 := HR10.out.2.2.2.1.cell 0
            have f0 := HR10.out.2.2.2.1.free 0
            have e1 := HR10.out.2.2.2.1.cell 1
            have f1 := HR10.out.2.2.2.1.free 1
            have e2 := HR10.out.2.2.2.1.cell 2
            have f2 := HR10.out.2.2.2.1.free 2
            have e3 := HR10.out.2.2.2.1.cell 3
            have f3 := HR10.out.2.2.2.1.free 3
            simp only [List.getElem?_cons_zero, List.getElem?_cons_succ] at e0 e1 e2 e3
            go_wp2_with fail
            have HR11 := Lib.hid (HR10.out.ce (i := 3) (.slice q10 (acc.length + 1) c10) (by decide))
            have HRW11 := Lib.hid (HRW10.out.box (g := W.heap.size + 3) (.inl (by omega)) 3 (.slice q10 (acc.length + 1) c10))
            go_roundw
            case rel => exact ⟨i + 1, acc ++ [Ex.mk mk mv mn ms], s8, ox8, cx8, ax8, lv8, q10, c10, HLT.out, by go_num, by rw [List.length_append, HLEN.out]; rfl, by rw [List.length_append]; exact HRW11.out, by rw [List.length_append]; exact HR11.out, HP8, HL8, HE7⟩
            case measure => first | exact meas HLT.out (Nat.le_trans HNN.out (by decide)) | exact meas' HLT.out
        · have hlt' : ¬ (i : Int) < n := by omega
          have HEN : Hid (refC b (d + 1) o lv = (.mk 3 [] [] acc, s6, lv6)) := by
            show _ = _
            rw [HE6.out, show n - i = 0 by omega]; rfl
          clear HE6 IH hlt
          go_upto_region 25 with (fail)
          refine wp_region_noPanic ?_
          refine wp_region_held_drew (S := fun W' => Arr W' 59 W.heap.size [.slice q b.length cp, .int .i64 ox6, .int .i64 cx6, .int .i64 ax6, .int .i64 (lv6 : Nat)] ∧ Arr W' 42 (W.heap.size + 3) [.int .i64 3, .string ⟨#[]⟩, .string ⟨#[]⟩, .slice q6 acc.length c6]) (by kernel_rfl) ⟨HR6.out.drew.1, HR6.out.drew.2.2.2.1⟩ (fun hHeld => ?_)
          try simp only [Act.put]
          have HD := Lib.hid HR6.out.drew
          have HWD := Lib.hid (HRW6.out.later (Below.refl _ _).drew)
          generalize wr.drew = wd at HD hHeld HWD ⊢
          refine wpAnyH_take (i := 0) (oi := ⟨some 107, _, _, _, _, _⟩) (v := .agg #[.slice q b.length cp, .int .i64 ox6, .int .i64 cx6, .int .i64 ax6, .int .i64 (lv6 : Nat)]) rfl (by kernel_rfl) (by kernel_rfl) (by kernel_rfl) (fun _ _ _ h => h) (.inl ⟨by rfl, fun w' hSw => ?_⟩) hHeld ?_
          focus (have a0 := hSw.1.cell 0; have a1 := hSw.1.cell 1; have a2 := hSw.1.cell 2; have a3 := hSw.1.cell 3; have a4 := hSw.1.cell 4; simp only [List.getElem?_cons_zero, List.getElem?_cons_succ] at a0 a1 a2 a3 a4; clear hHeld; go_simp)
          try simp only [Act.put, List.setIfInBounds_toArray, List.set_cons_zero, List.set_cons_succ]
          refine wpAnyH_take (i := 1) (oi := ⟨some 108, _, _, _, _, _⟩) (v := .agg #[.int .i64 3, .string ⟨#[]⟩, .string ⟨#[]⟩, .slice q6 acc.length c6]) rfl (by kernel_rfl) (by kernel_rfl) (by kernel_rfl) (fun _ _ _ h => h) (.inl ⟨by rfl, fun w' hSw => ?_⟩) hHeld ?_
          focus (have a0 := hSw.2.cell 0; have a1 := hSw.2.cell 1; have a2 := hSw.2.cell 2; have a3 := hSw.2.cell 3; simp only [List.getElem?_cons_zero, List.getElem?_cons_succ] at a0 a1 a2 a3; clear hHeld; go_simp)
          try simp only [Act.put, List.setIfInBounds_toArray, List.set_cons_zero, List.set_cons_succ]
          refine wpAnyH_ready (rs := [2]) (by kernel_rfl) (by simp) ?_
          refine AllReadyH.cons (o := ⟨none, _, _, _, _, _⟩) rfl (fun K' hK' => ?_) AllReadyH.nil
          have p0 := HD.out.2.1.cell 0
          have z0 := HD.out.2.1.free 0
          have p1 := HD.out.2.1.cell 1
          have z1 := HD.out.2.1.free 1
          have p2 := HD.out.2.1.cell 2
          have z2 := HD.out.2.1.free 2
          have p3 := HD.out.2.1.cell 3
          have z3 := HD.out.2.1.free 3
          have p4 := HD.out.2.1.cell 4
          have z4 := HD.out.2.1.free 4
          simp only [List.getElem?_cons_zero, List.getElem?_cons_succ] at p0 p1 p2 p3 p4
          go_simp
          clear p0 z0 p1 z1 p2 z2 p3 z3 p4 z4
          have HD1 := Lib.hid (HD.out.p4 (.slice q b.length cp) (.int .i64 ox6) (.int .i64 cx6) (.int .i64 ax6) (.int .i64 (lv6 : Nat)))
          refine hK'.out _ _ ⟨HD1.out.1, HD1.out.2.2.2.1⟩ (fun _ => ?_)
          clear hK' K' hHeld
          have hHeld := And.intro HD1.out.1 HD1.out.2.2.2.1
          try simp only [Act.put, List.setIfInBounds_toArray, List.set_cons_zero, List.set_cons_succ]
          refine wpAnyH_ready (rs := [3]) (by kernel_rfl) (by simp) ?_
          refine AllReadyH.cons (o := ⟨none, _, _, _, _, _⟩) rfl (fun K' hK' => ?_) AllReadyH.nil
          have g0 := HD1.out.2.2.1.cell 0
          have h0 := HD1.out.2.2.1.free 0
          have g1 := HD1.out.2.2.1.cell 1
          have h1 := HD1.out.2.2.1.free 1
          have g2 := HD1.out.2.2.1.cell 2
          have h2 := HD1.out.2.2.1.free 2
          have g3 := HD1.out.2.2.1.cell 3
          have h3 := HD1.out.2.2.1.free 3
          simp only [List.getElem?_cons_zero, List.getElem?_cons_succ] at g0 g1 g2 g3
          go_simp
          clear g0 h0 g1 h1 g2 h2 g3 h3
          have HD2 := Lib.hid (HD1.out.p5 (.int .i64 3) (.string ⟨#[]⟩) (.string ⟨#[]⟩) (.slice q6 acc.length c6))
          refine hK'.out _ _ ⟨HD2.out.1, HD2.out.2.2.2.1⟩ (fun _ => ?_)
          clear hK' K' hHeld
          have hHeld := And.intro HD2.out.1 HD2.out.2.2.2.1
          try simp only [Act.put, List.setIfInBounds_toArray, List.set_cons_zero, List.set_cons_succ]
          refine wpAnyH_done (by kernel_rfl) ?_ _
          refine NoPanic.normal ?_
          have HWF := Lib.hid ((HWD.out.box5 (g := W.heap.size + 1) (by omega) (.slice q b.length cp) (.int .i64 ox6) (.int .i64 cx6) (.int .i64 ax6) (.int .i64 (lv6 : Nat))).box4 (g := W.heap.size + 2) (by omega) (.int .i64 3) (.string ⟨#[]⟩) (.string ⟨#[]⟩) (.slice q6 acc.length c6))
          go_wp2_with fail
          refine bodyPost_ret (resPX rfl HD2.out.2.1 HD2.out.2.2.1 rfl rfl) rfl ?_
          rw [HEN.out]
          exact ⟨_, _, _, _, rfl, HP6.out, (VE.low (HWF.out.rdE 3 [] []) (by omega)), HD2.out.2.2.2.2⟩
    · have x0 := HR1.out.1.cell 0
      have y0 := HR1.out.1.free 0
      have x1 := HR1.out.1.cell 1
      have y1 := HR1.out.1.free 1
      have x2 := HR1.out.1.cell 2
      have y2 := HR1.out.1.free 2
      have x3 := HR1.out.1.cell 3
      have y3 := HR1.out.1.free 3
      have x4 := HR1.out.1.cell 4
      have y4 := HR1.out.1.free 4
      simp only [List.getElem?_cons_zero, List.getElem?_cons_succ] at x0 x1 x2 x3 x4
      have e0 := HR1.out.2.2.2.1.cell 0
      have f0 := HR1.out.2.2.2.1.free 0
      have e1 := HR1.out.2.2.2.1.cell 1
      have f1 := HR1.out.2.2.2.1.free 1
      have e2 := HR1.out.2.2.2.1.cell 2
      have f2 := HR1.out.2.2.2.1.free 2
      have e3 := HR1.out.2.2.2.1.cell 3
      have f3 := HR1.out.2.2.2.1.free 3
      simp only [List.getElem?_cons_zero, List.getElem?_cons_succ] at e0 e1 e2 e3
      go_upto_region 4 with (fail)
      have HR2 := Lib.hid ((HR1.out.pl (.slice q b.length cp) (.int .i64 (o1 : Nat)) (.int .i64 0) (.int .i64 0) (.int .i64 (lv : Nat))).ce (i := 0) (.int .i64 4) (by decide))
      clear x0 y0 x1 y1 x2 y2 x3 y3 x4 y4
      clear e0 f0 e1 f1 e2 f2 e3 f3
      have HR3 : Hid (RB W [.slice q b.length cp, .int .i64 (o1 : Nat), .int .i64 0, .int .i64 0, .int .i64 (lv : Nat)] [.slice none 0 0, .int .i64 0, .int .i64 0, .int .i64 0, .int .i64 0] [.int .i64 0, .string ⟨#[]⟩, .string ⟨#[]⟩, .slice none 0 0] [.int .i64 4, .string ⟨#[]⟩, .string ⟨#[]⟩, .slice none 0 0] ((((((w1.setCell ⟨W.heap.size, 0, none⟩ (.slice q b.length cp)).setCell ⟨W.heap.size, 1, none⟩ (.int .i64 (o1 : Nat))).setCell ⟨W.heap.size, 2, none⟩ (.int .i64 0)).setCell ⟨W.heap.size, 3, none⟩ (.int .i64 0)).setCell ⟨W.heap.size, 4, none⟩ (.int .i64 (lv : Nat))).setCell ⟨W.heap.size + 3, 0, none⟩ (.int .i64 4))) := HR2.out
      clear HR1 HR2
      generalize ((((((w1.setCell ⟨W.heap.size, 0, none⟩ (.slice q b.length cp)).setCell ⟨W.heap.size, 1, none⟩ (.int .i64 (o1 : Nat))).setCell ⟨W.heap.size, 2, none⟩ (.int .i64 0)).setCell ⟨W.heap.size, 3, none⟩ (.int .i64 0)).setCell ⟨W.heap.size, 4, none⟩ (.int .i64 (lv : Nat))).setCell ⟨W.heap.size + 3, 0, none⟩ (.int .i64 4)) = w3 at HR3 ⊢
      clear HK5 HKG
      obtain ⟨n, hn⟩ : ∃ x, x = (numC b (chkR 2 32 15) (.go o1)).1 := ⟨_, rfl⟩
      obtain ⟨s5, hs5⟩ : ∃ x, x = (numC b (chkR 2 32 15) (.go o1)).2 := ⟨_, rfl⟩
      have HNN : Hid (n ≤ 32) := by rw [hn]; exact numC_le (fun x hx => (chkC_0 hx).2) _
      have HN5 := Lib.hid (pNum2 (lv := lv) ((HRD.out.below HR3.out.2.2.2.2 (Nat.le_refl _)).mono HR3.out.2.2.2.2.size) (PI.of_go HOL1.out) HBL.out)
      have HE1 : Hid (refC b (d + 1) o lv = (.mk 4 [] [] (loopE (refC b d) (n - 0) [] s5 lv).1, (loopE (refC b d) (n - 0) [] s5 lv).2)) := by
        show _ = _
        rw [HE0.out.trans (topE_go.trans ((if_neg (by omega)).trans (if_neg (by omega)))), hn, hs5]; rfl
      rw [← hn, ← hs5] at HN5
      clear hn hs5 HE0
      have x0 := HR3.out.1.cell 0
      have y0 := HR3.out.1.free 0
      have x1 := HR3.out.1.cell 1
      have y1 := HR3.out.1.free 1
      have x2 := HR3.out.1.cell 2
      have y2 := HR3.out.1.free 2
      have x3 := HR3.out.1.cell 3
      have y3 := HR3.out.1.free 3
      have x4 := HR3.out.1.cell 4
      have y4 := HR3.out.1.free 4
      simp only [List.getElem?_cons_zero, List.getElem?_cons_succ] at x0 x1 x2 x3 x4
      have e0 := HR3.out.2.2.2.1.cell 0
      have f0 := HR3.out.2.2.2.1.free 0
      have e1 := HR3.out.2.2.2.1.cell 1
      have f1 := HR3.out.2.2.2.1.free 1
      have e2 := HR3.out.2.2.2.1.cell 2
      have f2 := HR3.out.2.2.2.1.free 2
      have e3 := HR3.out.2.2.2.1.cell 3
      have f3 := HR3.out.2.2.2.1.free 3
      simp only [List.getElem?_cons_zero, List.getElem?_cons_succ] at e0 e1 e2 e3
      go_wp2_with fail
      refine HN5.out.mono ?_
      rintro e w5 ⟨ox5, cx5, ax5, rfl, hp5, b5⟩
      have HRa5 := Lib.hid (HR3.out.later b5)
      have HP5 := Lib.hid hp5
      clear hp5 b5 HN5 HR3
      clear x0 y0 x1 y1 x2 y2 x3 y3 x4 y4
      clear e0 f0 e1 f1 e2 f2 e3 f3
      have x0 := HRa5.out.1.cell 0
      have y0 := HRa5.out.1.free 0
      have x1 := HRa5.out.1.cell 1
      have y1 := HRa5.out.1.free 1
      have x2 := HRa5.out.1.cell 2
      have y2 := HRa5.out.1.free 2
      have x3 := HRa5.out.1.cell 3
      have y3 := HRa5.out.1.free 3
      have x4 := HRa5.out.1.cell 4
      have y4 := HRa5.out.1.free 4
      simp only [List.getElem?_cons_zero, List.getElem?_cons_succ] at x0 x1 x2 x3 x4
      go_upto_region 19 with (fail)
      have HR5 : Hid (RB W [.slice q b.length cp, .int .i64 ox5, .int .i64 cx5, .int .i64 ax5, .int .i64 (lv : Nat)] [.slice none 0 0, .int .i64 0, .int .i64 0, .int .i64 0, .int .i64 0] [.int .i64 0, .string ⟨#[]⟩, .string ⟨#[]⟩, .slice none 0 0] [.int .i64 4, .string ⟨#[]⟩, .string ⟨#[]⟩, .slice none 0 0] (((((w5.setCell ⟨W.heap.size, 0, none⟩ (.slice q b.length cp)).setCell ⟨W.heap.size, 1, none⟩ (.int .i64 ox5)).setCell ⟨W.heap.size, 2, none⟩ (.int .i64 cx5)).setCell ⟨W.heap.size, 3, none⟩ (.int .i64 ax5)).setCell ⟨W.heap.size, 4, none⟩ (.int .i64 (lv : Nat)))) := HRa5.out.pl (.slice q b.length cp) (.int .i64 ox5) (.int .i64 cx5) (.int .i64 ax5) (.int .i64 (lv : Nat))
      clear x0 y0 x1 y1 x2 y2 x3 y3 x4 y4
      clear HRa5
      generalize (((((w5.setCell ⟨W.heap.size, 0, none⟩ (.slice q b.length cp)).setCell ⟨W.heap.size, 1, none⟩ (.int .i64 ox5)).setCell ⟨W.heap.size, 2, none⟩ (.int .i64 cx5)).setCell ⟨W.heap.size, 3, none⟩ (.int .i64 ax5)).setCell ⟨W.heap.size, 4, none⟩ (.int .i64 (lv : Nat))) = wz5 at HR5 ⊢
      go_wp2_with fail
      go_loopw [9] (fun iv wr => ∃ (i : Nat) (acc : List Ex) (s6 : St) (ox6 cx6 ax6 : Int) (lv6 : Nat) (q6 : Option Addr) (c6 : Nat), i ≤ n ∧ iv = .int .i64 (i : Nat) ∧ Hid (acc.length = i) ∧ Hid (PRow kdEx (W.heap.size + 4) (fun _ => False) wr (.slice q6 acc.length c6) acc) ∧ Hid (RB W [.slice q b.length cp, .int .i64 ox6, .int .i64 cx6, .int .i64 ax6, .int .i64 (lv6 : Nat)] [.slice none 0 0, .int .i64 0, .int .i64 0, .int .i64 0, .int .i64 0] [.int .i64 0, .string ⟨#[]⟩, .string ⟨#[]⟩, .slice none 0 0] [.int .i64 4, .string ⟨#[]⟩, .string ⟨#[]⟩, .slice q6 acc.length c6] wr) ∧ Hid (PI b s6 ox6 cx6 ax6) ∧ Hid (lv6 ≤ 32) ∧ Hid (refC b (d + 1) o lv = (.mk 4 [] [] (loopE (refC b d) (n - i) acc s6 lv6).1, (loopE (refC b d) (n - i) acc s6 lv6).2))) (fun iv _ => n - (intOf iv).toNat)
      case atStart => exact ⟨0, [], s5, ox5, cx5, ax5, lv, none, 0, Nat.zero_le _, rfl, rfl, PRow.nil _ _ _ _, HR5, HP5, HLV, HE1⟩
      case round =>
        obtain ⟨i, acc, s6, ox6, cx6, ax6, lv6, q6, c6, hi, rfl, HLEN, HRW6, HR6, HP6, HL6, HE6⟩ := hrel
        by_cases hlt : i < n
        · cases s6 with
          | er c a =>
            have hlt' : (i : Int) < n := by omega
            have hcx := HP6.out.er
            have hc2 : (cx6 == 0) = false := by simpa using hcx
            have HEN : Hid (refC b (d + 1) o lv = (.mk 4 [] [] acc, .er c a, lv6)) := by
              show _ = _
              rw [HE6.out, loopE_er]
            clear HE6 IH hlt
            have x0 := HR6.out.1.cell 0
            have y0 := HR6.out.1.free 0
            have x1 := HR6.out.1.cell 1
            have y1 := HR6.out.1.free 1
            have x2 := HR6.out.1.cell 2
            have y2 := HR6.out.1.free 2
            have x3 := HR6.out.1.cell 3
            have y3 := HR6.out.1.free 3
            have x4 := HR6.out.1.cell 4
            have y4 := HR6.out.1.free 4
            simp only [List.getElem?_cons_zero, List.getElem?_cons_succ] at x0 x1 x2 x3 x4
            go_upto_region 25 with (fail)
            clear x0 y0 x1 y1 x2 y2 x3 y3 x4 y4
            refine wp_region_noPanic ?_
            refine wp_region_held_drew (S := fun W' => Arr W' 59 W.heap.size [.slice q b.length cp, .int .i64 ox6, .int .i64 cx6, .int .i64 ax6, .int .i64 (lv6 : Nat)] ∧ Arr W' 42 (W.heap.size + 3) [.int .i64 4, .string ⟨#[]⟩, .string ⟨#[]⟩, .slice q6 acc.length c6]) (by kernel_rfl) ⟨HR6.out.drew.1, HR6.out.drew.2.2.2.1⟩ (fun hHeld => ?_)
            try simp only [Act.put]
            have HD := Lib.hid HR6.out.drew
            have HWD := Lib.hid (HRW6.out.later (Below.refl _ _).drew)
            generalize wr.drew = wd at HD hHeld HWD ⊢
            refine wpAnyH_take (i := 0) (oi := ⟨some 107, _, _, _, _, _⟩) (v := .agg #[.slice q b.length cp, .int .i64 ox6, .int .i64 cx6, .int .i64 ax6, .int .i64 (lv6 : Nat)]) rfl (by kernel_rfl) (by kernel_rfl) (by kernel_rfl) (fun _ _ _ h => h) (.inl ⟨by rfl, fun w' hSw => ?_⟩) hHeld ?_
            focus (have a0 := hSw.1.cell 0; have a1 := hSw.1.cell 1; have a2 := hSw.1.cell 2; have a3 := hSw.1.cell 3; have a4 := hSw.1.cell 4; simp only [List.getElem?_cons_zero, List.getElem?_cons_succ] at a0 a1 a2 a3 a4; clear hHeld; go_simp)
            try simp only [Act.put, List.setIfInBounds_toArray, List.set_cons_zero, List.set_cons_succ]
            refine wpAnyH_take (i := 1) (oi := ⟨some 108, _, _, _, _, _⟩) (v := .agg #[.int .i64 4, .string ⟨#[]⟩, .string ⟨#[]⟩, .slice q6 acc.length c6]) rfl (by kernel_rfl) (by kernel_rfl) (by kernel_rfl) (fun _ _ _ h => h) (.inl ⟨by rfl, fun w' hSw => ?_⟩) hHeld ?_
            focus (have a0 := hSw.2.cell 0; have a1 := hSw.2.cell 1; have a2 := hSw.2.cell 2; have a3 := hSw.2.cell 3; simp only [List.getElem?_cons_zero, List.getElem?_cons_succ] at a0 a1 a2 a3; clear hHeld; go_simp)
            try simp only [Act.put, List.setIfInBounds_toArray, List.set_cons_zero, List.set_cons_succ]
            refine wpAnyH_ready (rs := [2]) (by kernel_rfl) (by simp) ?_
            refine AllReadyH.cons (o := ⟨none, _, _, _, _, _⟩) rfl (fun K' hK' => ?_) AllReadyH.nil
            have p0 := HD.out.2.1.cell 0
            have z0 := HD.out.2.1.free 0
            have p1 := HD.out.2.1.cell 1
            have z1 := HD.out.2.1.free 1
            have p2 := HD.out.2.1.cell 2
            have z2 := HD.out.2.1.free 2
            have p3 := HD.out.2.1.cell 3
            have z3 := HD.out.2.1.free 3
            have p4 := HD.out.2.1.cell 4
            have z4 := HD.out.2.1.free 4
            simp only [List.getElem?_cons_zero, List.getElem?_cons_succ] at p0 p1 p2 p3 p4
            go_simp
            clear p0 z0 p1 z1 p2 z2 p3 z3 p4 z4
            have HD1 := Lib.hid (HD.out.p4 (.slice q b.length cp) (.int .i64 ox6) (.int .i64 cx6) (.int .i64 ax6) (.int .i64 (lv6 : Nat)))
            refine hK'.out _ _ ⟨HD1.out.1, HD1.out.2.2.2.1⟩ (fun _ => ?_)
            clear hK' K' hHeld
            have hHeld := And.intro HD1.out.1 HD1.out.2.2.2.1
            try simp only [Act.put, List.setIfInBounds_toArray, List.set_cons_zero, List.set_cons_succ]
            refine wpAnyH_ready (rs := [3]) (by kernel_rfl) (by simp) ?_
            refine AllReadyH.cons (o := ⟨none, _, _, _, _, _⟩) rfl (fun K' hK' => ?_) AllReadyH.nil
            have g0 := HD1.out.2.2.1.cell 0
            have h0 := HD1.out.2.2.1.free 0
            have g1 := HD1.out.2.2.1.cell 1
            have h1 := HD1.out.2.2.1.free 1
            have g2 := HD1.out.2.2.1.cell 2
            have h2 := HD1.out.2.2.1.free 2
            have g3 := HD1.out.2.2.1.cell 3
            have h3 := HD1.out.2.2.1.free 3
            simp only [List.getElem?_cons_zero, List.getElem?_cons_succ] at g0 g1 g2 g3
            go_simp
            clear g0 h0 g1 h1 g2 h2 g3 h3
            have HD2 := Lib.hid (HD1.out.p5 (.int .i64 4) (.string ⟨#[]⟩) (.string ⟨#[]⟩) (.slice q6 acc.length c6))
            refine hK'.out _ _ ⟨HD2.out.1, HD2.out.2.2.2.1⟩ (fun _ => ?_)
            clear hK' K' hHeld
            have hHeld := And.intro HD2.out.1 HD2.out.2.2.2.1
            try simp only [Act.put, List.setIfInBounds_toArray, List.set_cons_zero, List.set_cons_succ]
            refine wpAnyH_done (by kernel_rfl) ?_ _
            refine NoPanic.normal ?_
            have HWF := Lib.hid ((HWD.out.box5 (g := W.heap.size + 1) (by omega) (.slice q b.length cp) (.int .i64 ox6) (.int .i64 cx6) (.int .i64 ax6) (.int .i64 (lv6 : Nat))).box4 (g := W.heap.size + 2) (by omega) (.int .i64 4) (.string ⟨#[]⟩) (.string ⟨#[]⟩) (.slice q6 acc.length c6))
            go_wp2_with fail
            refine bodyPost_ret (resPX rfl HD2.out.2.1 HD2.out.2.2.1 rfl rfl) rfl ?_
            rw [HEN.out]
            exact ⟨_, _, _, _, rfl, HP6.out, (VE.low (HWF.out.rdE 4 [] []) (by omega)), HD2.out.2.2.2.2⟩
          | go o2 =>
            obtain ⟨rfl, rfl, rfl, hol2⟩ := HP6.out.go
            have HOL2 := Lib.hid hol2
            have hlt' : (i : Int) < n := by omega
            have hw : wrap64 ((i : Int) + 1) = (i : Int) + 1 := by unfold wrap64; have := HNN.out; omega
            have HLT : Hid (i < n) := hlt
            obtain ⟨x, hx⟩ : ∃ x, x = (refC b d o2 lv6).1 := ⟨_, rfl⟩
            obtain ⟨s8, hs8⟩ : ∃ x, x = (refC b d o2 lv6).2.1 := ⟨_, rfl⟩
            obtain ⟨lv8, hl8⟩ : ∃ x, x = (refC b d o2 lv6).2.2 := ⟨_, rfl⟩
            have HL8 : Hid (lv8 ≤ 32) := by show _ ≤ _; rw [hl8]; exact (ref_as b d o2 lv6 HL6.out).2
            obtain ⟨mk, mv, mn, ms⟩ := x
            have HE7 : Hid (refC b (d + 1) o lv = (.mk 4 [] [] (loopE (refC b d) (n - (i + 1)) (acc ++ [.mk mk mv mn ms]) s8 lv8).1, (loopE (refC b d) (n - (i + 1)) (acc ++ [.mk mk mv mn ms]) s8 lv8).2)) := by
              show _ = _
              rw [HE6.out, show n - i = (n - (i + 1)) + 1 by omega, loopE, ← hx, ← hs8, ← hl8]
            have HCT : Hid (∀ w7, Rd w7.heap.size w7 (.slice q b.length cp) b → Calls Tryz.prog 27 #[.agg #[.slice q b.length cp, .int .i64 (o2 : Nat), .int .i64 0, .int .i64 0, .int .i64 (lv6 : Nat)], .int .i64 ((D : Int) + 1)] w7 fun e w' => ∃ ox8 cx8 ax8 v, e = .returned (.tuple #[.agg #[.slice q b.length cp, .int .i64 ox8, .int .i64 cx8, .int .i64 ax8, .int .i64 (lv8 : Nat)], v]) ∧ PI b s8 ox8 cx8 ax8 ∧ VE w7.heap.size (.mk mk mv mn ms) w' v ∧ Below w7.heap.size w7 w') := fun w7 hw7 => by
              have h := IH.out w7 o2 lv6 hw7 HBL.out HOL2.out HL6.out
              unfold QPost at h
              rw [← hx, ← hs8, ← hl8] at h
              exact h
            have HAC : Hid (acc.length + 1 ≤ 200000) := by show _ ≤ _; have := HNN.out; have := HLEN.out; omega
            clear HE6 hx hs8 hl8 hlt IH hol2 HP6
            generalize hwr : wr = w6 at HRW6 HR6 ⊢
            clear hwr
            have x0 := HR6.out.1.cell 0
            have y0 := HR6.out.1.free 0
            have x1 := HR6.out.1.cell 1
            have y1 := HR6.out.1.free 1
            have x2 := HR6.out.1.cell 2
            have y2 := HR6.out.1.free 2
            have x3 := HR6.out.1.cell 3
            have y3 := HR6.out.1.free 3
            have x4 := HR6.out.1.cell 4
            have y4 := HR6.out.1.free 4
            simp only [List.getElem?_cons_zero, List.getElem?_cons_succ] at x0 x1 x2 x3 x4
            go_upto_region 23 with (fail)
            clear x0 y0 x1 y1 x2 y2 x3 y3 x4 y4
            have hb7 : Below w6.heap.size w6 (w6.alloc (.cells #[.int .i64 0, .string ⟨#[]⟩, .string ⟨#[]⟩, .slice none 0 0] 42)) := (Below.refl _ _).alloc (Nat.le_refl _) _
            have HR7 := Lib.hid (HR6.out.later hb7)
            have HT7 : Hid (Arr (w6.alloc (.cells #[.int .i64 0, .string ⟨#[]⟩, .string ⟨#[]⟩, .slice none 0 0] 42)) 42 w6.heap.size [.int .i64 0, .string ⟨#[]⟩, .string ⟨#[]⟩, .slice none 0 0]) := Arr.new' _ _ _ _ rfl
            have HK7 : Hid (Kp W.heap.size w6 (w6.alloc (.cells #[.int .i64 0, .string ⟨#[]⟩, .string ⟨#[]⟩, .slice none 0 0] 42))) := Kp.of hb7
            have HBLK : Hid (∀ b, (Value.slice q6 acc.length c6).ownBlock = some b → b < w6.heap.size) := fun b hb => by obtain ⟨_, h, _⟩ := HRW6.out; exact (h.lt b hb).2
            obtain ⟨g, hg⟩ : ∃ g, g = w6.heap.size := ⟨_, rfl⟩
            have HG6 : Hid (W.heap.size + 4 ≤ g ∧ w6.heap.size ≤ g) := ⟨by have := HR6.out.2.2.2.1.lt; omega, Nat.le_of_eq hg.symm⟩
            rw [← hg] at HT7 ⊢
            clear hb7 hg HR6
            generalize w6.alloc (.cells #[.int .i64 0, .string ⟨#[]⟩, .string ⟨#[]⟩, .slice none 0 0] 42) = w7 at HR7 HT7 HK7 ⊢
            have HC7 := Lib.hid (HCT.out w7 ((HRD.out.below HR7.out.2.2.2.2 (Nat.le_refl _)).mono HR7.out.2.2.2.2.size))
            have HTL : Hid (g < w7.heap.size) := HT7.out.lt
            have x0 := HR7.out.1.cell 0
            have y0 := HR7.out.1.free 0
            have x1 := HR7.out.1.cell 1
            have y1 := HR7.out.1.free 1
            have x2 := HR7.out.1.cell 2
            have y2 := HR7.out.1.free 2
            have x3 := HR7.out.1.cell 3
            have y3 := HR7.out.1.free 3
            have x4 := HR7.out.1.cell 4
            have y4 := HR7.out.1.free 4
            simp only [List.getElem?_cons_zero, List.getElem?_cons_succ] at x0 x1 x2 x3 x4
            go_wp2_with fail
            refine HC7.out.mono ?_
            rintro e w8 ⟨ox8, cx8, ax8, v, rfl, hp8, hv8, b8⟩
            have r8' : VE w7.heap.size (.mk mk mv mn ms) w8 v := hv8
            obtain ⟨q8, c8, rfl, _, _⟩ := RdE.form hv8
            unfold exv at r8' ⊢
            dsimp only [Ex.kind, Ex.via, Ex.nm, Ex.kids] at r8' ⊢
            have HV8 : Hid (VE w7.heap.size (.mk mk mv mn ms) w8 (.agg #[.int .i64 mk, .string (bstr mv), .string (bstr mn), .slice q8 ms.length c8])) := r8'
            have HP8 := Lib.hid hp8
            have HR8 := Lib.hid (HR7.out.later b8)
            have HT8 := Lib.hid (HT7.out.later b8)
            have HK8 := Lib.hid (HK7.out.trans (Kp.of b8))
            clear r8' hv8 hp8 b8 HC7 HCT HR7 HT7 HK7
            have hgw : ¬ g = W.heap.size := by have := HG6.out.1; omega
            have hgw' : ¬ W.heap.size = g := by have := HG6.out.1; omega
            clear x0 y0 x1 y1 x2 y2 x3 y3 x4 y4
            have x0 := HR8.out.1.cell 0
            have y0 := HR8.out.1.free 0
            have x1 := HR8.out.1.cell 1
            have y1 := HR8.out.1.free 1
            have x2 := HR8.out.1.cell 2
            have y2 := HR8.out.1.free 2
            have x3 := HR8.out.1.cell 3
            have y3 := HR8.out.1.free 3
            have x4 := HR8.out.1.cell 4
            have y4 := HR8.out.1.free 4
            simp only [List.getElem?_cons_zero, List.getElem?_cons_succ] at x0 x1 x2 x3 x4
            have e0 := HT8.out.cell 0
            have f0 := HT8.out.free 0
            have e1 := HT8.out.cell 1
            have f1 := HT8.out.free 1
            have e2 := HT8.out.cell 2
            have f2 := HT8.out.free 2
            have e3 := HT8.out.cell 3
            have f3 := HT8.out.free 3
            simp only [List.getElem?_cons_zero, List.getElem?_cons_succ] at e0 e1 e2 e3
            go_upto_region 24 with (fail)
            clear hgw hgw'
            clear x0 y0 x1 y1 x2 y2 x3 y3 x4 y4
            clear e0 f0 e1 f1 e2 f2 e3 f3
            have HR9 := Lib.hid ((HR8.out.pl (.slice q b.length cp) (.int .i64 ox8) (.int .i64 cx8) (.int .i64 ax8) (.int .i64 (lv8 : Nat))).far4 HG6.out.1 (.int .i64 mk) (.string (bstr mv)) (.string (bstr mn)) (.slice q8 ms.length c8))
            have HT9 : Hid (Arr (((((((((w8.setCell ⟨W.heap.size, 0, none⟩ (.slice q b.length cp)).setCell ⟨W.heap.size, 1, none⟩ (.int .i64 ox8)).setCell ⟨W.heap.size, 2, none⟩ (.int .i64 cx8)).setCell ⟨W.heap.size, 3, none⟩ (.int .i64 ax8)).setCell ⟨W.heap.size, 4, none⟩ (.int .i64 (lv8 : Nat))).setCell ⟨g, 0, none⟩ (.int .i64 mk)).setCell ⟨g, 1, none⟩ (.string (bstr mv))).setCell ⟨g, 2, none⟩ (.string (bstr mn))).setCell ⟨g, 3, none⟩ (.slice q8 ms.length c8)) 42 g [.int .i64 mk, .string (bstr mv), .string (bstr mn), .slice q8 ms.length c8]) := Arr.set4x (((((HT8.out.setCell (by have := HG6.out.1; simp only [ne_eq]; omega) _).setCell (by have := HG6.out.1; simp only [ne_eq]; omega) _).setCell (by have := HG6.out.1; simp only [ne_eq]; omega) _).setCell (by have := HG6.out.1; simp only [ne_eq]; omega) _).setCell (by have := HG6.out.1; simp only [ne_eq]; omega) _) _ _ _ _
            have hk1 := kp_setP w8 W.heap.size (.slice q b.length cp) (.int .i64 ox8) (.int .i64 cx8) (.int .i64 ax8) (.int .i64 (lv8 : Nat))
            have hk2 := kp_set4 (((((w8.setCell ⟨W.heap.size, 0, none⟩ (.slice q b.length cp)).setCell ⟨W.heap.size, 1, none⟩ (.int .i64 ox8)).setCell ⟨W.heap.size, 2, none⟩ (.int .i64 cx8)).setCell ⟨W.heap.size, 3, none⟩ (.int .i64 ax8)).setCell ⟨W.heap.size, 4, none⟩ (.int .i64 (lv8 : Nat))) g (.int .i64 mk) (.string (bstr mv)) (.string (bstr mn)) (.slice q8 ms.length c8)
            have HK9 := Lib.hid ((HK8.out.trans hk1).andThen hk2 HG6.out.2)
            have HV9 := Lib.hid ((HV8.out.kp hk1 (by have := HG6.out.1; have := HTL.out; omega)).kp hk2 HTL.out)
            have HRW9 := Lib.hid (HRW6.out.turn HK9.out.2.2.2.1 (fun b h1 h2 _ => HK9.out.2.2.2.2 b h2 (by omega)))
            have HSZ : Hid (w6.heap.size ≤ w7.heap.size) := by show _ ≤ _; have := HG6.out.2; have := HTL.out; omega
            clear hk1 hk2 HR8 HT8 HK8 HV8 HRW6 HK9
            generalize (((((((((w8.setCell ⟨W.heap.size, 0, none⟩ (.slice q b.length cp)).setCell ⟨W.heap.size, 1, none⟩ (.int .i64 ox8)).setCell ⟨W.heap.size, 2, none⟩ (.int .i64 cx8)).setCell ⟨W.heap.size, 3, none⟩ (.int .i64 ax8)).setCell ⟨W.heap.size, 4, none⟩ (.int .i64 (lv8 : Nat))).setCell ⟨g, 0, none⟩ (.int .i64 mk)).setCell ⟨g, 1, none⟩ (.string (bstr mv))).setCell ⟨g, 2, none⟩ (.string (bstr mn))).setCell ⟨g, 3, none⟩ (.slice q8 ms.length c8)) = w9 at HR9 HT9 HV9 HRW9 ⊢
            have hba : Below w9.heap.size w9 (w9.alloc (.cells #[.int .i64 mk, .string (bstr mv), .string (bstr mn), .slice q8 ms.length c8] 42)) := (Below.refl _ _).alloc (Nat.le_refl _) _
            have HRWa := Lib.hid (HRW9.out.later hba)
            have HRa := Lib.hid (HR9.out.later hba)
            have HEa : Hid (Arr (w9.alloc (.cells #[.int .i64 mk, .string (bstr mv), .string (bstr mn), .slice q8 ms.length c8] 42)) 42 w9.heap.size [.int .i64 mk, .string (bstr mv), .string (bstr mn), .slice q8 ms.length c8]) := Arr.new' _ _ _ _ rfl
            have HV9' : rdEx (Bt w7.heap.size w9.heap.size) w9 (.mk mk mv mn ms) [.int .i64 mk, .string (bstr mv), .string (bstr mn), .slice q8 ms.length c8] := ⟨_, _, _, _, rfl, HV9.out⟩
            have HXa : Hid (kdEx.rd (SubX (W.heap.size + 4) (fun _ => False) (w9.alloc (.cells #[.int .i64 mk, .string (bstr mv), .string (bstr mn), .slice q8 ms.length c8] 42)) (.slice q6 acc.length c6)) (w9.alloc (.cells #[.int .i64 mk, .string (bstr mv), .string (bstr mn), .slice q8 ms.length c8] 42)) (.mk mk mv mn ms) [.int .i64 mk, .string (bstr mv), .string (bstr mn), .slice q8 ms.length c8]) := kdEx.imp (fun b hb => ⟨by have := HG6.out.1; have := HTL.out; have := hb.1; omega, Nat.lt_of_lt_of_le hb.2 hba.size, fun e => by have h1 := HBLK.out b e.symm; have := hb.1; have := HSZ.out; omega, fun h => h⟩) (kdEx.keep (fun b hb n => hba.cell (p := ⟨b, n, none⟩) hb.2) HV9')
            have HBS : Hid (W.heap.size + 4 ≤ (w9.alloc (.cells #[.int .i64 mk, .string (bstr mv), .string (bstr mn), .slice q8 ms.length c8] 42)).heap.size) := by show _ ≤ _; have := HRa.out.2.2.2.1.lt; omega
            have e0 := HR9.out.2.2.2.1.cell 0
            have f0 := HR9.out.2.2.2.1.free 0
            have e1 := HR9.out.2.2.2.1.cell 1
            have f1 := HR9.out.2.2.2.1.free 1
            have e2 := HR9.out.2.2.2.1.cell 2
            have f2 := HR9.out.2.2.2.1.free 2
            have e3 := HR9.out.2.2.2.1.cell 3
            have f3 := HR9.out.2.2.2.1.free 3
            simp only [List.getElem?_cons_zero, List.getElem?_cons_succ] at e0 e1 e2 e3
            have t0 := HT9.out.cell 0
            have r0 := HT9.out.free 0
            have t1 := HT9.out.cell 1
            have r1 := HT9.out.free 1
            have t2 := HT9.out.cell 2
            have r2 := HT9.out.free 2
            have t3 := HT9.out.cell 3
            have r3 := HT9.out.free 3
            simp only [List.getElem?_cons_zero, List.getElem?_cons_succ] at t0 t1 t2 t3
            go_wp2_with (at_builtin; refine app_row (K := kdEx) (x := .mk mk mv mn ms) rfl _ _ rfl rfl HRWa.out rfl HEa.out HXa.out HAC.out HBS.out (fun b h => h.elim) ?_)
            intro v10 w10 r10 g10 o10
            have HR10 := Lib.hid (HRa.out.grown g10 (fun k hk => o10 k hk))
            have HRW10 := Lib.hid r10
            obtain ⟨q10, c10, hv10⟩ := r10.form
            rw [List.length_append, List.length_singleton] at hv10
            subst hv10
            clear r10 g10 o10 hba HRWa HRa HEa HXa HV9' HBS HR9 HT9 HV9 HRW9 t0 t1 t2 t3 r0 r1 r2 r3
            clear e0 f0 e1 f1 e2 f2 e3 f3
            have e0 := HR10.out.2.2.2.1.cell 0
            have f0 := HR10.out.2.2.2.1.free 0
            have e1 := HR10.out.2.2.2.1.cell 1
            have f1 := HR10.out.2.2.2.1.free 1
            have e2 := HR10.out.2.2.2.1.cell 2
            have f2 := HR10.out.2.2.2.1.free 2
            have e3 := HR10.out.2.2.2.1.cell 3
            have f3 := HR10.out.2.2.2.1.free 3
            simp only [List.getElem?_cons_zero, List.getElem?_cons_succ] at e0 e1 e2 e3
            go_wp2_with fail
            have HR11 := Lib.hid (HR10.out.ce (i := 3) (.slice q10 (acc.length + 1) c10) (by decide))
            have HRW11 := Lib.hid (HRW10.out.box (g := W.heap.size + 3) (.inl (by omega)) 3 (.slice q10 (acc.length + 1) c10))
            go_roundw
            case rel => exact ⟨i + 1, acc ++ [Ex.mk mk mv mn ms], s8, ox8, cx8, ax8, lv8, q10, c10, HLT.out, by go_num, by rw [List.length_append, HLEN.out]; rfl, by rw [List.length_append]; exact HRW11.out, by rw [List.length_append]; exact HR11.out, HP8, HL8, HE7⟩
            case measure => first | exact meas HLT.out (Nat.le_trans HNN.out (by decide)) | exact meas' HLT.out
        · have hlt' : ¬ (i : Int) < n := by omega
          have HEN : Hid (refC b (d + 1) o lv = (.mk 4 [] [] acc, s6, lv6)) := by
            show _ = _
            rw [HE6.out, show n - i = 0 by omega]; rfl
          clear HE6 IH hlt
          go_upto_region 25 with (fail)
          refine wp_region_noPanic ?_
          refine wp_region_held_drew (S := fun W' => Arr W' 59 W.heap.size [.slice q b.length cp, .int .i64 ox6, .int .i64 cx6, .int .i64 ax6, .int .i64 (lv6 : Nat)] ∧ Arr W' 42 (W.heap.size + 3) [.int .i64 4, .string ⟨#[]⟩, .string ⟨#[]⟩, .slice q6 acc.length c6]) (by kernel_rfl) ⟨HR6.out.drew.1, HR6.out.drew.2.2.2.1⟩ (fun hHeld => ?_)
          try simp only [Act.put]
          have HD := Lib.hid HR6.out.drew
          have HWD := Lib.hid (HRW6.out.later (Below.refl _ _).drew)
          generalize wr.drew = wd at HD hHeld HWD ⊢
          refine wpAnyH_take (i := 0) (oi := ⟨some 107, _, _, _, _, _⟩) (v := .agg #[.slice q b.length cp, .int .i64 ox6, .int .i64 cx6, .int .i64 ax6, .int .i64 (lv6 : Nat)]) rfl (by kernel_rfl) (by kernel_rfl) (by kernel_rfl) (fun _ _ _ h => h) (.inl ⟨by rfl, fun w' hSw => ?_⟩) hHeld ?_
          focus (have a0 := hSw.1.cell 0; have a1 := hSw.1.cell 1; have a2 := hSw.1.cell 2; have a3 := hSw.1.cell 3; have a4 := hSw.1.cell 4; simp only [List.getElem?_cons_zero, List.getElem?_cons_succ] at a0 a1 a2 a3 a4; clear hHeld; go_simp)
          try simp only [Act.put, List.setIfInBounds_toArray, List.set_cons_zero, List.set_cons_succ]
          refine wpAnyH_take (i := 1) (oi := ⟨some 108, _, _, _, _, _⟩) (v := .agg #[.int .i64 4, .string ⟨#[]⟩, .string ⟨#[]⟩, .slice q6 acc.length c6]) rfl (by kernel_rfl) (by kernel_rfl) (by kernel_rfl) (fun _ _ _ h => h) (.inl ⟨by rfl, fun w' hSw => ?_⟩) hHeld ?_
          focus (have a0 := hSw.2.cell 0; have a1 := hSw.2.cell 1; have a2 := hSw.2.cell 2; have a3 := hSw.2.cell 3; simp only [List.getElem?_cons_zero, List.getElem?_cons_succ] at a0 a1 a2 a3; clear hHeld; go_simp)
          try simp only [Act.put, List.setIfInBounds_toArray, List.set_cons_zero, List.set_cons_succ]
          refine wpAnyH_ready (rs := [2]) (by kernel_rfl) (by simp) ?_
          refine AllReadyH.cons (o := ⟨none, _, _, _, _, _⟩) rfl (fun K' hK' => ?_) AllReadyH.nil
          have p0 := HD.out.2.1.cell 0
          have z0 := HD.out.2.1.free 0
          have p1 := HD.out.2.1.cell 1
          have z1 := HD.out.2.1.free 1
          have p2 := HD.out.2.1.cell 2
          have z2 := HD.out.2.1.free 2
          have p3 := HD.out.2.1.cell 3
          have z3 := HD.out.2.1.free 3
          have p4 := HD.out.2.1.cell 4
          have z4 := HD.out.2.1.free 4
          simp only [List.getElem?_cons_zero, List.getElem?_cons_succ] at p0 p1 p2 p3 p4
          go_simp
          clear p0 z0 p1 z1 p2 z2 p3 z3 p4 z4
          have HD1 := Lib.hid (HD.out.p4 (.slice q b.length cp) (.int .i64 ox6) (.int .i64 cx6) (.int .i64 ax6) (.int .i64 (lv6 : Nat)))
          refine hK'.out _ _ ⟨HD1.out.1, HD1.out.2.2.2.1⟩ (fun _ => ?_)
          clear hK' K' hHeld
          have hHeld := And.intro HD1.out.1 HD1.out.2.2.2.1
          try simp only [Act.put, List.setIfInBounds_toArray, List.set_cons_zero, List.set_cons_succ]
          refine wpAnyH_ready (rs := [3]) (by kernel_rfl) (by simp) ?_
          refine AllReadyH.cons (o := ⟨none, _, _, _, _, _⟩) rfl (fun K' hK' => ?_) AllReadyH.nil
          have g0 := HD1.out.2.2.1.cell 0
          have h0 := HD1.out.2.2.1.free 0
          have g1 := HD1.out.2.2.1.cell 1
          have h1 := HD1.out.2.2.1.free 1
          have g2 := HD1.out.2.2.1.cell 2
          have h2 := HD1.out.2.2.1.free 2
          have g3 := HD1.out.2.2.1.cell 3
          have h3 := HD1.out.2.2.1.free 3
          simp only [List.getElem?_cons_zero, List.getElem?_cons_succ] at g0 g1 g2 g3
          go_simp
          clear g0 h0 g1 h1 g2 h2 g3 h3
          have HD2 := Lib.hid (HD1.out.p5 (.int .i64 4) (.string ⟨#[]⟩) (.string ⟨#[]⟩) (.slice q6 acc.length c6))
          refine hK'.out _ _ ⟨HD2.out.1, HD2.out.2.2.2.1⟩ (fun _ => ?_)
          clear hK' K' hHeld
          have hHeld := And.intro HD2.out.1 HD2.out.2.2.2.1
          try simp only [Act.put, List.setIfInBounds_toArray, List.set_cons_zero, List.set_cons_succ]
          refine wpAnyH_done (by kernel_rfl) ?_ _
          refine NoPanic.normal ?_
          have HWF := Lib.hid ((HWD.out.box5 (g := W.heap.size + 1) (by omega) (.slice q b.length cp) (.int .i64 ox6) (.int .i64 cx6) (.int .i64 ax6) (.int .i64 (lv6 : Nat))).box4 (g := W.heap.size + 2) (by omega) (.int .i64 4) (.string ⟨#[]⟩) (.string ⟨#[]⟩) (.slice q6 acc.length c6))
          go_wp2_with fail
          refine bodyPost_ret (resPX rfl HD2.out.2.1 HD2.out.2.2.1 rfl rfl) rfl ?_
          rw [HEN.out]
          exact ⟨_, _, _, _, rfl, HP6.out, (VE.low (HWF.out.rdE 4 [] []) (by omega)), HD2.out.2.2.2.2⟩
    · have x0 := HR1.out.1.cell 0
      have y0 := HR1.out.1.free 0
      have x1 := HR1.out.1.cell 1
      have y1 := HR1.out.1.free 1
      have x2 := HR1.out.1.cell 2
      have y2 := HR1.out.1.free 2
      have x3 := HR1.out.1.cell 3
      have y3 := HR1.out.1.free 3
      have x4 := HR1.out.1.cell 4
      have y4 := HR1.out.1.free 4
      simp only [List.getElem?_cons_zero, List.getElem?_cons_succ] at x0 x1 x2 x3 x4
      have e0 := HR1.out.2.2.2.1.cell 0
      have f0 := HR1.out.2.2.2.1.free 0
      have e1 := HR1.out.2.2.2.1.cell 1
      have f1 := HR1.out.2.2.2.1.free 1
      have e2 := HR1.out.2.2.2.1.cell 2
      have f2 := HR1.out.2.2.2.1.free 2
      have e3 := HR1.out.2.2.2.1.cell 3
      have f3 := HR1.out.2.2.2.1.free 3
      simp only [List.getElem?_cons_zero, List.getElem?_cons_succ] at e0 e1 e2 e3
      go_upto_region 4 with (fail)
      have HR2 := Lib.hid ((HR1.out.pl (.slice q b.length cp) (.int .i64 (o1 : Nat)) (.int .i64 0) (.int .i64 0) (.int .i64 (lv : Nat))).ce (i := 0) (.int .i64 5) (by decide))
      clear x0 y0 x1 y1 x2 y2 x3 y3 x4 y4
      clear e0 f0 e1 f1 e2 f2 e3 f3
      have HR3 : Hid (RB W [.slice q b.length cp, .int .i64 (o1 : Nat), .int .i64 0, .int .i64 0, .int .i64 (lv : Nat)] [.slice none 0 0, .int .i64 0, .int .i64 0, .int .i64 0, .int .i64 0] [.int .i64 0, .string ⟨#[]⟩, .string ⟨#[]⟩, .slice none 0 0] [.int .i64 5, .string ⟨#[]⟩, .string ⟨#[]⟩, .slice none 0 0] ((((((w1.setCell ⟨W.heap.size, 0, none⟩ (.slice q b.length cp)).setCell ⟨W.heap.size, 1, none⟩ (.int .i64 (o1 : Nat))).setCell ⟨W.heap.size, 2, none⟩ (.int .i64 0)).setCell ⟨W.heap.size, 3, none⟩ (.int .i64 0)).setCell ⟨W.heap.size, 4, none⟩ (.int .i64 (lv : Nat))).setCell ⟨W.heap.size + 3, 0, none⟩ (.int .i64 5))) := HR2.out
      clear HR1 HR2
      generalize ((((((w1.setCell ⟨W.heap.size, 0, none⟩ (.slice q b.length cp)).setCell ⟨W.heap.size, 1, none⟩ (.int .i64 (o1 : Nat))).setCell ⟨W.heap.size, 2, none⟩ (.int .i64 0)).setCell ⟨W.heap.size, 3, none⟩ (.int .i64 0)).setCell ⟨W.heap.size, 4, none⟩ (.int .i64 (lv : Nat))).setCell ⟨W.heap.size + 3, 0, none⟩ (.int .i64 5)) = w3 at HR3 ⊢
      clear HK5 HKG
      have x0 := HR3.out.1.cell 0
      have y0 := HR3.out.1.free 0
      have x1 := HR3.out.1.cell 1
      have y1 := HR3.out.1.free 1
      have x2 := HR3.out.1.cell 2
      have y2 := HR3.out.1.free 2
      have x3 := HR3.out.1.cell 3
      have y3 := HR3.out.1.free 3
      have x4 := HR3.out.1.cell 4
      have y4 := HR3.out.1.free 4
      simp only [List.getElem?_cons_zero, List.getElem?_cons_succ] at x0 x1 x2 x3 x4
      have e0 := HR3.out.2.2.2.1.cell 0
      have f0 := HR3.out.2.2.2.1.free 0
      have e1 := HR3.out.2.2.2.1.cell 1
      have f1 := HR3.out.2.2.2.1.free 1
      have e2 := HR3.out.2.2.2.1.cell 2
      have f2 := HR3.out.2.2.2.1.free 2
      have e3 := HR3.out.2.2.2.1.cell 3
      have f3 := HR3.out.2.2.2.1.free 3
      simp only [List.getElem?_cons_zero, List.getElem?_cons_succ] at e0 e1 e2 e3
      go_upto_region 19 with (fail)
      clear x0 y0 x1 y1 x2 y2 x3 y3 x4 y4
      clear e0 f0 e1 f1 e2 f2 e3 f3
      obtain ⟨n, hn⟩ : ∃ n : Nat, n = 2 := ⟨_, rfl⟩
      have HNN : Hid (n ≤ 32) := by show _ ≤ _; omega
      have HNQ : (2 : Int) = (n : Int) := by omega
      obtain ⟨s5, hs5⟩ : ∃ x, x = St.go o1 := ⟨_, rfl⟩
      have HE1 : Hid (refC b (d + 1) o lv = (.mk 5 [] [] (loopE (refC b d) (n - 0) [] s5 lv).1, (loopE (refC b d) (n - 0) [] s5 lv).2)) := by
        show _ = _
        rw [HE0.out.trans (topE_go.trans ((if_neg (by omega)).trans (if_neg (by omega)))), hn, hs5]; rfl
      have HP5 : Hid (PI b s5 (o1 : Nat) 0 0) := by rw [hs5]; exact PI.of_go HOL1.out
      clear hs5 HE0
      rw [show (Value.int .i64 2) = Value.int .i64 (n : Int) by rw [HNQ]]
      clear hn HNQ
      obtain ⟨ox5, hox5⟩ : ∃ x : Int, x = (o1 : Nat) := ⟨_, rfl⟩
      obtain ⟨cx5, hcx5⟩ : ∃ x : Int, x = 0 := ⟨_, rfl⟩
      obtain ⟨ax5, hax5⟩ : ∃ x : Int, x = 0 := ⟨_, rfl⟩
      have HR5 : Hid (RB W [.slice q b.length cp, .int .i64 ox5, .int .i64 cx5, .int .i64 ax5, .int .i64 (lv : Nat)] [.slice none 0 0, .int .i64 0, .int .i64 0, .int .i64 0, .int .i64 0] [.int .i64 0, .string ⟨#[]⟩, .string ⟨#[]⟩, .slice none 0 0] [.int .i64 5, .string ⟨#[]⟩, .string ⟨#[]⟩, .slice none 0 0] w3) := by rw [hox5, hcx5, hax5]; exact HR3.out
      have HP5 : Hid (PI b s5 ox5 cx5 ax5) := by rw [hox5, hcx5, hax5]; exact HP5.out
      clear hox5 hcx5 hax5 HR3
      obtain ⟨wz5, hwz⟩ : ∃ x, x = w3 := ⟨_, rfl⟩
      rw [← hwz] at HR5 ⊢
      clear hwz
      go_wp2_with fail
      go_loopw [9] (fun iv wr => ∃ (i : Nat) (acc : List Ex) (s6 : St) (ox6 cx6 ax6 : Int) (lv6 : Nat) (q6 : Option Addr) (c6 : Nat), i ≤ n ∧ iv = .int .i64 (i : Nat) ∧ Hid (acc.length = i) ∧ Hid (PRow kdEx (W.heap.size + 4) (fun _ => False) wr (.slice q6 acc.length c6) acc) ∧ Hid (RB W [.slice q b.length cp, .int .i64 ox6, .int .i64 cx6, .int .i64 ax6, .int .i64 (lv6 : Nat)] [.slice none 0 0, .int .i64 0, .int .i64 0, .int .i64 0, .int .i64 0] [.int .i64 0, .string ⟨#[]⟩, .string ⟨#[]⟩, .slice none 0 0] [.int .i64 5, .string ⟨#[]⟩, .string ⟨#[]⟩, .slice q6 acc.length c6] wr) ∧ Hid (PI b s6 ox6 cx6 ax6) ∧ Hid (lv6 ≤ 32) ∧ Hid (refC b (d + 1) o lv = (.mk 5 [] [] (loopE (refC b d) (n - i) acc s6 lv6).1, (loopE (refC b d) (n - i) acc s6 lv6).2))) (fun iv _ => n - (intOf iv).toNat)
      case atStart => exact ⟨0, [], s5, ox5, cx5, ax5, lv, none, 0, Nat.zero_le _, rfl, rfl, PRow.nil _ _ _ _, HR5, HP5, HLV, HE1⟩
      case round =>
        obtain ⟨i, acc, s6, ox6, cx6, ax6, lv6, q6, c6, hi, rfl, HLEN, HRW6, HR6, HP6, HL6, HE6⟩ := hrel
        by_cases hlt : i < n
        · cases s6 with
          | er c a =>
            have hlt' : (i : Int) < n := by omega
            have hcx := HP6.out.er
            have hc2 : (cx6 == 0) = false := by simpa using hcx
            have HEN : Hid (refC b (d + 1) o lv = (.mk 5 [] [] acc, .er c a, lv6)) := by
              show _ = _
              rw [HE6.out, loopE_er]
            clear HE6 IH hlt
            have x0 := HR6.out.1.cell 0
            have y0 := HR6.out.1.free 0
            have x1 := HR6.out.1.cell 1
            have y1 := HR6.out.1.free 1
            have x2 := HR6.out.1.cell 2
            have y2 := HR6.out.1.free 2
            have x3 := HR6.out.1.cell 3
            have y3 := HR6.out.1.free 3
            have x4 := HR6.out.1.cell 4
            have y4 := HR6.out.1.free 4
            simp only [List.getElem?_cons_zero, List.getElem?_cons_succ] at x0 x1 x2 x3 x4
            go_upto_region 25 with (fail)
            clear x0 y0 x1 y1 x2 y2 x3 y3 x4 y4
            refine wp_region_noPanic ?_
            refine wp_region_held_drew (S := fun W' => Arr W' 59 W.heap.size [.slice q b.length cp, .int .i64 ox6, .int .i64 cx6, .int .i64 ax6, .int .i64 (lv6 : Nat)] ∧ Arr W' 42 (W.heap.size + 3) [.int .i64 5, .string ⟨#[]⟩, .string ⟨#[]⟩, .slice q6 acc.length c6]) (by kernel_rfl) ⟨HR6.out.drew.1, HR6.out.drew.2.2.2.1⟩ (fun hHeld => ?_)
            try simp only [Act.put]
            have HD := Lib.hid HR6.out.drew
            have HWD := Lib.hid (HRW6.out.later (Below.refl _ _).drew)
            generalize wr.drew = wd at HD hHeld HWD ⊢
            refine wpAnyH_take (i := 0) (oi := ⟨some 107, _, _, _, _, _⟩) (v := .agg #[.slice q b.length cp, .int .i64 ox6, .int .i64 cx6, .int .i64 ax6, .int .i64 (lv6 : Nat)]) rfl (by kernel_rfl) (by kernel_rfl) (by kernel_rfl) (fun _ _ _ h => h) (.inl ⟨by rfl, fun w' hSw => ?_⟩) hHeld ?_
            focus (have a0 := hSw.1.cell 0; have a1 := hSw.1.cell 1; have a2 := hSw.1.cell 2; have a3 := hSw.1.cell 3; have a4 := hSw.1.cell 4; simp only [List.getElem?_cons_zero, List.getElem?_cons_succ] at a0 a1 a2 a3 a4; clear hHeld; go_simp)
            try simp only [Act.put, List.setIfInBounds_toArray, List.set_cons_zero, List.set_cons_succ]
            refine wpAnyH_take (i := 1) (oi := ⟨some 108, _, _, _, _, _⟩) (v := .agg #[.int .i64 5, .string ⟨#[]⟩, .string ⟨#[]⟩, .slice q6 acc.length c6]) rfl (by kernel_rfl) (by kernel_rfl) (by kernel_rfl) (fun _ _ _ h => h) (.inl ⟨by rfl, fun w' hSw => ?_⟩) hHeld ?_
            focus (have a0 := hSw.2.cell 0; have a1 := hSw.2.cell 1; have a2 := hSw.2.cell 2; have a3 := hSw.2.cell 3; simp only [List.getElem?_cons_zero, List.getElem?_cons_succ] at a0 a1 a2 a3; clear hHeld; go_simp)
            try simp only [Act.put, List.setIfInBounds_toArray, List.set_cons_zero, List.set_cons_succ]
            refine wpAnyH_ready (rs := [2]) (by kernel_rfl) (by simp) ?_
            refine AllReadyH.cons (o := ⟨none, _, _, _, _, _⟩) rfl (fun K' hK' => ?_) AllReadyH.nil
            have p0 := HD.out.2.1.cell 0
            have z0 := HD.out.2.1.free 0
            have p1 := HD.out.2.1.cell 1
            have z1 := HD.out.2.1.free 1
            have p2 := HD.out.2.1.cell 2
            have z2 := HD.out.2.1.free 2
            have p3 := HD.out.2.1.cell 3
            have z3 := HD.out.2.1.free 3
            have p4 := HD.out.2.1.cell 4
            have z4 := HD.out.2.1.free 4
            simp only [List.getElem?_cons_zero, List.getElem?_cons_succ] at p0 p1 p2 p3 p4
            go_simp
            clear p0 z0 p1 z1 p2 z2 p3 z3 p4 z4
            have HD1 := Lib.hid (HD.out.p4 (.slice q b.length cp) (.int .i64 ox6) (.int .i64 cx6) (.int .i64 ax6) (.int .i64 (lv6 : Nat)))
            refine hK'.out _ _ ⟨HD1.out.1, HD1.out.2.2.2.1⟩ (fun _ => ?_)
            clear hK' K' hHeld
            have hHeld := And.intro HD1.out.1 HD1.out.2.2.2.1
            try simp only [Act.put, List.setIfInBounds_toArray, List.set_cons_zero, List.set_cons_succ]
            refine wpAnyH_ready (rs := [3]) (by kernel_rfl) (by simp) ?_
            refine AllReadyH.cons (o := ⟨none, _, _, _, _, _⟩) rfl (fun K' hK' => ?_) AllReadyH.nil
            have g0 := HD1.out.2.2.1.cell 0
            have h0 := HD1.out.2.2.1.free 0
            have g1 := HD1.out.2.2.1.cell 1
            have h1 := HD1.out.2.2.1.free 1
            have g2 := HD1.out.2.2.1.cell 2
            have h2 := HD1.out.2.2.1.free 2
            have g3 := HD1.out.2.2.1.cell 3
            have h3 := HD1.out.2.2.1.free 3
            simp only [List.getElem?_cons_zero, List.getElem?_cons_succ] at g0 g1 g2 g3
            go_simp
            clear g0 h0 g1 h1 g2 h2 g3 h3
            have HD2 := Lib.hid (HD1.out.p5 (.int .i64 5) (.string ⟨#[]⟩) (.string ⟨#[]⟩) (.slice q6 acc.length c6))
            refine hK'.out _ _ ⟨HD2.out.1, HD2.out.2.2.2.1⟩ (fun _ => ?_)
            clear hK' K' hHeld
            have hHeld := And.intro HD2.out.1 HD2.out.2.2.2.1
            try simp only [Act.put, List.setIfInBounds_toArray, List.set_cons_zero, List.set_cons_succ]
            refine wpAnyH_done (by kernel_rfl) ?_ _
            refine NoPanic.normal ?_
            have HWF := Lib.hid ((HWD.out.box5 (g := W.heap.size + 1) (by omega) (.slice q b.length cp) (.int .i64 ox6) (.int .i64 cx6) (.int .i64 ax6) (.int .i64 (lv6 : Nat))).box4 (g := W.heap.size + 2) (by omega) (.int .i64 5) (.string ⟨#[]⟩) (.string ⟨#[]⟩) (.slice q6 acc.length c6))
            go_wp2_with fail
            refine bodyPost_ret (resPX rfl HD2.out.2.1 HD2.out.2.2.1 rfl rfl) rfl ?_
            rw [HEN.out]
            exact ⟨_, _, _, _, rfl, HP6.out, (VE.low (HWF.out.rdE 5 [] []) (by omega)), HD2.out.2.2.2.2⟩
          | go o2 =>
            obtain ⟨rfl, rfl, rfl, hol2⟩ := HP6.out.go
            have HOL2 := Lib.hid hol2
            have hlt' : (i : Int) < n := by omega
            have hw : wrap64 ((i : Int) + 1) = (i : Int) + 1 := by unfold wrap64; have := HNN.out; omega
            have HLT : Hid (i < n) := hlt
            obtain ⟨x, hx⟩ : ∃ x, x = (refC b d o2 lv6).1 := ⟨_, rfl⟩
            obtain ⟨s8, hs8⟩ : ∃ x, x = (refC b d o2 lv6).2.1 := ⟨_, rfl⟩
            obtain ⟨lv8, hl8⟩ : ∃ x, x = (refC b d o2 lv6).2.2 := ⟨_, rfl⟩
            have HL8 : Hid (lv8 ≤ 32) := by show _ ≤ _; rw [hl8]; exact (ref_as b d o2 lv6 HL6.out).2
            obtain ⟨mk, mv, mn, ms⟩ := x
            have HE7 : Hid (refC b (d + 1) o lv = (.mk 5 [] [] (loopE (refC b d) (n - (i + 1)) (acc ++ [.mk mk mv mn ms]) s8 lv8).1, (loopE (refC b d) (n - (i + 1)) (acc ++ [.mk mk mv mn ms]) s8 lv8).2)) := by
              show _ = _
              rw [HE6.out, show n - i = (n - (i + 1)) + 1 by omega, loopE, ← hx, ← hs8, ← hl8]
            have HCT : Hid (∀ w7, Rd w7.heap.size w7 (.slice q b.length cp) b → Calls Tryz.prog 27 #[.agg #[.slice q b.length cp, .int .i64 (o2 : Nat), .int .i64 0, .int .i64 0, .int .i64 (lv6 : Nat)], .int .i64 ((D : Int) + 1)] w7 fun e w' => ∃ ox8 cx8 ax8 v, e = .returned (.tuple #[.agg #[.slice q b.length cp, .int .i64 ox8, .int .i64 cx8, .int .i64 ax8, .int .i64 (lv8 : Nat)], v]) ∧ PI b s8 ox8 cx8 ax8 ∧ VE w7.heap.size (.mk mk mv mn ms) w' v ∧ Below w7.heap.size w7 w') := fun w7 hw7 => by
              have h := IH.out w7 o2 lv6 hw7 HBL.out HOL2.out HL6.out
              unfold QPost at h
              rw [← hx, ← hs8, ← hl8] at h
              exact h
            have HAC : Hid (acc.length + 1 ≤ 200000) := by show _ ≤ _; have := HNN.out; have := HLEN.out; omega
            clear HE6 hx hs8 hl8 hlt IH hol2 HP6
            generalize hwr : wr = w6 at HRW6 HR6 ⊢
            clear hwr
            have x0 := HR6.out.1.cell 0
            have y0 := HR6.out.1.free 0
            have x1 := HR6.out.1.cell 1
            have y1 := HR6.out.1.free 1
            have x2 := HR6.out.1.cell 2
            have y2 := HR6.out.1.free 2
            have x3 := HR6.out.1.cell 3
            have y3 := HR6.out.1.free 3
            have x4 := HR6.out.1.cell 4
            have y4 := HR6.out.1.free 4
            simp only [List.getElem?_cons_zero, List.getElem?_cons_succ] at x0 x1 x2 x3 x4
            go_upto_region 23 with (fail)
            clear x0 y0 x1 y1 x2 y2 x3 y3 x4 y4
            have hb7 : Below w6.heap.size w6 (w6.alloc (.cells #[.int .i64 0, .string ⟨#[]⟩, .string ⟨#[]⟩, .slice none 0 0] 42)) := (Below.refl _ _).alloc (Nat.le_refl _) _
            have HR7 := Lib.hid (HR6.out.later hb7)
            have HT7 : Hid (Arr (w6.alloc (.cells #[.int .i64 0, .string ⟨#[]⟩, .string ⟨#[]⟩, .slice none 0 0] 42)) 42 w6.heap.size [.int .i64 0, .string ⟨#[]⟩, .string ⟨#[]⟩, .slice none 0 0]) := Arr.new' _ _ _ _ rfl
            have HK7 : Hid (Kp W.heap.size w6 (w6.alloc (.cells #[.int .i64 0, .string ⟨#[]⟩, .string ⟨#[]⟩, .slice none 0 0] 42))) := Kp.of hb7
            have HBLK : Hid (∀ b, (Value.slice q6 acc.length c6).ownBlock = some b → b < w6.heap.size) := fun b hb => by obtain ⟨_, h, _⟩ := HRW6.out; exact (h.lt b hb).2
            obtain ⟨g, hg⟩ : ∃ g, g = w6.heap.size := ⟨_, rfl⟩
            have HG6 : Hid (W.heap.size + 4 ≤ g ∧ w6.heap.size ≤ g) := ⟨by have := HR6.out.2.2.2.1.lt; omega, Nat.le_of_eq hg.symm⟩
            rw [← hg] at HT7 ⊢
            clear hb7 hg HR6
            generalize w6.alloc (.cells #[.int .i64 0, .string ⟨#[]⟩, .string ⟨#[]⟩, .slice none 0 0] 42) = w7 at HR7 HT7 HK7 ⊢
            have HC7 := Lib.hid (HCT.out w7 ((HRD.out.below HR7.out.2.2.2.2 (Nat.le_refl _)).mono HR7.out.2.2.2.2.size))
            have HTL : Hid (g < w7.heap.size) := HT7.out.lt
            have x0 := HR7.out.1.cell 0
            have y0 := HR7.out.1.free 0
            have x1 := HR7.out.1.cell 1
            have y1 := HR7.out.1.free 1
            have x2 := HR7.out.1.cell 2
            have y2 := HR7.out.1.free 2
            have x3 := HR7.out.1.cell 3
            have y3 := HR7.out.1.free 3
            have x4 := HR7.out.1.cell 4
            have y4 := HR7.out.1.free 4
            simp only [List.getElem?_cons_zero, List.getElem?_cons_succ] at x0 x1 x2 x3 x4
            go_wp2_with fail
            refine HC7.out.mono ?_
            rintro e w8 ⟨ox8, cx8, ax8, v, rfl, hp8, hv8, b8⟩
            have r8' : VE w7.heap.size (.mk mk mv mn ms) w8 v := hv8
            obtain ⟨q8, c8, rfl, _, _⟩ := RdE.form hv8
            unfold exv at r8' ⊢
            dsimp only [Ex.kind, Ex.via, Ex.nm, Ex.kids] at r8' ⊢
            have HV8 : Hid (VE w7.heap.size (.mk mk mv mn ms) w8 (.agg #[.int .i64 mk, .string (bstr mv), .string (bstr mn), .slice q8 ms.length c8])) := r8'
            have HP8 := Lib.hid hp8
            have HR8 := Lib.hid (HR7.out.later b8)
            have HT8 := Lib.hid (HT7.out.later b8)
            have HK8 := Lib.hid (HK7.out.trans (Kp.of b8))
            clear r8' hv8 hp8 b8 HC7 HCT HR7 HT7 HK7
            have hgw : ¬ g = W.heap.size := by have := HG6.out.1; omega
            have hgw' : ¬ W.heap.size = g := by have := HG6.out.1; omega
            clear x0 y0 x1 y1 x2 y2 x3 y3 x4 y4
            have x0 := HR8.out.1.cell 0
            have y0 := HR8.out.1.free 0
            have x1 := HR8.out.1.cell 1
            have y1 := HR8.out.1.free 1
            have x2 := HR8.out.1.cell 2
            have y2 := HR8.out.1.free 2
            have x3 := HR8.out.1.cell 3
            have y3 := HR8.out.1.free 3
            have x4 := HR8.out.1.cell 4
            have y4 := HR8.out.1.free 4
            simp only [List.getElem?_cons_zero, List.getElem?_cons_succ] at x0 x1 x2 x3 x4
            have e0 := HT8.out.cell 0
            have f0 := HT8.out.free 0
            have e1 := HT8.out.cell 1
            have f1 := HT8.out.free 1
            have e2 := HT8.out.cell 2
            have f2 := HT8.out.free 2
            have e3 := HT8.out.cell 3
            have f3 := HT8.out.free 3
            simp only [List.getElem?_cons_zero, List.getElem?_cons_succ] at e0 e1 e2 e3
            go_upto_region 24 with (fail)
            clear hgw hgw'
            clear x0 y0 x1 y1 x2 y2 x3 y3 x4 y4
            clear e0 f0 e1 f1 e2 f2 e3 f3
            have HR9 := Lib.hid ((HR8.out.pl (.slice q b.length cp) (.int .i64 ox8) (.int .i64 cx8) (.int .i64 ax8) (.int .i64 (lv8 : Nat))).far4 HG6.out.1 (.int .i64 mk) (.string (bstr mv)) (.string (bstr mn)) (.slice q8 ms.length c8))
            have HT9 : Hid (Arr (((((((((w8.setCell ⟨W.heap.size, 0, none⟩ (.slice q b.length cp)).setCell ⟨W.heap.size, 1, none⟩ (.int .i64 ox8)).setCell ⟨W.heap.size, 2, none⟩ (.int .i64 cx8)).setCell ⟨W.heap.size, 3, none⟩ (.int .i64 ax8)).setCell ⟨W.heap.size, 4, none⟩ (.int .i64 (lv8 : Nat))).setCell ⟨g, 0, none⟩ (.int .i64 mk)).setCell ⟨g, 1, none⟩ (.string (bstr mv))).setCell ⟨g, 2, none⟩ (.string (bstr mn))).setCell ⟨g, 3, none⟩ (.slice q8 ms.length c8)) 42 g [.int .i64 mk, .string (bstr mv), .string (bstr mn), .slice q8 ms.length c8]) := Arr.set4x (((((HT8.out.setCell (by have := HG6.out.1; simp only [ne_eq]; omega) _).setCell (by have := HG6.out.1; simp only [ne_eq]; omega) _).setCell (by have := HG6.out.1; simp only [ne_eq]; omega) _).setCell (by have := HG6.out.1; simp only [ne_eq]; omega) _).setCell (by have := HG6.out.1; simp only [ne_eq]; omega) _) _ _ _ _
            have hk1 := kp_setP w8 W.heap.size (.slice q b.length cp) (.int .i64 ox8) (.int .i64 cx8) (.int .i64 ax8) (.int .i64 (lv8 : Nat))
            have hk2 := kp_set4 (((((w8.setCell ⟨W.heap.size, 0, none⟩ (.slice q b.length cp)).setCell ⟨W.heap.size, 1, none⟩ (.int .i64 ox8)).setCell ⟨W.heap.size, 2, none⟩ (.int .i64 cx8)).setCell ⟨W.heap.size, 3, none⟩ (.int .i64 ax8)).setCell ⟨W.heap.size, 4, none⟩ (.int .i64 (lv8 : Nat))) g (.int .i64 mk) (.string (bstr mv)) (.string (bstr mn)) (.slice q8 ms.length c8)
            have HK9 := Lib.hid ((HK8.out.trans hk1).andThen hk2 HG6.out.2)
            have HV9 := Lib.hid ((HV8.out.kp hk1 (by have := HG6.out.1; have := HTL.out; omega)).kp hk2 HTL.out)
            have HRW9 := Lib.hid (HRW6.out.turn HK9.out.2.2.2.1 (fun b h1 h2 _ => HK9.out.2.2.2.2 b h2 (by omega)))
            have HSZ : Hid (w6.heap.size ≤ w7.heap.size) := by show _ ≤ _; have := HG6.out.2; have := HTL.out; omega
            clear hk1 hk2 HR8 HT8 HK8 HV8 HRW6 HK9
            generalize (((((((((w8.setCell ⟨W.heap.size, 0, none⟩ (.slice q b.length cp)).setCell ⟨W.heap.size, 1, none⟩ (.int .i64 ox8)).setCell ⟨W.heap.size, 2, none⟩ (.int .i64 cx8)).setCell ⟨W.heap.size, 3, none⟩ (.int .i64 ax8)).setCell ⟨W.heap.size, 4, none⟩ (.int .i64 (lv8 : Nat))).setCell ⟨g, 0, none⟩ (.int .i64 mk)).setCell ⟨g, 1, none⟩ (.string (bstr mv))).setCell ⟨g, 2, none⟩ (.string (bstr mn))).setCell ⟨g, 3, none⟩ (.slice q8 ms.length c8)) = w9 at HR9 HT9 HV9 HRW9 ⊢
            have hba : Below w9.heap.size w9 (w9.alloc (.cells #[.int .i64 mk, .string (bstr mv), .string (bstr mn), .slice q8 ms.length c8] 42)) := (Below.refl _ _).alloc (Nat.le_refl _) _
            have HRWa := Lib.hid (HRW9.out.later hba)
            have HRa := Lib.hid (HR9.out.later hba)
            have HEa : Hid (Arr (w9.alloc (.cells #[.int .i64 mk, .string (bstr mv), .string (bstr mn), .slice q8 ms.length c8] 42)) 42 w9.heap.size [.int .i64 mk, .string (bstr mv), .string (bstr mn), .slice q8 ms.length c8]) := Arr.new' _ _ _ _ rfl
            have HV9' : rdEx (Bt w7.heap.size w9.heap.size) w9 (.mk mk mv mn ms) [.int .i64 mk, .string (bstr mv), .string (bstr mn), .slice q8 ms.length c8] := ⟨_, _, _, _, rfl, HV9.out⟩
            have HXa : Hid (kdEx.rd (SubX (W.heap.size + 4) (fun _ => False) (w9.alloc (.cells #[.int .i64 mk, .string (bstr mv), .string (bstr mn), .slice q8 ms.length c8] 42)) (.slice q6 acc.length c6)) (w9.alloc (.cells #[.int .i64 mk, .string (bstr mv), .string (bstr mn), .slice q8 ms.length c8] 42)) (.mk mk mv mn ms) [.int .i64 mk, .string (bstr mv), .string (bstr mn), .slice q8 ms.length c8]) := kdEx.imp (fun b hb => ⟨by have := HG6.out.1; have := HTL.out; have := hb.1; omega, Nat.lt_of_lt_of_le hb.2 hba.size, fun e => by have h1 := HBLK.out b e.symm; have := hb.1; have := HSZ.out; omega, fun h => h⟩) (kdEx.keep (fun b hb n => hba.cell (p := ⟨b, n, none⟩) hb.2) HV9')
            have HBS : Hid (W.heap.size + 4 ≤ (w9.alloc (.cells #[.int .i64 mk, .string (bstr mv), .string (bstr mn), .slice q8 ms.length c8] 42)).heap.size) := by show _ ≤ _; have := HRa.out.2.2.2.1.lt; omega
            have e0 := HR9.out.2.2.2.1.cell 0
            have f0 := HR9.out.2.2.2.1.free 0
            have e1 := HR9.out.2.2.2.1.cell 1
            have f1 := HR9.out.2.2.2.1.free 1
            have e2 := HR9.out.2.2.2.1.cell 2
            have f2 := HR9.out.2.2.2.1.free 2
            have e3 := HR9.out.2.2.2.1.cell 3
            have f3 := HR9.out.2.2.2.1.free 3
            simp only [List.getElem?_cons_zero, List.getElem?_cons_succ] at e0 e1 e2 e3
            have t0 := HT9.out.cell 0
            have r0 := HT9.out.free 0
            have t1 := HT9.out.cell 1
            have r1 := HT9.out.free 1
            have t2 := HT9.out.cell 2
            have r2 := HT9.out.free 2
            have t3 := HT9.out.cell 3
            have r3 := HT9.out.free 3
            simp only [List.getElem?_cons_zero, List.getElem?_cons_succ] at t0 t1 t2 t3
            go_wp2_with (at_builtin; refine app_row (K := kdEx) (x := .mk mk mv mn ms) rfl _ _ rfl rfl HRWa.out rfl HEa.out HXa.out HAC.out HBS.out (fun b h => h.elim) ?_)
            intro v10 w10 r10 g10 o10
            have HR10 := Lib.hid (HRa.out.grown g10 (fun k hk => o10 k hk))
            have HRW10 := Lib.hid r10
            obtain ⟨q10, c10, hv10⟩ := r10.form
            rw [List.length_append, List.length_singleton] at hv10
            subst hv10
            clear r10 g10 o10 hba HRWa HRa HEa HXa HV9' HBS HR9 HT9 HV9 HRW9 t0 t1 t2 t3 r0 r1 r2 r3
            clear e0 f0 e1 f1 e2 f2 e3 f3
            have e0 := HR10.out.2.2.2.1.cell 0
            have f0 := HR10.out.2.2.2.1.free 0
            have e1 := HR10.out.2.2.2.1.cell 1
            have f1 := HR10.out.2.2.2.1.free 1
            have e2 := HR10.out.2.2.2.1.cell 2
            have f2 := HR10.out.2.2.2.1.free 2
            have e3 := HR10.out.2.2.2.1.cell 3
            have f3 := HR10.out.2.2.2.1.free 3
            simp only [List.getElem?_cons_zero, List.getElem?_cons_succ] at e0 e1 e2 e3
            go_wp2_with fail
            have HR11 := Lib.hid (HR10.out.ce (i := 3) (.slice q10 (acc.length + 1) c10) (by decide))
            have HRW11 := Lib.hid (HRW10.out.box (g := W.heap.size + 3) (.inl (by omega)) 3 (.slice q10 (acc.length + 1) c10))
            go_roundw
            case rel => exact ⟨i + 1, acc ++ [Ex.mk mk mv mn ms], s8, ox8, cx8, ax8, lv8, q10, c10, HLT.out, by go_num, by rw [List.length_append, HLEN.out]; rfl, by rw [List.length_append]; exact HRW11.out, by rw [List.length_append]; exact HR11.out, HP8, HL8, HE7⟩
            case measure => first | exact meas HLT.out (Nat.le_trans HNN.out (by decide)) | exact meas' HLT.out
        · have hlt' : ¬ (i : Int) < n := by omega
          have HEN : Hid (refC b (d + 1) o lv = (.mk 5 [] [] acc, s6, lv6)) := by
            show _ = _
            rw [HE6.out, show n - i = 0 by omega]; rfl
          clear HE6 IH hlt
          go_upto_region 25 with (fail)
          refine wp_region_noPanic ?_
          refine wp_region_held_drew (S := fun W' => Arr W' 59 W.heap.size [.slice q b.length cp, .int .i64 ox6, .int .i64 cx6, .int .i64 ax6, .int .i64 (lv6 : Nat)] ∧ Arr W' 42 (W.heap.size + 3) [.int .i64 5, .string ⟨#[]⟩, .string ⟨#[]⟩, .slice q6 acc.length c6]) (by kernel_rfl) ⟨HR6.out.drew.1, HR6.out.drew.2.2.2.1⟩ (fun hHeld => ?_)
          try simp only [Act.put]
          have HD := Lib.hid HR6.out.drew
          have HWD := Lib.hid (HRW6.out.later (Below.refl _ _).drew)
          generalize wr.drew = wd at HD hHeld HWD ⊢
          refine wpAnyH_take (i := 0) (oi := ⟨some 107, _, _, _, _, _⟩) (v := .agg #[.slice q b.length cp, .int .i64 ox6, .int .i64 cx6, .int .i64 ax6, .int .i64 (lv6 : Nat)]) rfl (by kernel_rfl) (by kernel_rfl) (by kernel_rfl) (fun _ _ _ h => h) (.inl ⟨by rfl, fun w' hSw => ?_⟩) hHeld ?_
          focus (have a0 := hSw.1.cell 0; have a1 := hSw.1.cell 1; have a2 := hSw.1.cell 2; have a3 := hSw.1.cell 3; have a4 := hSw.1.cell 4; simp only [List.getElem?_cons_zero, List.getElem?_cons_succ] at a0 a1 a2 a3 a4; clear hHeld; go_simp)
          try simp only [Act.put, List.setIfInBounds_toArray, List.set_cons_zero, List.set_cons_succ]
          refine wpAnyH_take (i := 1) (oi := ⟨some 108, _, _, _, _, _⟩) (v := .agg #[.int .i64 5, .string ⟨#[]⟩, .string ⟨#[]⟩, .slice q6 acc.length c6]) rfl (by kernel_rfl) (by kernel_rfl) (by kernel_rfl) (fun _ _ _ h => h) (.inl ⟨by rfl, fun w' hSw => ?_⟩) hHeld ?_
          focus (have a0 := hSw.2.cell 0; have a1 := hSw.2.cell 1; have a2 := hSw.2.cell 2; have a3 := hSw.2.cell 3; simp only [List.getElem?_cons_zero, List.getElem?_cons_succ] at a0 a1 a2 a3; clear hHeld; go_simp)
          try simp only [Act.put, List.setIfInBounds_toArray, List.set_cons_zero, List.set_cons_succ]
          refine wpAnyH_ready (rs := [2]) (by kernel_rfl) (by simp) ?_
          refine AllReadyH.cons (o := ⟨none, _, _, _, _, _⟩) rfl (fun K' hK' => ?_) AllReadyH.nil
          have p0 := HD.out.2.1.cell 0
          have z0 := HD.out.2.1.free 0
          have p1 := HD.out.2.1.cell 1
          have z1 := HD.out.2.1.free 1
          have p2 := HD.out.2.1.cell 2
          have z2 := HD.out.2.1.free 2
          have p3 := HD.out.2.1.cell 3
          have z3 := HD.out.2.1.free 3
          have p4 := HD.out.2.1.cell 4
          have z4 := HD.out.2.1.free 4
          simp only [List.getElem?_cons_zero, List.getElem?_cons_succ] at p0 p1 p2 p3 p4
          go_simp
          clear p0 z0 p1 z1 p2 z2 p3 z3 p4 z4
          have HD1 := Lib.hid (HD.out.p4 (.slice q b.length cp) (.int .i64 ox6) (.int .i64 cx6) (.int .i64 ax6) (.int .i64 (lv6 : Nat)))
          refine hK'.out _ _ ⟨HD1.out.1, HD1.out.2.2.2.1⟩ (fun _ => ?_)
          clear hK' K' hHeld
          have hHeld := And.intro HD1.out.1 HD1.out.2.2.2.1
          try simp only [Act.put, List.setIfInBounds_toArray, List.set_cons_zero, List.set_cons_succ]
          refine wpAnyH_ready (rs := [3]) (by kernel_rfl) (by simp) ?_
          refine AllReadyH.cons (o := ⟨none, _, _, _, _, _⟩) rfl (fun K' hK' => ?_) AllReadyH.nil
          have g0 := HD1.out.2.2.1.cell 0
          have h0 := HD1.out.2.2.1.free 0
          have g1 := HD1.out.2.2.1.cell 1
          have h1 := HD1.out.2.2.1.free 1
          have g2 := HD1.out.2.2.1.cell 2
          have h2 := HD1.out.2.2.1.free 2
          have g3 := HD1.out.2.2.1.cell 3
          have h3 := HD1.out.2.2.1.free 3
          simp only [List.getElem?_cons_zero, List.getElem?_cons_succ] at g0 g1 g2 g3
          go_simp
          clear g0 h0 g1 h1 g2 h2 g3 h3
          have HD2 := Lib.hid (HD1.out.p5 (.int .i64 5) (.string ⟨#[]⟩) (.string ⟨#[]⟩) (.slice q6 acc.length c6))
          refine hK'.out _ _ ⟨HD2.out.1, HD2.out.2.2.2.1⟩ (fun _ => ?_)
          clear hK' K' hHeld
          have hHeld := And.intro HD2.out.1 HD2.out.2.2.2.1
          try simp only [Act.put, List.setIfInBounds_toArray, List.set_cons_zero, List.set_cons_succ]
          refine wpAnyH_done (by kernel_rfl) ?_ _
          refine NoPanic.normal ?_
          have HWF := Lib.hid ((HWD.out.box5 (g := W.heap.size + 1) (by omega) (.slice q b.length cp) (.int .i64 ox6) (.int .i64 cx6) (.int .i64 ax6) (.int .i64 (lv6 : Nat))).box4 (g := W.heap.size + 2) (by omega) (.int .i64 5) (.string ⟨#[]⟩) (.string ⟨#[]⟩) (.slice q6 acc.length c6))
          go_wp2_with fail
          refine bodyPost_ret (resPX rfl HD2.out.2.1 HD2.out.2.2.1 rfl rfl) rfl ?_
          rw [HEN.out]
          exact ⟨_, _, _, _, rfl, HP6.out, (VE.low (HWF.out.rdE 5 [] []) (by omega)), HD2.out.2.2.2.2⟩
theorem rRead_any : ∀ (d : Nat), d ≤ 16 → ∀ (W : World) (o lv : Nat), Rd W.heap.size W (.slice q b.length cp) b → b.length ≤ 1000000 → o ≤ b.length → lv ≤ 32 → Calls Tryz.prog 27 #[.agg #[.slice q b.length cp, .int .i64 (o : Nat), .int .i64 0, .int .i64 0, .int .i64 (lv : Nat)], .int .i64 ((17 - d : Nat) : Int)] W (QPost W b q cp (refC b d o lv))
  | 0, _, W, o, lv, hr, hbl, ho, hl => rRead_zero rfl hr hbl ho hl
  | d + 1, hd, W, o, lv, hr, hbl, ho, hl => rRead_step rfl hd (fun W o lv hr hbl ho hl => by
    have := rRead_any d (by omega) W o lv hr hbl ho hl
    rw [show 17 - d = (17 - (d + 1)) + 1 by omega, Int.natCast_add] at this
    exact this) hr hbl ho hl
end
end Go.Proofs.YtdnmgemjhpkekaaGreatDoor
