/-
  canon.Expr.
-/
import Derived.Test.YtdnmgemjhpkekaaGreatCnI
import Derived.Laws.EntriesVeiled
namespace Go.Proofs.YtdnmgemjhpkekaaGreat
open Go.ChangeShapes Go.WideShapes Go.ChangeAt Go.RowKit
set_option linter.unusedVariables false
set_option linter.unusedSectionVars false
set_option linter.unusedSimpArgs false

set_option maxRecDepth 100000 in
set_option maxHeartbeats 4000000 in
theorem cexpr_any {P : Nat → Prop} {w : World} {e : Ex} {v : Value} (h : RdE P w e v) (hP : ∀ b, P b → b < w.heap.size) (hsz : sizeE e ≤ 900000) (hfm : formE e = true) :
    Calls Tryz.prog 7 #[v] w (ClPost (canE cmpE e) w) := by
  have HR := Lib.hid h
  have HSZ := Lib.hid hsz
  have HFM := Lib.hid hfm
  obtain ⟨q, c, rfl, hc, hk⟩ := h.form
  obtain ⟨k, xv, xn, ks⟩ := e
  unfold exv
  show Calls _ _ #[.agg #[.int .i64 k, .string (bstr xv), .string (bstr xn), .slice q ks.length c]] _ _
  have HA0 : Hid (Arr (((w.alloc (.cells #[.int .i64 k, .string (bstr xv), .string (bstr xn), .slice q ks.length c] 24)).alloc (.cells #[.int .i64 0, .string ⟨#[]⟩, .string ⟨#[]⟩, .slice none 0 0] 24)).alloc (.cells #[.func (.func 17) #[] #[]] 45)) 24 (w.heap.size + 1) [.int .i64 0, .string ByteArray.empty, .string ByteArray.empty, .slice none 0 0] ∧ Below w.heap.size w (((w.alloc (.cells #[.int .i64 k, .string (bstr xv), .string (bstr xn), .slice q ks.length c] 24)).alloc (.cells #[.int .i64 0, .string ⟨#[]⟩, .string ⟨#[]⟩, .slice none 0 0] 24)).alloc (.cells #[.func (.func 17) #[] #[]] 45))) :=
    ⟨(Arr.new2 w _ _ _ _ rfl).alloc _, (((Below.refl _ _).alloc (Nat.le_refl _) _).alloc (by simp) _).alloc (by simp; omega) _⟩
  have ha3 : Arr (((w.alloc (.cells #[.int .i64 k, .string (bstr xv), .string (bstr xn), .slice q ks.length c] 24)).alloc (.cells #[.int .i64 0, .string ⟨#[]⟩, .string ⟨#[]⟩, .slice none 0 0] 24)).alloc (.cells #[.func (.func 17) #[] #[]] 45)) 45 (w.heap.size + 1 + 1) [.func (.func 17) #[] #[]] := Arr.new3 w (.cells #[.int .i64 k, .string (bstr xv), .string (bstr xn), .slice q ks.length c] 24) (.cells #[.int .i64 0, .string ⟨#[]⟩, .string ⟨#[]⟩, .slice none 0 0] 24) 45 #[.func (.func 17) #[] #[]] [.func (.func 17) #[] #[]] rfl
  have hs0 : (((w.alloc (.cells #[.int .i64 k, .string (bstr xv), .string (bstr xn), .slice q ks.length c] 24)).alloc (.cells #[.int .i64 0, .string ⟨#[]⟩, .string ⟨#[]⟩, .slice none 0 0] 24)).alloc (.cells #[.func (.func 17) #[] #[]] 45)).heap.size = w.heap.size + 3 := by simp [World.setCell]
  have HFB : Hid (FBox (((w.alloc (.cells #[.int .i64 k, .string (bstr xv), .string (bstr xn), .slice q ks.length c] 24)).alloc (.cells #[.int .i64 0, .string ⟨#[]⟩, .string ⟨#[]⟩, .slice none 0 0] 24)).alloc (.cells #[.func (.func 17) #[] #[]] 45)) (w.heap.size + 1 + 1) 17) := ⟨by rw [hs0]; omega, ha3.cell 0⟩
  have HC := Lib.hid (mapX_any (.mk k xv xn ks) _ P (((w.alloc (.cells #[.int .i64 k, .string (bstr xv), .string (bstr xn), .slice q ks.length c] 24)).alloc (.cells #[.int .i64 0, .string ⟨#[]⟩, .string ⟨#[]⟩, .slice none 0 0] 24)).alloc (.cells #[.func (.func 17) #[] #[]] 45)) (w.heap.size + 1 + 1) HSZ.out HFM.out HFB.out (HR.out.below HA0.out.2 hP) (fun b hb => Nat.lt_of_lt_of_le (hP b hb) HA0.out.2.size))
  unfold exv at HC
  dsimp only [Ex.kind, Ex.via, Ex.nm, Ex.kids] at HC
  have hmk : ∀ (fn : Fn) (first cap : Array Value) (w : World), (Instr.makeFunc fn first cap).run Tryz.prog w = .ok (.func fn first cap) w := fun _ _ _ _ => rfl
  obtain ⟨F, hF⟩ : ∃ F, F = canE cmpE (.mk k xv xn ks) := ⟨_, rfl⟩
  rw [← hF] at HC ⊢
  have HS0 := Lib.hid hs0
  clear h hc hk hsz hfm hF hs0 ha3
  go_enter Tryz.func7, Tryz.ntmps7
  go_wp2_with fail
  refine HC.out.mono ?_
  rintro r w5 ⟨v5, rfl, r5, b5⟩
  have HB5 := Lib.hid (HA0.out.2.trans (b5.mono (by rw [HS0.out]; omega)))
  have HA5 := Lib.hid (HA0.out.1.below b5 (by rw [HS0.out]; omega))
  obtain ⟨yk, yv, yn, ys⟩ := F
  have R5 := Lib.hid r5
  obtain ⟨q5, c5, rfl, _, _⟩ := r5.form
  unfold exv
  dsimp only [Ex.kind, Ex.via, Ex.nm, Ex.kids]
  have r0 := HA5.out.cell 0
  have r1 := HA5.out.cell 1
  have r2 := HA5.out.cell 2
  have r3 := HA5.out.cell 3
  have p0 := HA5.out.free 0
  have p1 := HA5.out.free 1
  have p2 := HA5.out.free 2
  have p3 := HA5.out.free 3
  simp only [List.getElem?_cons_zero, List.getElem?_cons_succ] at r0 r1 r2 r3
  clear r5 b5 HC
  go_wp2_with fail
  have hA := HA5.out.set4 (.int .i64 yk) (.string (bstr yv)) (.string (bstr yn)) (.slice q5 ys.length c5)
  have hBl := below_set4 (g := w.heap.size + 1) HB5.out (by omega) (.int .i64 yk) (.string (bstr yv)) (.string (bstr yn)) (.slice q5 ys.length c5)
  have hsz5 : ((((w5.setCell ⟨w.heap.size + 1, 0, none⟩ (.int .i64 yk)).setCell ⟨w.heap.size + 1, 1, none⟩ (.string (bstr yv))).setCell ⟨w.heap.size + 1, 2, none⟩ (.string (bstr yn))).setCell ⟨w.heap.size + 1, 3, none⟩ (.slice q5 ys.length c5)).heap.size = w5.heap.size := by simp [World.setCell]
  refine bodyPost_ret (resE rfl hA rfl) rfl ⟨_, rfl, ?_, hBl⟩
  rw [hsz5]
  refine (R5.out.keep fun b hb n => World.cell?_of_block (heap_set4x w5 (w.heap.size + 1) _ _ _ _ (b := b) ?_)).imp fun b hb => ⟨?_, hb.2⟩
  · have := hb.1; rw [HS0.out] at this; omega
  · have := hb.1; rw [HS0.out] at this; omega
end Go.Proofs.YtdnmgemjhpkekaaGreat
