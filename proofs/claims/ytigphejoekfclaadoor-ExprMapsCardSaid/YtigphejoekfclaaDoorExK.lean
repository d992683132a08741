/-
  expr.sign, leaves, Leaves: the iterator is made.
-/
import Derived.Test.YtigphejoekfclaaDoorExF
namespace Go.Proofs.YtigphejoekfclaaDoor
open Go.ChangeShapes Go.WideShapes Go.ChangeAt Go.RowKit
set_option linter.unusedVariables false

def sgK (k : Int) : List UInt8 := if k = 3 then [32, 43, 32] else if k = 4 then [32, 38, 32] else [32, 45, 32]
set_option maxRecDepth 100000 in
theorem esign_any (k : Int) (w : World) : Calls Tryd.prog 46 #[.int .i64 k] w fun r w' => r = .returned (.string (bstr (sgK k))) ∧ w = w' := by
  by_cases h3 : k = 3
  · have H : Hid (sgK k = [32, 43, 32]) := if_pos h3
    have b3 : (k == 3) = true := by rw [h3]; rfl
    clear h3
    go_enter Tryd.func46, Tryd.ntmps46
    go_wp2_with fail
    go_ret
    exact ⟨by rw [H.out]; rfl, rfl⟩
  · have b3 : (k == 3) = false := by rw [beq_eq_false_iff_ne]; exact h3
    by_cases h4 : k = 4
    · have H : Hid (sgK k = [32, 38, 32]) := by show _ = _; unfold sgK; rw [if_neg h3, if_pos h4]
      have b4 : (k == 4) = true := by rw [h4]; rfl
      clear h3 h4
      go_enter Tryd.func46, Tryd.ntmps46
      go_wp2_with fail
      go_ret
      exact ⟨by rw [H.out]; rfl, rfl⟩
    · have H : Hid (sgK k = [32, 45, 32]) := by show _ = _; unfold sgK; rw [if_neg h3, if_neg h4]
      have b4 : (k == 4) = false := by rw [beq_eq_false_iff_ne]; exact h4
      clear h3 h4
      go_enter Tryd.func46, Tryd.ntmps46
      go_wp2_with fail
      go_ret
      exact ⟨by rw [H.out]; rfl, rfl⟩
set_option maxRecDepth 100000 in
theorem mkLeaves_any (k : Int) (xv xn : List UInt8) (q : Option Addr) (m c : Nat) (w : World) : Calls Tryd.prog 30 #[.agg #[.int .i64 k, .string (bstr xv), .string (bstr xn), .slice q m c]] w fun r w' => r = .returned (.func (.func 41) #[] #[.pointer (some ⟨w.heap.size, 0, none⟩)]) ∧ w' = w.alloc (.cells #[.int .i64 k, .string (bstr xv), .string (bstr xn), .slice q m c] 24) := by
  go_enter Tryd.func30, Tryd.ntmps30
  go_wp2_with fail
  go_ret
  exact ⟨rfl, rfl⟩
set_option maxRecDepth 100000 in
set_option maxHeartbeats 1000000 in
theorem leavesOf_any (e : Ex) (v : Value) (P : Nat → Prop) (w : World) (hm : sizeE e ≤ 900000) (h : RdE P w e v) (hP : ∀ b, P b → b < w.heap.size) : Calls Tryd.prog 20 #[v] w fun r w' => ∃ b q c, r = .returned (.func (.func 41) #[] #[.pointer (some ⟨b, 0, none⟩)]) ∧
    Arr w' 24 b [.int .i64 e.kind, .string (bstr e.via), .string (bstr e.nm), .slice q e.kids.length c] ∧ RdE (Bt w.heap.size w'.heap.size) w' e (exv e q c) ∧ w.heap.size ≤ b ∧ Below w.heap.size w w' := by
  have H := Lib.hid h
  obtain ⟨q, c, rfl, hc, hk⟩ := h.form
  obtain ⟨k, xv, xn, ks⟩ := e
  unfold exv
  show Calls _ _ #[.agg #[.int .i64 k, .string (bstr xv), .string (bstr xn), .slice q ks.length c]] _ _
  have HK : Hid (0 < ks.length → ∃ b o, q = some ⟨b, o, none⟩ ∧ P b ∧ RdL P w ks b o) := hk
  have HB0 : Hid (Below w.heap.size w (w.alloc (.cells #[.int .i64 k, .string (bstr xv), .string (bstr xn), .slice q ks.length c] 24))) := (Below.refl _ _).alloc (Nat.le_refl _) _
  have HC := Lib.hid (clone_any _ (.mk k xv xn ks) _ P (w.alloc (.cells #[.int .i64 k, .string (bstr xv), .string (bstr xn), .slice q ks.length c] 24)) (Nat.le_refl _) hm (H.out.below HB0.out hP) (fun b hb => Nat.lt_of_lt_of_le (hP b hb) HB0.out.size))
  clear h hc hk hm
  go_enter Tryd.func20, Tryd.ntmps20
  go_wp2_with fail
  refine HC.out.mono ?_
  rintro r w5 ⟨v5, rfl, r5, b5⟩
  have HB5 := Lib.hid (HB0.out.trans (b5.mono HB0.out.size))
  have HR5 := Lib.hid r5
  have HS5 := Lib.hid b5
  obtain ⟨q5, c5, rfl, _⟩ := r5.form
  unfold exv
  clear b5 r5
  go_wp2_with fail
  refine (mkLeaves_any k xv xn q5 ks.length c5 w5).mono ?_
  rintro r w6 ⟨rfl, rfl⟩
  have HB6 : Hid (Below w5.heap.size w5 (w5.alloc (.cells #[.int .i64 k, .string (bstr xv), .string (bstr xn), .slice q5 ks.length c5] 24))) := (Below.refl _ _).alloc (Nat.le_refl _) _
  go_wp2_with fail
  go_ret
  exact ⟨w5.heap.size, q5, c5, rfl, Arr.new' _ _ _ _ rfl, (HR5.out.below HB6.out fun b hb => hb.2).imp fun b hb => ⟨Nat.le_trans HB0.out.size hb.1, Nat.lt_of_lt_of_le hb.2 HB6.out.size⟩, HB5.out.size, HB5.out.trans (HB6.out.mono HB5.out.size)⟩
end Go.Proofs.YtigphejoekfclaaDoor
