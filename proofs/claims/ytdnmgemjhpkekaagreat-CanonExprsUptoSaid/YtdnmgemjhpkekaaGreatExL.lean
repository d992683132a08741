/-
  The order of expressions; slices.CompareFunc over kids.
-/
import Derived.Test.YtdnmgemjhpkekaaGreatExK
import Derived.Test.YtdnmgemjhpkekaaGreatExJ
import Derived.Test.YtdnmgemjhpkekaaGreatShelf
import Derived.Lib.Small
import Derived.Lib.Bytealg
namespace Go.Proofs.YtdnmgemjhpkekaaGreat
open Go.ChangeShapes Go.WideShapes Go.ChangeAt Go.RowKit
set_option linter.unusedVariables false

mutual
def cmpE : Ex → Ex → Int
  | .mk k v n ks, e2 => orL [Lib.compareInt k e2.kind, Lib.compareBytes v e2.via, Lib.compareBytes n e2.nm, cmpL ks e2.kids]
def cmpL : List Ex → List Ex → Int
  | [], [] => 0
  | [], _ :: _ => -1
  | _ :: _, [] => 1
  | a :: r, b :: s => orL [cmpE a b, cmpL r s]
end
theorem cmpL_step {ks ls : List Ex} {i : Nat} (h1 : i < ks.length) (h2 : i < ls.length) : cmpL (ks.drop i) (ls.drop i) = orL [cmpE (ks.getD i ex0) (ls.getD i ex0), cmpL (ks.drop (i + 1)) (ls.drop (i + 1))] := by
  rw [List.drop_eq_getElem_cons h1, List.drop_eq_getElem_cons h2, List.getD_eq_getElem?_getD, List.getElem?_eq_getElem h1, List.getD_eq_getElem?_getD, List.getElem?_eq_getElem h2]
  conv => lhs; unfold cmpL
  rfl
theorem orL2 (a b : Int) : orL [a, b] = if a = 0 then b else a := by
  unfold orL
  split
  · unfold orL
    split
    · rename_i h; rw [h]; rfl
    · rfl
  · rfl
set_option maxRecDepth 100000 in
set_option maxHeartbeats 4000000 in
theorem cmpf_any (n : Nat) (HC : Hid (∀ (x y : Ex) (vx vy : Value) (P Q : Nat → Prop) (W : World), sizeE x ≤ n → sizeE y ≤ 900000 → RdE P W x vx → RdE Q W y vy → (∀ b, P b → b < W.heap.size) → (∀ b, Q b → b < W.heap.size) → Calls Tryz.prog 34 #[vx, vy] W fun r w' => r = .returned (.int .i64 (cmpE x y)) ∧ Below W.heap.size W w'))
    (ks ls : List Ex) (q ql : Option Addr) (c cl : Nat) (P Q : Nat → Prop) (w : World) (hks : sizeL ks ≤ n) (hkm : sizeL ks ≤ 900000) (hlm : sizeL ls ≤ 900000)
    (hk : 0 < ks.length → ∃ b o, q = some ⟨b, o, none⟩ ∧ P b ∧ RdL P w ks b o) (hl' : 0 < ls.length → ∃ b o, ql = some ⟨b, o, none⟩ ∧ Q b ∧ RdL Q w ls b o) (hP : ∀ b, P b → b < w.heap.size) (hQ : ∀ b, Q b → b < w.heap.size) :
    Calls Tryz.prog 58 #[.slice q ks.length c, .slice ql ls.length cl, .func (.func 34) #[] #[]] w fun r w' => r = .returned (.int .i64 (cmpL ks ls)) ∧ Below w.heap.size w w' := by
  have HK : Hid (0 < ks.length → ∃ b o, q = some ⟨b, o, none⟩ ∧ P b ∧ RdL P w ks b o) := hk
  have HL : Hid (0 < ls.length → ∃ b o, ql = some ⟨b, o, none⟩ ∧ Q b ∧ RdL Q w ls b o) := hl'
  have hlen := sizeL_len ks
  have hlen2 := sizeL_len ls
  clear hk hl'
  go_enter Tryz.func58, Tryz.ntmps58
  go_wp2_with fail
  go_loopw [13] (fun iv wr => ∃ i : Nat, i ≤ ks.length ∧ i ≤ ls.length ∧ iv = .int .i64 i ∧ Hid (cmpL (ks.drop i) (ls.drop i) = cmpL ks ls) ∧ Hid (Below w.heap.size w wr)) (fun iv _ => ks.length - (intOf iv).toNat)
  case atStart => exact ⟨0, Nat.zero_le _, Nat.zero_le _, rfl, rfl, Below.refl _ _⟩
  case round =>
    obtain ⟨i, hi, hil, rfl, HD, HI⟩ := hrel
    have hi0 : (0 : Int) ≤ i := by omega
    by_cases hlt : i < ks.length
    · have hi1 : (i : Int) < ks.length := by omega
      by_cases hlt2 : i < ls.length
      · have hi2 : (i : Int) < ls.length := by omega
        obtain ⟨ba, oa, rfl, hba, hl⟩ := HK.out (by omega)
        obtain ⟨x, hx⟩ : ∃ x, x = ks.getD i ex0 := ⟨_, rfl⟩
        obtain ⟨q2, c2, x0, x1, x2, x3, hr⟩ := hl.at hlt
        have hxs := sizeL_get ks i hlt
        have hxd := depthL_get ks i hlt
        rw [← hx] at x0 x1 x2 x3 hr hxs hxd
        have HX := Lib.hid hx
        obtain ⟨xk, xv2, xn2, xs⟩ := x
        have cc : ∀ n, wr.cell? ⟨ba, n, none⟩ = w.cell? ⟨ba, n, none⟩ := fun n => (HI.out).cell (p := ⟨ba, n, none⟩) (hP _ hba)
        have X0 : wr.cell? ⟨ba, oa + i * 4, none⟩ = some (.int .i64 xk) := (cc _).trans x0
        have X1 : wr.cell? ⟨ba, oa + i * 4 + 1, none⟩ = some (.string (bstr xv2)) := (cc _).trans x1
        have X2 : wr.cell? ⟨ba, oa + i * 4 + 2, none⟩ = some (.string (bstr xn2)) := (cc _).trans x2
        have X3 : wr.cell? ⟨ba, oa + i * 4 + 3, none⟩ = some (.slice q2 xs.length c2) := (cc _).trans x3
        clear x0 x1 x2 x3 cc hx
        have HBA : Hid (Below wr.heap.size wr (wr.alloc (.cells #[.int .i64 xk, .string (bstr xv2), .string (bstr xn2), .slice q2 xs.length c2] 24))) := (Below.refl _ _).alloc (Nat.le_refl _) _
        obtain ⟨bab, oab, rfl, hbab, hlb⟩ := HL.out (by omega)
        obtain ⟨x, hx⟩ : ∃ x, x = ls.getD i ex0 := ⟨_, rfl⟩
        obtain ⟨q2b, c2b, x0, x1, x2, x3, hrb⟩ := hlb.at hlt2
        have hxsb := sizeL_get ls i hlt2
        have hxdb := depthL_get ls i hlt2
        rw [← hx] at x0 x1 x2 x3 hrb hxsb hxdb
        have HXb := Lib.hid hx
        obtain ⟨xkb, xv2b, xn2b, xsb⟩ := x
        have cc : ∀ n, (wr.alloc (.cells #[.int .i64 xk, .string (bstr xv2), .string (bstr xn2), .slice q2 xs.length c2] 24)).cell? ⟨bab, n, none⟩ = w.cell? ⟨bab, n, none⟩ := fun n => (HI.out.trans (HBA.out.mono HI.out.size)).cell (p := ⟨bab, n, none⟩) (hQ _ hbab)
        have X0b : (wr.alloc (.cells #[.int .i64 xk, .string (bstr xv2), .string (bstr xn2), .slice q2 xs.length c2] 24)).cell? ⟨bab, oab + i * 4, none⟩ = some (.int .i64 xkb) := (cc _).trans x0
        have X1b : (wr.alloc (.cells #[.int .i64 xk, .string (bstr xv2), .string (bstr xn2), .slice q2 xs.length c2] 24)).cell? ⟨bab, oab + i * 4 + 1, none⟩ = some (.string (bstr xv2b)) := (cc _).trans x1
        have X2b : (wr.alloc (.cells #[.int .i64 xk, .string (bstr xv2), .string (bstr xn2), .slice q2 xs.length c2] 24)).cell? ⟨bab, oab + i * 4 + 2, none⟩ = some (.string (bstr xn2b)) := (cc _).trans x2
        have X3b : (wr.alloc (.cells #[.int .i64 xk, .string (bstr xv2), .string (bstr xn2), .slice q2 xs.length c2] 24)).cell? ⟨bab, oab + i * 4 + 3, none⟩ = some (.slice q2b xsb.length c2b) := (cc _).trans x3
        clear x0 x1 x2 x3 cc hx
        have HST := Lib.hid (cmpL_step hlt hlt2)
        have HBB : Hid (Below wr.heap.size wr ((wr.alloc (.cells #[.int .i64 xk, .string (bstr xv2), .string (bstr xn2), .slice q2 xs.length c2] 24)).alloc (.cells #[.int .i64 xkb, .string (bstr xv2b), .string (bstr xn2b), .slice q2b xsb.length c2b] 24))) := HBA.out.alloc HBA.out.size _
        have HRA : Hid (RdE P ((wr.alloc (.cells #[.int .i64 xk, .string (bstr xv2), .string (bstr xn2), .slice q2 xs.length c2] 24)).alloc (.cells #[.int .i64 xkb, .string (bstr xv2b), .string (bstr xn2b), .slice q2b xsb.length c2b] 24)) (.mk xk xv2 xn2 xs) (.agg #[.int .i64 xk, .string (bstr xv2), .string (bstr xn2), .slice q2 xs.length c2])) := (hr.below HI.out hP).below HBB.out (fun b hb => Nat.lt_of_lt_of_le (hP b hb) HI.out.size)
        have HRB : Hid (RdE Q ((wr.alloc (.cells #[.int .i64 xk, .string (bstr xv2), .string (bstr xn2), .slice q2 xs.length c2] 24)).alloc (.cells #[.int .i64 xkb, .string (bstr xv2b), .string (bstr xn2b), .slice q2b xsb.length c2b] 24)) (.mk xkb xv2b xn2b xsb) (.agg #[.int .i64 xkb, .string (bstr xv2b), .string (bstr xn2b), .slice q2b xsb.length c2b])) := (hrb.below HI.out hQ).below HBB.out (fun b hb => Nat.lt_of_lt_of_le (hQ b hb) HI.out.size)
        have HCC := HC.out (.mk xk xv2 xn2 xs) (.mk xkb xv2b xn2b xsb) _ _ P Q ((wr.alloc (.cells #[.int .i64 xk, .string (bstr xv2), .string (bstr xn2), .slice q2 xs.length c2] 24)).alloc (.cells #[.int .i64 xkb, .string (bstr xv2b), .string (bstr xn2b), .slice q2b xsb.length c2b] 24)) (by omega) (by omega) HRA.out HRB.out (fun b hb => Nat.lt_of_lt_of_le (hP b hb) (Nat.le_trans HI.out.size HBB.out.size)) (fun b hb => Nat.lt_of_lt_of_le (hQ b hb) (Nat.le_trans HI.out.size HBB.out.size))
        obtain ⟨E, hE⟩ : ∃ E, E = cmpE (.mk xk xv2 xn2 xs) (.mk xkb xv2b xn2b xsb) := ⟨_, rfl⟩
        rw [← hE] at HCC
        have HED := Lib.hid hE
        have HCC := Lib.hid HCC
        clear hl hlb hr hrb hxs hxd hxsb hxdb hE
        go_wp2_with fail
        refine HCC.out.mono ?_
        rintro r w5 ⟨rfl, b5⟩
        have HB5 := Lib.hid (HI.out.trans ((HBB.out.trans (b5.mono HBB.out.size)).mono HI.out.size))
        clear b5
        by_cases hz : E = 0
        · have bz : (E != 0) = false := by rw [hz]; rfl
          have HNX : Hid (cmpL (ks.drop (i + 1)) (ls.drop (i + 1)) = cmpL ks ls) := by show _ = _; rw [← HD.out, HST.out, ← HX.out, ← HXb.out, ← HED.out, orL2, if_pos hz]
          clear hz
          go_wp2_with fail
          go_roundw
          case rel => exact ⟨i + 1, by omega, by omega, by go_num, HNX.out, HB5.out⟩
          case measure => simp [intOf]; omega
        · have bz : (E != 0) = true := by rw [bne_iff_ne]; exact hz
          have HNX : Hid (cmpL ks ls = E) := by show _ = _; rw [← HD.out, HST.out, ← HX.out, ← HXb.out, ← HED.out, orL2, if_neg hz]
          clear hz
          go_wp2_with fail
          go_ret
          exact ⟨by rw [HNX.out]; rfl, HB5.out⟩
      · have hi2 : ¬ (i : Int) < ls.length := by omega
        have HNX : Hid (cmpL ks ls = 1) := by
          show _ = _
          rw [← HD.out, List.drop_eq_getElem_cons hlt, List.drop_of_length_le (show ls.length ≤ i by omega)]
          unfold cmpL; rfl
        have HK1 := HK.out (by omega)
        obtain ⟨ba, oa, rfl, hba, hl⟩ := HK1
        obtain ⟨q2, c2, x0, x1, x2, x3, hr⟩ := hl.at hlt
        have cc : ∀ n, wr.cell? ⟨ba, n, none⟩ = w.cell? ⟨ba, n, none⟩ := fun n => (HI.out).cell (p := ⟨ba, n, none⟩) (hP _ hba)
        have X0 := (cc _).trans x0
        have X1 := (cc _).trans x1
        have X2 := (cc _).trans x2
        have X3 := (cc _).trans x3
        clear x0 x1 x2 x3 cc hr hl
        go_wp2_with fail
        go_ret
        exact ⟨by rw [HNX.out]; rfl, HI.out.alloc HI.out.size _⟩
    · have hi1 : ¬ (i : Int) < ks.length := by omega
      by_cases hlt2 : ks.length < ls.length
      · have hi2 : (ks.length : Int) < ls.length := by omega
        have HNX : Hid (cmpL ks ls = -1) := by
          show _ = _
          rw [← HD.out, List.drop_of_length_le (show ks.length ≤ i by omega), List.drop_eq_getElem_cons (show i < ls.length by omega)]
          unfold cmpL; rfl
        go_wp2_with fail
        go_ret
        exact ⟨by rw [HNX.out]; rfl, HI.out⟩
      · have hi2 : ¬ (ks.length : Int) < ls.length := by omega
        have HNX : Hid (cmpL ks ls = 0) := by
          show _ = _
          rw [← HD.out, List.drop_of_length_le (show ks.length ≤ i by omega), List.drop_of_length_le (show ls.length ≤ i by omega)]
          unfold cmpL; rfl
        go_wp2_with fail
        go_ret
        exact ⟨by rw [HNX.out]; rfl, HI.out⟩
end Go.Proofs.YtdnmgemjhpkekaaGreat
