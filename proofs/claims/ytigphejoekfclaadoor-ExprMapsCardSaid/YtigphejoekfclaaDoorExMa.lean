/-
  vestrylaw10.count; expr.mapParts and Map with it.
-/
import Derived.Test.YtigphejoekfclaaDoorExW
import Derived.Defers
namespace Go.Proofs.YtigphejoekfclaaDoor
open Go.ChangeShapes Go.WideShapes Go.ChangeAt Go.RowKit
set_option linter.unusedVariables false

def markK (k : Int) (m : Nat) : Int := if 0 < m then k else wrap64 (k + 10)
def markN (n : List UInt8) (m : Nat) : List UInt8 := if 0 < m then n ++ [120] else n
mutual
def mapE : Ex → Ex
  | .mk k v n ks => .mk (markK k ks.length) v (markN n ks.length) (mapL ks)
def mapL : List Ex → List Ex
  | [] => []
  | e :: r => mapE e :: mapL r
end
theorem mapL_length : ∀ ks : List Ex, (mapL ks).length = ks.length
  | [] => rfl
  | e :: r => by unfold mapL; rw [List.length_cons, List.length_cons, mapL_length r]
theorem mapL_snoc : ∀ (ks : List Ex) (e : Ex), mapL (ks ++ [e]) = mapL ks ++ [mapE e]
  | [], e => by simp [mapL]
  | a :: r, e => by rw [List.cons_append]; unfold mapL; rw [mapL_snoc r e]; rfl
theorem mapE_mk (k : Int) (v n : List UInt8) (ks : List Ex) : mapE (.mk k v n ks) = .mk (markK k ks.length) v (markN n ks.length) (mapL ks) := by rw [mapE]
mutual
theorem mapE_size : ∀ e : Ex, sizeE (mapE e) = sizeE e
  | .mk k v n ks => by
    have := mapL_size ks
    rw [mapE_mk, sizeE, sizeE, this]
theorem mapL_size : ∀ l : List Ex, sizeL (mapL l) = sizeL l
  | [] => rfl
  | e :: r => by
    have h1 := mapE_size e
    have h2 := mapL_size r
    rw [mapL, sizeL, sizeL, h1, h2]
end
mutual
theorem mapE_ok (M : Nat) : ∀ e : Ex, okE M e → okE (M + 1) (mapE e)
  | .mk k v n ks, h => by
    have h2 := mapL_ok M ks
    rw [okE] at h
    rw [mapE_mk, okE]
    refine ⟨by omega, ?_, h2 h.2.2⟩
    unfold markN
    split
    · rw [List.length_append, List.length_singleton]; omega
    · omega
theorem mapL_ok (M : Nat) : ∀ l : List Ex, okL M l → okL (M + 1) (mapL l)
  | [], _ => by unfold mapL okL; trivial
  | e :: r, h => by
    have h1 := mapE_ok M e
    have h2 := mapL_ok M r
    rw [okL] at h
    rw [mapL, okL]
    exact ⟨h1 h.1, h2 h.2⟩
end
mutual
theorem cntE_few99 : ∀ (d : Nat) (e : Ex), cntE d e < 500 → okE 99999 e
  | 0, e, h => by unfold cntE at h; omega
  | d + 1, .mk k v n ks, h => by
    unfold cntE at h
    have h2 := cntL_few99 d ks _ h
    have h4 := cntL_ge d ks (1 + v.length / 200 + n.length / 200)
    rw [okE]
    exact ⟨by omega, by omega, h2⟩
theorem cntL_few99 : ∀ (d : Nat) (ks : List Ex) (n : Nat), cntL d n ks < 500 → okL 99999 ks
  | d, [], n, h => by rw [okL]; trivial
  | d, e :: r, n, h => by
    unfold cntL at h
    split at h
    · rename_i hn
      have h2 := cntL_few99 d r _ h
      have h4 := cntL_ge d r (n + cntE d e)
      rw [okL]
      exact ⟨cntE_few99 d e (by omega), h2⟩
    · omega
end
theorem few_map {e : Ex} (h : cntE 31 e ≤ 150) : FewE (mapE e) := by
  have h1 := few_of h
  have h2 := mapE_ok 99999 e (cntE_few99 31 e (by omega))
  refine ⟨by rw [mapE_size]; exact h1.1, h2, Nat.le_trans (wE_le 100000 _ h2) ?_⟩
  rw [mapE_size]
  have := (cntE_few 31 e (by omega)).1
  exact Nat.le_trans (Nat.mul_le_mul_right _ (Nat.le_trans this h)) (by decide)
set_option maxRecDepth 100000 in
set_option maxHeartbeats 2000000 in
theorem count_law (k : Int) (xv xn : List UInt8) (q : Option Addr) (m c : Nat) (w : World) (hn : xn.length ≤ 900000000) : Calls Tryd.prog 23 #[.agg #[.int .i64 k, .string (bstr xv), .string (bstr xn), .slice q m c]] w fun r w' => r = .returned (.agg #[.int .i64 (markK k m), .string (bstr xv), .string (bstr (markN xn m)), .slice q m c]) ∧ Below w.heap.size w w' := by
  by_cases hm : 0 < m
  · have h1 : (0 : Int) < m := by omega
    have HK : Hid (markK k m = k) := if_pos hm
    obtain ⟨sn, hsn⟩ : ∃ s, s = bstr xn := ⟨_, rfl⟩
    have HN : Hid (bstr (markN xn m) = sn ++ ⟨#[120]⟩) := by show _ = _; unfold markN; rw [if_pos hm, hsn, show (⟨#[120]⟩ : ByteArray) = bstr [120] from rfl, bstr_app]
    have z1 : (sn.size : Int) ≤ 900000000 := by rw [hsn, bstr_size]; omega
    rw [← hsn]
    clear hsn hm
    go_enter Tryd.func23, Tryd.ntmps23
    go_wp2_with fail
    have hA : Arr ((w.alloc (.cells #[.int .i64 k, .string (bstr xv), .string (sn ++ ⟨#[120]⟩), .slice q m c] 24)).alloc (.cells #[.int .i64 k, .string (bstr xv), .string (sn ++ ⟨#[120]⟩), .slice q m c] 24)) 24 (w.heap.size + 1) [.int .i64 k, .string (bstr xv), .string (sn ++ ⟨#[120]⟩), .slice q m c] := Arr.new2 w _ _ _ _ rfl
    have hB : Below w.heap.size w ((w.alloc (.cells #[.int .i64 k, .string (bstr xv), .string (sn ++ ⟨#[120]⟩), .slice q m c] 24)).alloc (.cells #[.int .i64 k, .string (bstr xv), .string (sn ++ ⟨#[120]⟩), .slice q m c] 24)) := ((Below.refl _ _).alloc (Nat.le_refl _) _).alloc (by simp) _
    refine bodyPost_ret (resE rfl hA rfl) rfl ⟨?_, hB⟩
    rw [HK.out, HN.out]
  · obtain rfl : m = 0 := by omega
    have HK : Hid (markK k 0 = wrap64 (k + 10)) := if_neg hm
    have HN : Hid (markN xn 0 = xn) := if_neg hm
    clear hm
    go_enter Tryd.func23, Tryd.ntmps23
    go_wp2_with fail
    have hA : Arr ((w.alloc (.cells #[.int .i64 (wrap64 (k + 10)), .string (bstr xv), .string (bstr xn), .slice q 0 c] 24)).alloc (.cells #[.int .i64 (wrap64 (k + 10)), .string (bstr xv), .string (bstr xn), .slice q 0 c] 24)) 24 (w.heap.size + 1) [.int .i64 (wrap64 (k + 10)), .string (bstr xv), .string (bstr xn), .slice q 0 c] := Arr.new2 w _ _ _ _ rfl
    have hB : Below w.heap.size w ((w.alloc (.cells #[.int .i64 (wrap64 (k + 10)), .string (bstr xv), .string (bstr xn), .slice q 0 c] 24)).alloc (.cells #[.int .i64 (wrap64 (k + 10)), .string (bstr xv), .string (bstr xn), .slice q 0 c] 24)) := ((Below.refl _ _).alloc (Nat.le_refl _) _).alloc (by simp) _
    refine bodyPost_ret (resE rfl hA rfl) rfl ⟨?_, hB⟩
    rw [HK.out, HN.out]
set_option maxRecDepth 100000 in
set_option maxHeartbeats 4000000 in
theorem mapParts_any : ∀ (n : Nat) (e : Ex) (v : Value) (P : Nat → Prop) (w : World), sizeE e ≤ n → sizeE e ≤ 900000 → wE e ≤ 900000000 → RdE P w e v → (∀ b, P b → b < w.heap.size) → Calls Tryd.prog 39 #[v, .func (.func 23) #[] #[]] w (ClPost (mapE e) w) := by
  intro n
  induction n with
  | zero => intro e v P w h; have := sizeE_pos e; omega
  | succ n ih =>
    intro e v P w hn hm hwt h hP
    obtain ⟨q, c, rfl, hc, hk⟩ := h.form
    obtain ⟨k, xv, xn, ks⟩ := e
    unfold exv
    show Calls _ _ #[.agg #[.int .i64 k, .string (bstr xv), .string (bstr xn), .slice q ks.length c], .func (.func 23) #[] #[]] _ _
    have HK : Hid (0 < ks.length → ∃ b o, q = some ⟨b, o, none⟩ ∧ P b ∧ RdL P w ks b o) := hk
    have hks : sizeL ks ≤ n := by unfold sizeE at hn; omega
    have hkm : sizeL ks ≤ 900000 := by unfold sizeE at hm; omega
    have hkw : wL ks ≤ 900000000 := by unfold wE at hwt; omega
    have hnl : xn.length ≤ 900000000 := by unfold wE at hwt; omega
    have hlen := sizeL_len ks
    have HIH := Lib.hid ih
    have HCNT := Lib.hid (fun (qv : Option Addr) (cv : Nat) W => count_law k xv xn qv ks.length cv W hnl)
    have H0 : Hid (CX w [.int .i64 k, .string (bstr xv), .string (bstr xn), .slice q ks.length c] (.slice none 0 0) [] ((w.alloc (.cells #[.int .i64 k, .string (bstr xv), .string (bstr xn), .slice q ks.length c] 24)).alloc (.cells #[.int .i64 0, .string ByteArray.empty, .string ByteArray.empty, .slice none 0 0] 24))) :=
      ⟨(Arr.new' w _ _ _ rfl).alloc _, Arr.new2 w _ _ _ _ rfl, ExRow.nil _ _, ((Below.refl _ _).alloc (Nat.le_refl _) _).alloc (by simp) _, by simp⟩
    clear h ih hc hk hn hm hwt
    go_enter Tryd.func39, Tryd.ntmps39
    go_wp2_with fail
    go_loopw [5, 11] (fun dv iv wr => ∃ i : Nat, i ≤ ks.length ∧ iv = .int .i64 i ∧ Hid (CX w [.int .i64 k, .string (bstr xv), .string (bstr xn), .slice q ks.length c] dv (mapL (ks.take i)) wr)) (fun _ iv _ => ks.length - (intOf iv).toNat)
    case atStart => exact ⟨0, Nat.zero_le _, rfl, H0.out⟩
    case round =>
      obtain ⟨i, hi, rfl, HC⟩ := hrel
      have hi0 : (0 : Int) ≤ i := by omega
      have HI := Lib.hid HC.out.2.2.2.1
      obtain ⟨qv, cv, rfl⟩ := HC.out.2.2.1.form
      have htl : (mapL (ks.take i)).length = i := by rw [mapL_length, List.length_take]; omega
      rw [htl] at HC ⊢
      by_cases hlt : i < ks.length
      · have hi1 : (i : Int) < ks.length := by omega
        obtain ⟨ba, oa, rfl, hba, hl⟩ := HK.out (by omega)
        obtain ⟨x, hx⟩ : ∃ x, x = ks.getD i ex0 := ⟨_, rfl⟩
        obtain ⟨q2, c2, x0, x1, x2, x3, hr⟩ := hl.at hlt
        have hxs := sizeL_get ks i hlt
        have hxd := depthL_get ks i hlt
        rw [← hx] at x0 x1 x2 x3 hr hxs hxd
        have HX := Lib.hid hx
        obtain ⟨xk, xv2, xn2, xs⟩ := x
        have cc : ∀ n, wr.cell? ⟨ba, n, none⟩ = w.cell? ⟨ba, n, none⟩ := fun n => (HI.out).cell (p := ⟨ba, n, none⟩) (hP _ hba)
        have X0 : wr.cell? ⟨ba, oa + i * 4, none⟩ = some (.int .i64 xk) := (cc _).trans x0
        have X1 : wr.cell? ⟨ba, oa + i * 4 + 1, none⟩ = some (.string (bstr xv2)) := (cc _).trans x1
        have X2 : wr.cell? ⟨ba, oa + i * 4 + 2, none⟩ = some (.string (bstr xn2)) := (cc _).trans x2
        have X3 : wr.cell? ⟨ba, oa + i * 4 + 3, none⟩ = some (.slice q2 xs.length c2) := (cc _).trans x3
        clear x0 x1 x2 x3 cc hx
        have hxw := wL_get ks i hlt
        rw [← HX.out] at hxw
        have HBA : Hid (Below wr.heap.size wr (wr.alloc (.cells #[.int .i64 xk, .string (bstr xv2), .string (bstr xn2), .slice q2 xs.length c2] 24))) := (Below.refl _ _).alloc (Nat.le_refl _) _
        have HR : Hid (RdE P (wr.alloc (.cells #[.int .i64 xk, .string (bstr xv2), .string (bstr xn2), .slice q2 xs.length c2] 24)) (.mk xk xv2 xn2 xs) (.agg #[.int .i64 xk, .string (bstr xv2), .string (bstr xn2), .slice q2 xs.length c2])) := (hr.below (HI.out) hP).below HBA.out (fun b hb => Nat.lt_of_lt_of_le (hP b hb) (HI.out).size)
        have HIC := Lib.hid (HIH.out (.mk xk xv2 xn2 xs) _ P _ (by omega) (by omega) (by omega) HR.out (fun b hb => Nat.lt_of_lt_of_le (hP b hb) (Nat.le_trans HI.out.size HBA.out.size)))
        have HC4 := Lib.hid (HC.out.later HBA.out)
        have HMP : Hid (mapL (ks.take (i + 1)) = mapL (ks.take i) ++ [mapE (.mk xk xv2 xn2 xs)]) := by show _ = _; rw [take_snocE hlt, ← HX.out, mapL_snoc]
        obtain ⟨me, hme⟩ : ∃ e, e = mapE (.mk xk xv2 xn2 xs) := ⟨_, rfl⟩
        rw [← hme] at HIC HMP
        clear hl hr hxs hxd hxw hme
        go_wp2_with fail
        refine HIC.out.mono ?_
        rintro r w5 ⟨v5, rfl, r5, b5⟩
        have HC5 := Lib.hid (HC4.out.later b5)
        obtain ⟨mk, mv, mn, ms⟩ := me
        obtain ⟨q5, c5, rfl, hc5⟩ := r5.form
        have HR5 : Hid (RdE (Sub (w.heap.size + 2) w5 (.slice qv i cv)) w5 (.mk mk mv mn ms) (.agg #[.int .i64 mk, .string (bstr mv), .string (bstr mn), .slice q5 ms.length c5])) := r5.imp fun b hb => ⟨Nat.le_trans HC4.out.2.2.2.2 hb.1, hb.2, fun e => by
          have := HC4.out.2.2.1.blk e.symm
          have := hb.1
          omega⟩
        unfold exv
        dsimp only [Ex.kind, Ex.via, Ex.nm, Ex.kids]
        have HB6 : Hid (Below w5.heap.size w5 (w5.alloc (.cells #[.int .i64 mk, .string (bstr mv), .string (bstr mn), .slice q5 ms.length c5] 24))) := (Below.refl _ _).alloc (Nat.le_refl _) _
        have HC6 := Lib.hid (HC5.out.later HB6.out)
        have HTR := Lib.hid HC6.out.2.2.1
        have HAB : Hid (Arr (w5.alloc (.cells #[.int .i64 mk, .string (bstr mv), .string (bstr mn), .slice q5 ms.length c5] 24)) 24 w5.heap.size [.int .i64 mk, .string (bstr mv), .string (bstr mn), .slice q5 ms.length c5]) := Arr.new' _ _ _ _ rfl
        have HRE : Hid (RdE (Sub (w.heap.size + 2) (w5.alloc (.cells #[.int .i64 mk, .string (bstr mv), .string (bstr mn), .slice q5 ms.length c5] 24)) (.slice qv i cv)) (w5.alloc (.cells #[.int .i64 mk, .string (bstr mv), .string (bstr mn), .slice q5 ms.length c5] 24)) (.mk mk mv mn ms) (.agg #[.int .i64 mk, .string (bstr mv), .string (bstr mn), .slice q5 ms.length c5])) :=
          (HR5.out.below HB6.out fun b hb => hb.2.1).imp fun b hb => ⟨hb.1, Nat.lt_of_lt_of_le hb.2.1 HB6.out.size, hb.2.2⟩
        have HAC : Hid ((mapL (ks.take i)).length + 1 ≤ 1000000) := by show _ ≤ _; omega
        have HBS : Hid (w.heap.size + 2 ≤ (w5.alloc (.cells #[.int .i64 mk, .string (bstr mv), .string (bstr mn), .slice q5 ms.length c5] 24)).heap.size) := HC6.out.2.2.2.2
        clear b5 r5 hc5 htl
        go_wp2_with (at_builtin; refine app_ex rfl _ _ rfl rfl HTR.out rfl HAB.out HRE.out HAC.out HBS.out ?_; intro v6 w6 h6 b6 g6)
        go_roundw
        case rel => exact ⟨i + 1, by omega, by go_num, by rw [HMP.out]; exact HC6.out.row h6 b6⟩
        case measure => simp [intOf]; omega
      · have hi1 : ¬ (i : Int) < ks.length := by omega
        have HK2 : Hid (ks.take i = ks) := List.take_of_length_le (by omega)
        obtain rfl : i = ks.length := by omega
        have HC2 := HC.out
        rw [HK2.out] at HC2
        have HC3 := Lib.hid HC2
        have hq0 := HC2.1.cell 0
        have hq1 := HC2.1.cell 1
        have hq2 := HC2.1.cell 2
        have hq3 := HC2.1.cell 3
        have hf3 := HC2.1.free 3
        simp only [List.getElem?_cons_zero, List.getElem?_cons_succ] at hq0 hq1 hq2 hq3
        clear HC2 htl HC
        go_wp2_with fail
        refine (HCNT.out qv cv _).mono ?_
        rintro r w8 ⟨rfl, b8⟩
        have HA8 := Lib.hid ((HC3.out.2.1.setCell (a := ⟨w.heap.size, 3, none⟩) (by simp) (.slice qv ks.length cv)).later b8)
        have HE8 := Lib.hid ((HC3.out.2.2.1.set (a := ⟨w.heap.size, 3, none⟩) (show w.heap.size < w.heap.size + 2 by omega) (.slice qv ks.length cv)).later b8)
        have HB8 : Hid (Below w.heap.size w w8) := (HC3.out.2.2.2.1.setCell (p := ⟨w.heap.size, 3, none⟩) (Nat.le_refl _) (.slice qv ks.length cv)).trans (b8.mono (by simpa [World.setCell] using HC3.out.2.2.2.1.size))
        have hr0 := HA8.out.cell 0
        have hr1 := HA8.out.cell 1
        have hr2 := HA8.out.cell 2
        have hr3 := HA8.out.cell 3
        have hp0 := HA8.out.free 0
        have hp1 := HA8.out.free 1
        have hp2 := HA8.out.free 2
        have hp3 := HA8.out.free 3
        simp only [List.getElem?_cons_zero, List.getElem?_cons_succ] at hr0 hr1 hr2 hr3
        clear b8 hq0 hq1 hq2 hq3 hf3
        have HME : Hid (mapE (.mk k xv xn ks) = .mk (markK k ks.length) xv (markN xn ks.length) (mapL ks)) := mapE_mk _ _ _ _
        obtain ⟨K, hK⟩ : ∃ K, K = markK k ks.length := ⟨_, rfl⟩
        obtain ⟨N, hN⟩ : ∃ N, N = markN xn ks.length := ⟨_, rfl⟩
        rw [← hK, ← hN] at HME ⊢
        clear hK hN
        go_wp2_with fail
        have hA := HA8.out.set4 (.int .i64 K) (.string (bstr xv)) (.string (bstr N)) (.slice qv ks.length cv)
        have hB := below_set4 (g := w.heap.size + 1) HB8.out (by omega) (.int .i64 K) (.string (bstr xv)) (.string (bstr N)) (.slice qv ks.length cv)
        have hE := ExRow.set4 (g := w.heap.size + 1) HE8.out (by omega) (.int .i64 K) (.string (bstr xv)) (.string (bstr N)) (.slice qv ks.length cv)
        refine bodyPost_ret (resE rfl hA rfl) rfl ⟨_, rfl, ?_, hB⟩
        rw [HME.out]
        exact (hE.rd K xv N).imp fun b hb => ⟨by have := hb.1; omega, hb.2⟩
theorem idle_M (p : Value) (w : World) :
    CallsD Tryd.prog 38 #[p] .returning w fun e u' w' => e = .returned (.tuple #[]) ∧ u' = .returning ∧ w' = w := by
  refine callsD_of_wpS Tryd.func38 rfl fun c₀ cs hu => ?_
  apply wpS_seq
  apply wpS_region
  simp [wpOpsS, go_sem, recoverD, hu, Tryd.ntmps38, Exit.thenS]
  refine wpS_cond (t := false) (by simp [Act.eval, Array.replicate]) ?_
  simp only [Bool.false_eq_true, if_false]
  refine wpS_of_wp (wp_skip ?_)
  cases c₀
  simp_all [bodyPostS, results, Tryd.results38]
set_option maxRecDepth 100000 in
set_option maxHeartbeats 4000000 in
theorem map_any (e : Ex) (v : Value) (P : Nat → Prop) (w : World) (hm : sizeE e ≤ 900000) (hwt : wE e ≤ 900000000) (h : RdE P w e v) (hP : ∀ b, P b → b < w.heap.size) : Calls Tryd.prog 22 #[v, .func (.func 23) #[] #[]] w (ClPost (mapE e) w) := by
  have H := Lib.hid h
  obtain ⟨q, c, rfl, hc, hk⟩ := h.form
  obtain ⟨k, xv, xn, ks⟩ := e
  unfold exv
  show Calls _ _ #[.agg #[.int .i64 k, .string (bstr xv), .string (bstr xn), .slice q ks.length c], .func (.func 23) #[] #[]] _ _
  have hmf : ∀ (fn : Fn) (first cap : Array Value) (w : World), (Instr.makeFunc fn first cap).run Tryd.prog w = .ok (.func fn first cap) w := fun _ _ _ _ => rfl
  have HW : Hid (Arr ((w.alloc (.cells #[.int .i64 k, .string (bstr xv), .string (bstr xn), .slice q ks.length c] 24)).alloc (.cells #[.int .i64 0, .string ByteArray.empty, .string ByteArray.empty, .slice none 0 0] 24)) 24 (w.heap.size + 1) [.int .i64 0, .string ByteArray.empty, .string ByteArray.empty, .slice none 0 0] ∧ Below w.heap.size w ((w.alloc (.cells #[.int .i64 k, .string (bstr xv), .string (bstr xn), .slice q ks.length c] 24)).alloc (.cells #[.int .i64 0, .string ByteArray.empty, .string ByteArray.empty, .slice none 0 0] 24))) :=
    ⟨Arr.new2 w _ _ _ _ rfl, ((Below.refl _ _).alloc (Nat.le_refl _) _).alloc (by simp) _⟩
  have HMC := Lib.hid (mapParts_any _ (.mk k xv xn ks) _ P ((w.alloc (.cells #[.int .i64 k, .string (bstr xv), .string (bstr xn), .slice q ks.length c] 24)).alloc (.cells #[.int .i64 0, .string ByteArray.empty, .string ByteArray.empty, .slice none 0 0] 24)) (Nat.le_refl _) hm hwt (H.out.below HW.out.2 hP) (fun b hb => Nat.lt_of_lt_of_le (hP b hb) HW.out.2.size))
  have HSZ : Hid (sizeE (mapE (.mk k xv xn ks)) ≤ 900000) := by show _ ≤ _; rw [mapE_size]; exact hm
  obtain ⟨me, hme⟩ : ∃ e, e = mapE (.mk k xv xn ks) := ⟨_, rfl⟩
  rw [← hme] at HMC HSZ ⊢
  clear h hc hk hm hwt hP hme H
  go_enter_defers Tryd.func22, Tryd.ntmps22
  go_wp2_with fail
  refine HMC.out.mono ?_
  rintro r w3 ⟨v3, rfl, r3, b3⟩
  have HB3 := Lib.hid (HW.out.2.trans (b3.mono HW.out.2.size))
  have HA3 := Lib.hid (HW.out.1.later b3)
  have HCL := Lib.hid (clone_any _ me _ _ w3 (Nat.le_refl _) HSZ.out r3 (fun b hb => hb.2))
  clear r3 b3 HMC HW
  go_wp2_with fail
  refine HCL.out.mono ?_
  rintro r w4 ⟨v4, rfl, r4, b4⟩
  have HB4 := Lib.hid (HB3.out.trans (b4.mono HB3.out.size))
  have HA4 := Lib.hid (HA3.out.later b4)
  have HR4 : Hid (RdE (Bt w.heap.size w4.heap.size) w4 me v4) := r4.imp fun b hb => ⟨Nat.le_trans HB3.out.size hb.1, hb.2⟩
  have HLT : Hid (w.heap.size + 1 < w3.heap.size) := HA3.out.lt
  have HR5 : Hid (RdE (Bt w3.heap.size w4.heap.size) w4 me v4) := r4
  obtain ⟨mk, mv, mn, ms⟩ := me
  obtain ⟨q4, c4, rfl, _, _⟩ := r4.form
  unfold exv
  dsimp only [Ex.kind, Ex.via, Ex.nm, Ex.kids]
  have hr0 := HA4.out.cell 0
  have hr1 := HA4.out.cell 1
  have hr2 := HA4.out.cell 2
  have hr3 := HA4.out.cell 3
  have hp0 := HA4.out.free 0
  have hp1 := HA4.out.free 1
  have hp2 := HA4.out.free 2
  have hp3 := HA4.out.free 3
  simp only [List.getElem?_cons_zero, List.getElem?_cons_succ] at hr0 hr1 hr2 hr3
  clear r4 b4 HCL HB3 HA3
  go_wp2_with fail
  refine leaves_cons (f := 38) (args := #[.pointer (some ⟨w.heap.size + 1, 0, none⟩)]) (by simp) (by simp [go_sem]) ?_
  refine (idle_M _ _).mono ?_
  rintro e u' w'' ⟨rfl, rfl, rfl⟩
  have hA := HA4.out.set4 (.int .i64 mk) (.string (bstr mv)) (.string (bstr mn)) (.slice q4 ms.length c4)
  have hB := below_set4 (g := w.heap.size + 1) HB4.out (by omega) (.int .i64 mk) (.string (bstr mv)) (.string (bstr mn)) (.slice q4 ms.length c4)
  have hsz : ((((w4.setCell ⟨w.heap.size + 1, 0, none⟩ (.int .i64 mk)).setCell ⟨w.heap.size + 1, 1, none⟩ (.string (bstr mv))).setCell ⟨w.heap.size + 1, 2, none⟩ (.string (bstr mn))).setCell ⟨w.heap.size + 1, 3, none⟩ (.slice q4 ms.length c4)).heap.size = w4.heap.size := by simp [World.setCell]
  refine ⟨.agg #[.int .i64 mk, .string (bstr mv), .string (bstr mn), .slice q4 ms.length c4], ?_, _, rfl, ?_, hB⟩
  · exact resE rfl hA rfl
  · refine (HR5.out.keep fun b hb n => ?_).imp fun b hb => ⟨Nat.le_trans (by have := HLT.out; omega) hb.1, by rw [hsz]; exact hb.2⟩
    have hne : b ≠ w.heap.size + 1 := by have := hb.1; have := HLT.out; omega
    rw [World.cell?_of_block (Below.heap_setCell _ ⟨w.heap.size + 1, 3, none⟩ _ b hne), World.cell?_of_block (Below.heap_setCell _ ⟨w.heap.size + 1, 2, none⟩ _ b hne), World.cell?_of_block (Below.heap_setCell _ ⟨w.heap.size + 1, 1, none⟩ _ b hne), World.cell?_of_block (Below.heap_setCell _ ⟨w.heap.size + 1, 0, none⟩ _ b hne)]
end Go.Proofs.YtigphejoekfclaaDoor
