/-
  putCount, putExpr: an expression of the form as bytes.
-/
import Derived.Test.YtdnmgemjhpkekaaGreatDoorMk2
import Derived.Test.YtdnmgemjhpkekaaGreatDoorMk1
import Derived.Test.YtdnmgemjhpkekaaGreatDoorMk0
import Derived.Test.YtdnmgemjhpkekaaGreatDoorConvS
import Derived.Test.YtdnmgemjhpkekaaGreatDoorTold
import Derived.Test.YtdnmgemjhpkekaaGreatDoorSame
import Derived.Laws.AppendOwnNone
import Derived.Deep.Slices
import Derived.Deep.Fields
import Derived.ChangeSame
import Derived.SizedLaws
import Derived.HandedShaped
import Derived.OpenShut
import Derived.Test.YtdnmgemjhpkekaaGreatDoorMk3
namespace Go.Proofs.YtdnmgemjhpkekaaGreatDoor
open Go.ChangeShapes Go.WideShapes Go.ChangeAt Go.RowKit
set_option linter.unusedVariables false
set_option linter.unusedSimpArgs false

theorem form_two {k : Int} {v n : List UInt8} {ks : List Ex} (h : formE (.mk k v n ks) = true) : (k = 1 ∧ v = [] ∧ ks = [] ∧ isName (bstr n) = true) ∨ (k = 2 ∧ ks = [] ∧ isName (bstr v) = true ∧ isName (bstr n) = true) ∨ ((k = 3 ∨ k = 4 ∨ k = 5) ∧ v = [] ∧ n = [] ∧ 2 ≤ ks.length ∧ (k = 5 → ks.length = 2) ∧ formL ks = true) := by
 unfold formE at h
 simp only [Bool.and_eq_true] at h
 obtain ⟨h1, h2⟩ := h
 unfold partB at h1
 split at h1
 ·simp only [Bool.and_eq_true, decide_eq_true_eq] at h1
  exact .inl ⟨‹_›, h1.1.2, List.length_eq_zero_iff.1 h1.1.1, h1.2⟩
 ·split at h1
  ·simp only [Bool.and_eq_true, decide_eq_true_eq] at h1
   exact .inr (.inl ⟨‹_›, List.length_eq_zero_iff.1 h1.1.1, h1.1.2, h1.2⟩)
  ·split at h1
   ·rename_i h5
    simp only [Bool.and_eq_true, decide_eq_true_eq] at h1
    exact .inr (.inr ⟨h5.elim .inl (fun e => .inr (.inl e)), h1.1.2, h1.2, h1.1.1, fun e => by omega, h2⟩)
   ·split at h1
    ·simp only [Bool.and_eq_true, decide_eq_true_eq] at h1
     exact .inr (.inr ⟨.inr (.inr ‹_›), h1.1.2, h1.2, by omega, fun _ => h1.1.1, h2⟩)
    ·cases h1
theorem formL_cons {e : Ex} {r : List Ex} (h : formL (e :: r) = true) : formE e = true ∧ formL r = true := by
 unfold formL at h
 simpa using h
theorem put_small (n : Nat) (h : n < lim64) : (put n).length ≤ 10 := put_len10 h
mutual
theorem putE_len : ∀ e : Ex, okE 64 e → formE e = true → sizeE e ≤ 64 → (putE e).length ≤ 200 * sizeE e
 | .mk k v n ks, h, hf, hs => by
  unfold okE at h
  obtain ⟨h1, h2, h3⟩ := h
  have hks : formL ks = true := by unfold formE at hf; simp only [Bool.and_eq_true] at hf; exact hf.2
  have hk5 : k.toNat ≤ 5 := by rcases form_two hf with ⟨rfl, _⟩ | ⟨rfl, _⟩ | ⟨rfl | rfl | rfl, _⟩ <;> decide
  unfold sizeE at hs
  have hl := sizeL_len ks
  have h4 := putEs_len ks h3 hks (by omega)
  have a1 := put_small k.toNat (by unfold lim64; omega)
  have a2 : (putS (bstr v)).length ≤ 80 := by have := putS_len (bstr v) (by rw [bstr_size]; unfold lim64; omega); rw [bstr_size] at this; omega
  have a3 : (putS (bstr n)).length ≤ 80 := by have := putS_len (bstr n) (by rw [bstr_size]; unfold lim64; omega); rw [bstr_size] at this; omega
  have a4 : (put ks.length).length ≤ 10 := put_small ks.length (by unfold lim64; omega)
  unfold putE sizeE
  simp only [List.length_append]
  have b2 : (if k = 2 then putS (bstr v) else []).length ≤ 80 := by split; exact a2; exact Nat.zero_le _
  have b3 : (if k < 3 then putS (bstr n) else []).length ≤ 80 := by split; exact a3; exact Nat.zero_le _
  have b4 : (if k = 3 ∨ k = 4 then put ks.length else []).length ≤ 10 := by split; exact a4; exact Nat.zero_le _
  have e : 200 * (sizeL ks + 1) = 200 * sizeL ks + 200 := by rw [Nat.mul_add]
  omega
theorem putEs_len : ∀ l : List Ex, okL 64 l → formL l = true → sizeL l ≤ 64 → (putEs l).length ≤ 200 * sizeL l
 | [], _, _, _ => Nat.zero_le _
 | e :: r, h, hf, hs => by
  unfold okL at h
  unfold sizeL at hs
  have hf2 := formL_cons hf
  have a := putE_len e h.1 hf2.1 (by omega)
  have b := putEs_len r h.2 hf2.2 (by omega)
  unfold putEs sizeL
  rw [List.length_append, Nat.mul_add]
  omega
end
theorem len_of {T A m r : List UInt8} (h : T = A ++ (m ++ r)) (hT : T.length ≤ 20000) : A.length + m.length ≤ 140737488355328 := by
 rw [h] at hT
 simp only [List.length_append] at hT
 omega
theorem convC (n : Nat) (h : n ≤ 1000000) (w : World) : (convert 3 94 (.int .i64 (n : Nat))).run Tryz.prog w = .ok (.int .u64 n) w := by
 have e : IntKind.wrap .u64 (n : Int) = n := by
  unfold IntKind.wrap; simp [IntKind.bits, IntKind.signed]; omega
 simp [convert, run_underlying Tryz.underlying3, run_underlying Tryz.underlying94, Conv.intToInt, e]
set_option maxRecDepth 100000 in
set_option maxHeartbeats 2000000 in
theorem putCount_any (n : Nat) (h : n ≤ 1000000) (w : World) : Calls Tryz.prog 33 #[.int .i64 (n : Nat)] w (Owned w (put n)) := by
 have hc := convC n h
 have HN := hiD (wput n (by unfold lim64; omega) w)
 clear h
 go_enter Tryz.func33, Tryz.ntmps33
 go_wp2_with fail
 refine HN.out.mono ?_
 rintro e w1 ⟨v, rfl, o1, b1⟩
 have HO := hiD o1
 have HB := hiD b1
 clear o1 b1
 go_wp2_with fail
 go_ret
 exact ⟨v, rfl, HO.out, HB.out⟩
theorem putS_text (l : List UInt8) (h : l.length ≤ 1000) (w : World) : Calls Tryz.prog 34 #[.string (bstr l)] w (Owned w (putS (bstr l))) := text_any (bstr l) (by rw [bstr_size]; omega) w
set_option maxRecDepth 100000 in
set_option maxHeartbeats 8000000 in
theorem putX_step {m : Nat} (IH : Hid (∀ (e : Ex) (v : Value) (P : Nat → Prop) (w : World), sizeE e ≤ m → okE 64 e → formE e = true → RdE P w e v → (∀ b, P b → b < w.heap.size) → Calls Tryz.prog 39 #[v] w (Owned w (putE e)))) (hm : m ≤ 63) (e : Ex) (v : Value) (P : Nat → Prop) (w : World) (hs : sizeE e ≤ m + 1) (ho : okE 64 e) (hf : formE e = true) (h : RdE P w e v) (hP : ∀ b, P b → b < w.heap.size) : Calls Tryz.prog 39 #[v] w (Owned w (putE e)) := by
 obtain ⟨q, c, rfl, hc, hk⟩ := h.form
 obtain ⟨k, xv, xn, ks⟩ := e
 unfold exv
 show Calls _ _ #[.agg #[.int .i64 k, .string (bstr xv), .string (bstr xn), .slice q ks.length c]] _ _
 have HK : Hid (0 < ks.length → ∃ b o, q = some ⟨b, o, none⟩ ∧ P b ∧ RdL P w ks b o) := hk
 have hb0 : Below w.heap.size w (w.alloc (.cells #[.int .i64 k, .string (bstr xv), .string (bstr xn), .slice q ks.length c] 42)) := (Below.refl _ _).alloc (Nat.le_refl _) _
 unfold okE at ho
 have HLV : Hid (xv.length ≤ 64) := ho.1
 have HLX : Hid (xn.length ≤ 64) := ho.2.1
 have HOKL : Hid (okL 64 ks) := ho.2.2
 have HFL : Hid (formL ks = true) := by unfold formE at hf; simp only [Bool.and_eq_true] at hf; exact hf.2
 have HSZ : Hid (sizeL ks ≤ m) := by unfold sizeE at hs; exact Nat.le_of_succ_le_succ hs
 have HKL : Hid (ks.length ≤ 100) := by have := sizeL_len ks; have := HSZ.out; exact (by omega : ks.length ≤ 100)
 obtain ⟨T, hT⟩ : ∃ T, T = putE (.mk k xv xn ks) := ⟨_, rfl⟩
 have HT : Hid (T.length ≤ 20000) := by
  show _ ≤ _
  have := putE_len (.mk k xv xn ks) (by unfold okE; exact ho) hf (by omega)
  rw [hT]; omega
 have HTE := hiD hT
 rw [← hT]
 have h2 := form_two hf
 clear hT ho hf hs hm
 rcases h2 with ⟨rfl, rfl, rfl, h2⟩ | ⟨rfl, rfl, h2⟩ | ⟨rfl | rfl | rfl, rfl, rfl, h2⟩ <;> clear h2
 ·have HQ0 : Hid (T = put 1 ++ (putS (bstr xn) ++ [])) := by show _ = _; rw [HTE.out]; simp [putE, putEs]
  clear HTE
  have HB0 := hiD hb0
  have HA0 : Hid (Arr (w.alloc (.cells #[.int .i64 1, .string (bstr []), .string (bstr xn), .slice q 0 c] 42)) 42 w.heap.size [.int .i64 1, .string (bstr []), .string (bstr xn), .slice q 0 c]) := Arr.new' _ _ _ _ rfl
  go_enter Tryz.func39, Tryz.ntmps39
  go_upto_region 1 with (fail)
  have HN := hiD (putCount_any 1 (by decide) (w.alloc (.cells #[.int .i64 1, .string (bstr []), .string (bstr xn), .slice q 0 c] 42)))
  have HWS : Hid ((w.alloc (.cells #[.int .i64 1, .string (bstr []), .string (bstr xn), .slice q 0 c] 42)).heap.size = w.heap.size + 1) := World.size_alloc _ _
  generalize w.alloc (.cells #[.int .i64 1, .string (bstr []), .string (bstr xn), .slice q 0 c] 42) = w0 at HB0 HA0 HN HWS ⊢
  obtain ⟨x0, y0, x1, y1, x2, y2, x3, y3⟩ := HA0.out.all4
  go_wp2_with fail
  refine HN.out.mono ?_
  rintro e w1 ⟨v1, rfl, o1, b1⟩
  have HB1 := hiD (HB0.out.trans (b1.mono HB0.out.size))
  have HA1 := hiD (HA0.out.later b1)
  obtain ⟨q1, c1, rfl⟩ := own_form o1
  obtain ⟨A1, hA⟩ : ∃ x, x = put 1 := ⟨_, rfl⟩
  rw [← hA] at o1 HQ0 ⊢
  have HQ1 := HQ0
  have HO1 : Hid (w1.ownsRow (w.heap.size + 1) 5 1 (.slice q1 A1.length c1) A1.length (bvs A1)) := by rw [← HWS.out]; exact o1
  clear o1 b1 HN HB0 HA0 HWS HQ0 hA x0 x1 x2 x3 y0 y1 y2 y3
  obtain ⟨x0, y0, x1, y1, x2, y2, x3, y3⟩ := HA1.out.all4
  go_wp2_with fail
  refine (putS_text xn (by have := HLX.out; omega) _).mono ?_
  rintro e wa ⟨vm, rfl, om, bm⟩
  have HOA := hiD (own_below HO1.out bm)
  have HBA := hiD (HB1.out.trans (bm.mono HB1.out.size))
  have HAA := hiD (HA1.out.later bm)
  have HRM := hiD (Rd.of_own om)
  obtain ⟨qm, cm, rfl⟩ := own_form om
  have HLN := hiD (len_of HQ1.out HT.out)
  have HWB : Hid (w.heap.size + 1 ≤ wa.heap.size) := HAA.out.lt
  clear om bm HO1 HB1 HA1 x0 x1 x2 x3 y0 y1 y2 y3
  go_wp2_with (at_builtin; refine app_bytes rfl _ _ rfl rfl HOA.out rfl HRM.out HLN.out HWB.out ?_)
  intro vn wn hown hg
  have HB2 := hiD (below_grown HBA.out HBA.out.size (Nat.le_succ _) HOA.out hg)
  have HA2 : Hid (Arr wn 42 w.heap.size [.int .i64 1, .string (bstr []), .string (bstr xn), .slice q 0 c]) := (hg.block _ HAA.out.lt (fun e => by have := (HOA.out.lt _ e.symm).1; omega)).trans HAA.out
  obtain ⟨q2, c2, rfl⟩ := own_form hown
  obtain ⟨A2, hA⟩ : ∃ x, x = A1 ++ putS (bstr xn) := ⟨_, rfl⟩
  have hAL : A1.length + (putS (bstr xn)).length = A2.length := by rw [hA, List.length_append]
  have HO2 : Hid (wn.ownsRow (w.heap.size + 1) 5 1 (.slice q2 A2.length c2) A2.length (bvs A2)) := by show World.ownsRow _ _ _ _ _ _ _; rw [hA]; simpa using hown
  rw [hAL]
  clear hAL
  have HQ2 : Hid (T = A2 ++ []) := by rw [hA, List.append_assoc]; exact HQ1.out
  clear hown hg HOA HBA HAA HRM HLN HWB hA HQ1
  generalize wn = w2 at HB2 HA2 HO2 ⊢
  go_wp2_with fail
  go_ret
  have HEND : T = A2 := by rw [HQ2.out, List.append_nil]
  rw [HEND]
  exact ⟨_, rfl, own_le HO2.out (Nat.le_succ _), HB2.out⟩
 ·have HQ0 : Hid (T = put 2 ++ (putS (bstr xv) ++ (putS (bstr xn) ++ []))) := by show _ = _; rw [HTE.out]; simp [putE, putEs]
  clear HTE
  have HB0 := hiD hb0
  have HA0 : Hid (Arr (w.alloc (.cells #[.int .i64 2, .string (bstr xv), .string (bstr xn), .slice q 0 c] 42)) 42 w.heap.size [.int .i64 2, .string (bstr xv), .string (bstr xn), .slice q 0 c]) := Arr.new' _ _ _ _ rfl
  go_enter Tryz.func39, Tryz.ntmps39
  go_upto_region 1 with (fail)
  have HN := hiD (putCount_any 2 (by decide) (w.alloc (.cells #[.int .i64 2, .string (bstr xv), .string (bstr xn), .slice q 0 c] 42)))
  have HWS : Hid ((w.alloc (.cells #[.int .i64 2, .string (bstr xv), .string (bstr xn), .slice q 0 c] 42)).heap.size = w.heap.size + 1) := World.size_alloc _ _
  generalize w.alloc (.cells #[.int .i64 2, .string (bstr xv), .string (bstr xn), .slice q 0 c] 42) = w0 at HB0 HA0 HN HWS ⊢
  obtain ⟨x0, y0, x1, y1, x2, y2, x3, y3⟩ := HA0.out.all4
  go_wp2_with fail
  refine HN.out.mono ?_
  rintro e w1 ⟨v1, rfl, o1, b1⟩
  have HB1 := hiD (HB0.out.trans (b1.mono HB0.out.size))
  have HA1 := hiD (HA0.out.later b1)
  obtain ⟨q1, c1, rfl⟩ := own_form o1
  obtain ⟨A1, hA⟩ : ∃ x, x = put 2 := ⟨_, rfl⟩
  rw [← hA] at o1 HQ0 ⊢
  have HQ1 := HQ0
  have HO1 : Hid (w1.ownsRow (w.heap.size + 1) 5 1 (.slice q1 A1.length c1) A1.length (bvs A1)) := by rw [← HWS.out]; exact o1
  clear o1 b1 HN HB0 HA0 HWS HQ0 hA x0 x1 x2 x3 y0 y1 y2 y3
  obtain ⟨x0, y0, x1, y1, x2, y2, x3, y3⟩ := HA1.out.all4
  go_wp2_with fail
  refine (putS_text xv (by have := HLV.out; omega) _).mono ?_
  rintro e wa ⟨vm, rfl, om, bm⟩
  have HOA := hiD (own_below HO1.out bm)
  have HBA := hiD (HB1.out.trans (bm.mono HB1.out.size))
  have HAA := hiD (HA1.out.later bm)
  have HRM := hiD (Rd.of_own om)
  obtain ⟨qm, cm, rfl⟩ := own_form om
  have HLN := hiD (len_of HQ1.out HT.out)
  have HWB : Hid (w.heap.size + 1 ≤ wa.heap.size) := HAA.out.lt
  clear om bm HO1 HB1 HA1 x0 x1 x2 x3 y0 y1 y2 y3
  go_wp2_with (at_builtin; refine app_bytes rfl _ _ rfl rfl HOA.out rfl HRM.out HLN.out HWB.out ?_)
  intro vn wn hown hg
  have HB2 := hiD (below_grown HBA.out HBA.out.size (Nat.le_succ _) HOA.out hg)
  have HA2 : Hid (Arr wn 42 w.heap.size [.int .i64 2, .string (bstr xv), .string (bstr xn), .slice q 0 c]) := (hg.block _ HAA.out.lt (fun e => by have := (HOA.out.lt _ e.symm).1; omega)).trans HAA.out
  obtain ⟨q2, c2, rfl⟩ := own_form hown
  obtain ⟨A2, hA⟩ : ∃ x, x = A1 ++ putS (bstr xv) := ⟨_, rfl⟩
  have hAL : A1.length + (putS (bstr xv)).length = A2.length := by rw [hA, List.length_append]
  have HO2 : Hid (wn.ownsRow (w.heap.size + 1) 5 1 (.slice q2 A2.length c2) A2.length (bvs A2)) := by show World.ownsRow _ _ _ _ _ _ _; rw [hA]; simpa using hown
  rw [hAL]
  clear hAL
  have HQ2 : Hid (T = A2 ++ (putS (bstr xn) ++ [])) := by rw [hA, List.append_assoc]; exact HQ1.out
  clear hown hg HOA HBA HAA HRM HLN HWB hA HQ1
  generalize wn = w2 at HB2 HA2 HO2 ⊢
  obtain ⟨x0, y0, x1, y1, x2, y2, x3, y3⟩ := HA2.out.all4
  go_wp2_with fail
  refine (putS_text xn (by have := HLX.out; omega) _).mono ?_
  rintro e wa ⟨vm, rfl, om, bm⟩
  have HOA := hiD (own_below HO2.out bm)
  have HBA := hiD (HB2.out.trans (bm.mono HB2.out.size))
  have HAA := hiD (HA2.out.later bm)
  have HRM := hiD (Rd.of_own om)
  obtain ⟨qm, cm, rfl⟩ := own_form om
  have HLN := hiD (len_of HQ2.out HT.out)
  have HWB : Hid (w.heap.size + 1 ≤ wa.heap.size) := HAA.out.lt
  clear om bm HO2 HB2 HA2 x0 x1 x2 x3 y0 y1 y2 y3
  go_wp2_with (at_builtin; refine app_bytes rfl _ _ rfl rfl HOA.out rfl HRM.out HLN.out HWB.out ?_)
  intro vn wn hown hg
  have HB3 := hiD (below_grown HBA.out HBA.out.size (Nat.le_succ _) HOA.out hg)
  have HA3 : Hid (Arr wn 42 w.heap.size [.int .i64 2, .string (bstr xv), .string (bstr xn), .slice q 0 c]) := (hg.block _ HAA.out.lt (fun e => by have := (HOA.out.lt _ e.symm).1; omega)).trans HAA.out
  obtain ⟨q3, c3, rfl⟩ := own_form hown
  obtain ⟨A3, hA⟩ : ∃ x, x = A2 ++ putS (bstr xn) := ⟨_, rfl⟩
  have hAL : A2.length + (putS (bstr xn)).length = A3.length := by rw [hA, List.length_append]
  have HO3 : Hid (wn.ownsRow (w.heap.size + 1) 5 1 (.slice q3 A3.length c3) A3.length (bvs A3)) := by show World.ownsRow _ _ _ _ _ _ _; rw [hA]; simpa using hown
  rw [hAL]
  clear hAL
  have HQ3 : Hid (T = A3 ++ []) := by rw [hA, List.append_assoc]; exact HQ2.out
  clear hown hg HOA HBA HAA HRM HLN HWB hA HQ2
  generalize wn = w3 at HB3 HA3 HO3 ⊢
  go_wp2_with fail
  go_ret
  have HEND : T = A3 := by rw [HQ3.out, List.append_nil]
  rw [HEND]
  exact ⟨_, rfl, own_le HO3.out (Nat.le_succ _), HB3.out⟩
 ·have HQ0 : Hid (T = put 3 ++ (put ks.length ++ putEs ks)) := by show _ = _; rw [HTE.out]; simp [putE, putEs]
  clear HTE
  have HB0 := hiD hb0
  have HA0 : Hid (Arr (w.alloc (.cells #[.int .i64 3, .string (bstr []), .string (bstr []), .slice q ks.length c] 42)) 42 w.heap.size [.int .i64 3, .string (bstr []), .string (bstr []), .slice q ks.length c]) := Arr.new' _ _ _ _ rfl
  go_enter Tryz.func39, Tryz.ntmps39
  go_upto_region 1 with (fail)
  have HN := hiD (putCount_any 3 (by decide) (w.alloc (.cells #[.int .i64 3, .string (bstr []), .string (bstr []), .slice q ks.length c] 42)))
  have HWS : Hid ((w.alloc (.cells #[.int .i64 3, .string (bstr []), .string (bstr []), .slice q ks.length c] 42)).heap.size = w.heap.size + 1) := World.size_alloc _ _
  generalize w.alloc (.cells #[.int .i64 3, .string (bstr []), .string (bstr []), .slice q ks.length c] 42) = w0 at HB0 HA0 HN HWS ⊢
  obtain ⟨x0, y0, x1, y1, x2, y2, x3, y3⟩ := HA0.out.all4
  go_wp2_with fail
  refine HN.out.mono ?_
  rintro e w1 ⟨v1, rfl, o1, b1⟩
  have HB1 := hiD (HB0.out.trans (b1.mono HB0.out.size))
  have HA1 := hiD (HA0.out.later b1)
  obtain ⟨q1, c1, rfl⟩ := own_form o1
  obtain ⟨A1, hA⟩ : ∃ x, x = put 3 := ⟨_, rfl⟩
  rw [← hA] at o1 HQ0 ⊢
  have HQ1 := HQ0
  have HO1 : Hid (w1.ownsRow (w.heap.size + 1) 5 1 (.slice q1 A1.length c1) A1.length (bvs A1)) := by rw [← HWS.out]; exact o1
  clear o1 b1 HN HB0 HA0 HWS HQ0 hA x0 x1 x2 x3 y0 y1 y2 y3
  obtain ⟨x0, y0, x1, y1, x2, y2, x3, y3⟩ := HA1.out.all4
  go_wp2_with fail
  refine (putCount_any ks.length (by have := HKL.out; omega) _).mono ?_
  rintro e wa ⟨vm, rfl, om, bm⟩
  have HOA := hiD (own_below HO1.out bm)
  have HBA := hiD (HB1.out.trans (bm.mono HB1.out.size))
  have HAA := hiD (HA1.out.later bm)
  have HRM := hiD (Rd.of_own om)
  obtain ⟨qm, cm, rfl⟩ := own_form om
  have HLN := hiD (len_of HQ1.out HT.out)
  have HWB : Hid (w.heap.size + 1 ≤ wa.heap.size) := HAA.out.lt
  clear om bm HO1 HB1 HA1 x0 x1 x2 x3 y0 y1 y2 y3
  go_wp2_with (at_builtin; refine app_bytes rfl _ _ rfl rfl HOA.out rfl HRM.out HLN.out HWB.out ?_)
  intro vn wn hown hg
  have HB2 := hiD (below_grown HBA.out HBA.out.size (Nat.le_succ _) HOA.out hg)
  have HA2 : Hid (Arr wn 42 w.heap.size [.int .i64 3, .string (bstr []), .string (bstr []), .slice q ks.length c]) := (hg.block _ HAA.out.lt (fun e => by have := (HOA.out.lt _ e.symm).1; omega)).trans HAA.out
  obtain ⟨q2, c2, rfl⟩ := own_form hown
  obtain ⟨A2, hA⟩ : ∃ x, x = A1 ++ put ks.length := ⟨_, rfl⟩
  have hAL : A1.length + (put ks.length).length = A2.length := by rw [hA, List.length_append]
  have HO2 : Hid (wn.ownsRow (w.heap.size + 1) 5 1 (.slice q2 A2.length c2) A2.length (bvs A2)) := by show World.ownsRow _ _ _ _ _ _ _; rw [hA]; simpa using hown
  rw [hAL]
  clear hAL
  have HQ2 : Hid (T = A2 ++ putEs ks) := by rw [hA, List.append_assoc]; exact HQ1.out
  clear hown hg HOA HBA HAA HRM HLN HWB hA HQ1
  generalize wn = w2 at HB2 HA2 HO2 ⊢
  obtain ⟨x0, y0, x1, y1, x2, y2, x3, y3⟩ := HA2.out.all4
  go_wp2_with fail
  clear x0 x1 x2 x3 y0 y1 y2 y3
  go_loopw [3, 37] (fun bv iv wr => ∃ (i : Nat) (A : List UInt8) (qa : Option Addr) (ca : Nat), i ≤ ks.length ∧ iv = .int .i64 (i : Nat) ∧ bv = .slice qa A.length ca ∧ Hid (wr.ownsRow (w.heap.size + 1) 5 1 (.slice qa A.length ca) A.length (bvs A)) ∧ Hid (Below w.heap.size w wr) ∧ Hid (Arr wr 42 w.heap.size [.int .i64 3, .string (bstr []), .string (bstr []), .slice q ks.length c]) ∧ Hid (T = A ++ putEs (ks.drop i))) (fun _ iv _ => ks.length - (intOf iv).toNat)
  case atStart => exact ⟨0, A2, q2, c2, Nat.zero_le _, rfl, rfl, HO2.out, HB2.out, HA2.out, HQ2.out⟩
  case round =>
   obtain ⟨i, A, qa, ca, hi, rfl, rfl, HO, HB, HA, HQ⟩ := hrel
   by_cases hlt : i < ks.length
   ·have hlt' : (i : Int) < ks.length := by omega
    have hi0 : (0 : Int) ≤ i := by omega
    have hw : wrap64 ((i : Int) + 1) = (i : Int) + 1 := by unfold wrap64; have := HKL.out; omega
    obtain ⟨ba, oa, rfl, hba, hl⟩ := HK.out (by omega)
    obtain ⟨x, hx⟩ : ∃ x, x = ks.getD i ex0 := ⟨_, rfl⟩
    obtain ⟨q2, c2, x0, x1, x2, x3, hr⟩ := hl.at hlt
    have hxs := sizeL_get ks i hlt
    have hxd := depthL_get ks i hlt
    rw [← hx] at x0 x1 x2 x3 hr hxs hxd
    have HX := hiD hx
    obtain ⟨xk, xv2, xn2, xs⟩ := x
    have cc : ∀ n, wr.cell? ⟨ba, n, none⟩ = w.cell? ⟨ba, n, none⟩ := fun n => (HB.out).cell (p := ⟨ba, n, none⟩) (hP _ hba)
    have X0 : wr.cell? ⟨ba, oa + i * 4, none⟩ = some (.int .i64 xk) := (cc _).trans x0
    have X1 : wr.cell? ⟨ba, oa + i * 4 + 1, none⟩ = some (.string (bstr xv2)) := (cc _).trans x1
    have X2 : wr.cell? ⟨ba, oa + i * 4 + 2, none⟩ = some (.string (bstr xn2)) := (cc _).trans x2
    have X3 : wr.cell? ⟨ba, oa + i * 4 + 3, none⟩ = some (.slice q2 xs.length c2) := (cc _).trans x3
    clear x0 x1 x2 x3 cc hx
    have HBA : Hid (Below wr.heap.size wr (wr.alloc (.cells #[.int .i64 xk, .string (bstr xv2), .string (bstr xn2), .slice q2 xs.length c2] 42))) := (Below.refl _ _).alloc (Nat.le_refl _) _
    have HR : Hid (RdE P (wr.alloc (.cells #[.int .i64 xk, .string (bstr xv2), .string (bstr xn2), .slice q2 xs.length c2] 42)) (.mk xk xv2 xn2 xs) (.agg #[.int .i64 xk, .string (bstr xv2), .string (bstr xn2), .slice q2 xs.length c2])) := (hr.below (HB.out) hP).below HBA.out (fun b hb => Nat.lt_of_lt_of_le (hP b hb) (HB.out).size)
    have HOK : Hid (okE 64 (.mk xk xv2 xn2 xs) ∧ formE (.mk xk xv2 xn2 xs) = true ∧ sizeE (.mk xk xv2 xn2 xs) ≤ m) := by
     rw [HX.out]
     refine ⟨okL_get HOKL.out hlt, formL_mem HFL.out _ ?_, ?_⟩
     ·rw [List.getD_eq_getElem?_getD, List.getElem?_eq_getElem hlt]; exact List.getElem_mem hlt
     ·rw [← HX.out]; have := HSZ.out; omega
    have HQ2 : Hid (T = A ++ (putE (.mk xk xv2 xn2 xs) ++ putEs (ks.drop (i + 1)))) := by
     show _ = _
     rw [HQ.out, List.drop_eq_getElem_cons hlt, putEs, HX.out, List.getD_eq_getElem?_getD, List.getElem?_eq_getElem hlt]; rfl
    have HIH := hiD (IH.out (.mk xk xv2 xn2 xs) _ P _ HOK.out.2.2 HOK.out.1 HOK.out.2.1 HR.out (fun b hb => Nat.lt_of_lt_of_le (hP b hb) (Nat.le_trans HB.out.size HBA.out.size)))
    have HOB := hiD (own_below HO.out HBA.out)
    have HBB := hiD (HB.out.trans (HBA.out.mono HB.out.size))
    have HAB := hiD (HA.out.later HBA.out)
    have HLN := hiD (len_of HQ2.out HT.out)
    have HLT : Hid (i < ks.length) := hlt
    clear HO HB HA HQ HBA HR HOK hr hxs hxd HX hlt
    go_wp2_with fail
    refine HIH.out.mono ?_
    rintro e wa ⟨vm, rfl, om, bm⟩
    have HOA := hiD (own_below HOB.out bm)
    have HBA := hiD (HBB.out.trans (bm.mono HBB.out.size))
    have HAA := hiD (HAB.out.later bm)
    have HRM := hiD (Rd.of_own om)
    obtain ⟨qm, cm, rfl⟩ := own_form om
    have HWB : Hid (w.heap.size + 1 ≤ wa.heap.size) := HAA.out.lt
    clear om bm HOB HBB HAB HIH X0 X1 X2 X3
    go_wp2_with (at_builtin; refine app_bytes rfl _ _ rfl rfl HOA.out rfl HRM.out HLN.out HWB.out ?_)
    intro vn wn hown hg
    have HB2 := hiD (below_grown HBA.out HBA.out.size (Nat.le_succ _) HOA.out hg)
    have HA2 : Hid (Arr wn 42 w.heap.size [.int .i64 3, .string (bstr []), .string (bstr []), .slice (some ⟨ba, oa, none⟩) ks.length c]) := (hg.block _ HAA.out.lt (fun e => by have := (HOA.out.lt _ e.symm).1; omega)).trans HAA.out
    obtain ⟨q2, c2, rfl⟩ := own_form hown
    obtain ⟨A2, hA⟩ : ∃ x, x = A ++ putE (.mk xk xv2 xn2 xs) := ⟨_, rfl⟩
    have hAL : A.length + (putE (.mk xk xv2 xn2 xs)).length = A2.length := by rw [hA, List.length_append]
    have HO2 : Hid (wn.ownsRow (w.heap.size + 1) 5 1 (.slice q2 A2.length c2) A2.length (bvs A2)) := by show World.ownsRow _ _ _ _ _ _ _; rw [hA]; simpa using hown
    rw [hAL]
    clear hAL
    have HQ3 : Hid (T = A2 ++ putEs (ks.drop (i + 1))) := by rw [hA, List.append_assoc]; exact HQ2.out
    clear hown hg HOA HBA HAA HRM HLN HWB hA HQ2
    go_wp2_with fail
    go_roundw
    case rel => exact ⟨i + 1, A2, q2, c2, HLT.out, by go_num, rfl, HO2.out, HB2.out, HA2.out, HQ3.out⟩
    case measure => first | exact meas HLT.out (Nat.le_trans HKL.out (by decide)) | exact meas' HLT.out
   ·have hlt' : ¬ (i : Int) < ks.length := by omega
    have hd : ks.drop i = [] := List.drop_eq_nil_of_le (by omega)
    rw [hd] at HQ
    have HQ9 : Hid (T = A ++ []) := HQ.out
    have HO9 := HO
    have HB9 := HB
    obtain ⟨A9, hA9⟩ : ∃ x, x = A := ⟨_, rfl⟩
    rw [← hA9] at HO9 HQ9
    subst hA9
    go_wp2_with fail
    go_ret
    have HEND : T = A9 := by rw [HQ9.out, List.append_nil]
    rw [HEND]
    exact ⟨_, rfl, own_le HO9.out (Nat.le_succ _), HB9.out⟩
 ·have HQ0 : Hid (T = put 4 ++ (put ks.length ++ putEs ks)) := by show _ = _; rw [HTE.out]; simp [putE, putEs]
  clear HTE
  have HB0 := hiD hb0
  have HA0 : Hid (Arr (w.alloc (.cells #[.int .i64 4, .string (bstr []), .string (bstr []), .slice q ks.length c] 42)) 42 w.heap.size [.int .i64 4, .string (bstr []), .string (bstr []), .slice q ks.length c]) := Arr.new' _ _ _ _ rfl
  go_enter Tryz.func39, Tryz.ntmps39
  go_upto_region 1 with (fail)
  have HN := hiD (putCount_any 4 (by decide) (w.alloc (.cells #[.int .i64 4, .string (bstr []), .string (bstr []), .slice q ks.length c] 42)))
  have HWS : Hid ((w.alloc (.cells #[.int .i64 4, .string (bstr []), .string (bstr []), .slice q ks.length c] 42)).heap.size = w.heap.size + 1) := World.size_alloc _ _
  generalize w.alloc (.cells #[.int .i64 4, .string (bstr []), .string (bstr []), .slice q ks.length c] 42) = w0 at HB0 HA0 HN HWS ⊢
  obtain ⟨x0, y0, x1, y1, x2, y2, x3, y3⟩ := HA0.out.all4
  go_wp2_with fail
  refine HN.out.mono ?_
  rintro e w1 ⟨v1, rfl, o1, b1⟩
  have HB1 := hiD (HB0.out.trans (b1.mono HB0.out.size))
  have HA1 := hiD (HA0.out.later b1)
  obtain ⟨q1, c1, rfl⟩ := own_form o1
  obtain ⟨A1, hA⟩ : ∃ x, x = put 4 := ⟨_, rfl⟩
  rw [← hA] at o1 HQ0 ⊢
  have HQ1 := HQ0
  have HO1 : Hid (w1.ownsRow (w.heap.size + 1) 5 1 (.slice q1 A1.length c1) A1.length (bvs A1)) := by rw [← HWS.out]; exact o1
  clear o1 b1 HN HB0 HA0 HWS HQ0 hA x0 x1 x2 x3 y0 y1 y2 y3
  obtain ⟨x0, y0, x1, y1, x2, y2, x3, y3⟩ := HA1.out.all4
  go_wp2_with fail
  refine (putCount_any ks.length (by have := HKL.out; omega) _).mono ?_
  rintro e wa ⟨vm, rfl, om, bm⟩
  have HOA := hiD (own_below HO1.out bm)
  have HBA := hiD (HB1.out.trans (bm.mono HB1.out.size))
  have HAA := hiD (HA1.out.later bm)
  have HRM := hiD (Rd.of_own om)
  obtain ⟨qm, cm, rfl⟩ := own_form om
  have HLN := hiD (len_of HQ1.out HT.out)
  have HWB : Hid (w.heap.size + 1 ≤ wa.heap.size) := HAA.out.lt
  clear om bm HO1 HB1 HA1 x0 x1 x2 x3 y0 y1 y2 y3
  go_wp2_with (at_builtin; refine app_bytes rfl _ _ rfl rfl HOA.out rfl HRM.out HLN.out HWB.out ?_)
  intro vn wn hown hg
  have HB2 := hiD (below_grown HBA.out HBA.out.size (Nat.le_succ _) HOA.out hg)
  have HA2 : Hid (Arr wn 42 w.heap.size [.int .i64 4, .string (bstr []), .string (bstr []), .slice q ks.length c]) := (hg.block _ HAA.out.lt (fun e => by have := (HOA.out.lt _ e.symm).1; omega)).trans HAA.out
  obtain ⟨q2, c2, rfl⟩ := own_form hown
  obtain ⟨A2, hA⟩ : ∃ x, x = A1 ++ put ks.length := ⟨_, rfl⟩
  have hAL : A1.length + (put ks.length).length = A2.length := by rw [hA, List.length_append]
  have HO2 : Hid (wn.ownsRow (w.heap.size + 1) 5 1 (.slice q2 A2.length c2) A2.length (bvs A2)) := by show World.ownsRow _ _ _ _ _ _ _; rw [hA]; simpa using hown
  rw [hAL]
  clear hAL
  have HQ2 : Hid (T = A2 ++ putEs ks) := by rw [hA, List.append_assoc]; exact HQ1.out
  clear hown hg HOA HBA HAA HRM HLN HWB hA HQ1
  generalize wn = w2 at HB2 HA2 HO2 ⊢
  obtain ⟨x0, y0, x1, y1, x2, y2, x3, y3⟩ := HA2.out.all4
  go_wp2_with fail
  clear x0 x1 x2 x3 y0 y1 y2 y3
  go_loopw [3, 37] (fun bv iv wr => ∃ (i : Nat) (A : List UInt8) (qa : Option Addr) (ca : Nat), i ≤ ks.length ∧ iv = .int .i64 (i : Nat) ∧ bv = .slice qa A.length ca ∧ Hid (wr.ownsRow (w.heap.size + 1) 5 1 (.slice qa A.length ca) A.length (bvs A)) ∧ Hid (Below w.heap.size w wr) ∧ Hid (Arr wr 42 w.heap.size [.int .i64 4, .string (bstr []), .string (bstr []), .slice q ks.length c]) ∧ Hid (T = A ++ putEs (ks.drop i))) (fun _ iv _ => ks.length - (intOf iv).toNat)
  case atStart => exact ⟨0, A2, q2, c2, Nat.zero_le _, rfl, rfl, HO2.out, HB2.out, HA2.out, HQ2.out⟩
  case round =>
   obtain ⟨i, A, qa, ca, hi, rfl, rfl, HO, HB, HA, HQ⟩ := hrel
   by_cases hlt : i < ks.length
   ·have hlt' : (i : Int) < ks.length := by omega
    have hi0 : (0 : Int) ≤ i := by omega
    have hw : wrap64 ((i : Int) + 1) = (i : Int) + 1 := by unfold wrap64; have := HKL.out; omega
    obtain ⟨ba, oa, rfl, hba, hl⟩ := HK.out (by omega)
    obtain ⟨x, hx⟩ : ∃ x, x = ks.getD i ex0 := ⟨_, rfl⟩
    obtain ⟨q2, c2, x0, x1, x2, x3, hr⟩ := hl.at hlt
    have hxs := sizeL_get ks i hlt
    have hxd := depthL_get ks i hlt
    rw [← hx] at x0 x1 x2 x3 hr hxs hxd
    have HX := hiD hx
    obtain ⟨xk, xv2, xn2, xs⟩ := x
    have cc : ∀ n, wr.cell? ⟨ba, n, none⟩ = w.cell? ⟨ba, n, none⟩ := fun n => (HB.out).cell (p := ⟨ba, n, none⟩) (hP _ hba)
    have X0 : wr.cell? ⟨ba, oa + i * 4, none⟩ = some (.int .i64 xk) := (cc _).trans x0
    have X1 : wr.cell? ⟨ba, oa + i * 4 + 1, none⟩ = some (.string (bstr xv2)) := (cc _).trans x1
    have X2 : wr.cell? ⟨ba, oa + i * 4 + 2, none⟩ = some (.string (bstr xn2)) := (cc _).trans x2
    have X3 : wr.cell? ⟨ba, oa + i * 4 + 3, none⟩ = some (.slice q2 xs.length c2) := (cc _).trans x3
    clear x0 x1 x2 x3 cc hx
    have HBA : Hid (Below wr.heap.size wr (wr.alloc (.cells #[.int .i64 xk, .string (bstr xv2), .string (bstr xn2), .slice q2 xs.length c2] 42))) := (Below.refl _ _).alloc (Nat.le_refl _) _
    have HR : Hid (RdE P (wr.alloc (.cells #[.int .i64 xk, .string (bstr xv2), .string (bstr xn2), .slice q2 xs.length c2] 42)) (.mk xk xv2 xn2 xs) (.agg #[.int .i64 xk, .string (bstr xv2), .string (bstr xn2), .slice q2 xs.length c2])) := (hr.below (HB.out) hP).below HBA.out (fun b hb => Nat.lt_of_lt_of_le (hP b hb) (HB.out).size)
    have HOK : Hid (okE 64 (.mk xk xv2 xn2 xs) ∧ formE (.mk xk xv2 xn2 xs) = true ∧ sizeE (.mk xk xv2 xn2 xs) ≤ m) := by
     rw [HX.out]
     refine ⟨okL_get HOKL.out hlt, formL_mem HFL.out _ ?_, ?_⟩
     ·rw [List.getD_eq_getElem?_getD, List.getElem?_eq_getElem hlt]; exact List.getElem_mem hlt
     ·rw [← HX.out]; have := HSZ.out; omega
    have HQ2 : Hid (T = A ++ (putE (.mk xk xv2 xn2 xs) ++ putEs (ks.drop (i + 1)))) := by
     show _ = _
     rw [HQ.out, List.drop_eq_getElem_cons hlt, putEs, HX.out, List.getD_eq_getElem?_getD, List.getElem?_eq_getElem hlt]; rfl
    have HIH := hiD (IH.out (.mk xk xv2 xn2 xs) _ P _ HOK.out.2.2 HOK.out.1 HOK.out.2.1 HR.out (fun b hb => Nat.lt_of_lt_of_le (hP b hb) (Nat.le_trans HB.out.size HBA.out.size)))
    have HOB := hiD (own_below HO.out HBA.out)
    have HBB := hiD (HB.out.trans (HBA.out.mono HB.out.size))
    have HAB := hiD (HA.out.later HBA.out)
    have HLN := hiD (len_of HQ2.out HT.out)
    have HLT : Hid (i < ks.length) := hlt
    clear HO HB HA HQ HBA HR HOK hr hxs hxd HX hlt
    go_wp2_with fail
    refine HIH.out.mono ?_
    rintro e wa ⟨vm, rfl, om, bm⟩
    have HOA := hiD (own_below HOB.out bm)
    have HBA := hiD (HBB.out.trans (bm.mono HBB.out.size))
    have HAA := hiD (HAB.out.later bm)
    have HRM := hiD (Rd.of_own om)
    obtain ⟨qm, cm, rfl⟩ := own_form om
    have HWB : Hid (w.heap.size + 1 ≤ wa.heap.size) := HAA.out.lt
    clear om bm HOB HBB HAB HIH X0 X1 X2 X3
    go_wp2_with (at_builtin; refine app_bytes rfl _ _ rfl rfl HOA.out rfl HRM.out HLN.out HWB.out ?_)
    intro vn wn hown hg
    have HB2 := hiD (below_grown HBA.out HBA.out.size (Nat.le_succ _) HOA.out hg)
    have HA2 : Hid (Arr wn 42 w.heap.size [.int .i64 4, .string (bstr []), .string (bstr []), .slice (some ⟨ba, oa, none⟩) ks.length c]) := (hg.block _ HAA.out.lt (fun e => by have := (HOA.out.lt _ e.symm).1; omega)).trans HAA.out
    obtain ⟨q2, c2, rfl⟩ := own_form hown
    obtain ⟨A2, hA⟩ : ∃ x, x = A ++ putE (.mk xk xv2 xn2 xs) := ⟨_, rfl⟩
    have hAL : A.length + (putE (.mk xk xv2 xn2 xs)).length = A2.length := by rw [hA, List.length_append]
    have HO2 : Hid (wn.ownsRow (w.heap.size + 1) 5 1 (.slice q2 A2.length c2) A2.length (bvs A2)) := by show World.ownsRow _ _ _ _ _ _ _; rw [hA]; simpa using hown
    rw [hAL]
    clear hAL
    have HQ3 : Hid (T = A2 ++ putEs (ks.drop (i + 1))) := by rw [hA, List.append_assoc]; exact HQ2.out
    clear hown hg HOA HBA HAA HRM HLN HWB hA HQ2
    go_wp2_with fail
    go_roundw
    case rel => exact ⟨i + 1, A2, q2, c2, HLT.out, by go_num, rfl, HO2.out, HB2.out, HA2.out, HQ3.out⟩
    case measure => first | exact meas HLT.out (Nat.le_trans HKL.out (by decide)) | exact meas' HLT.out
   ·have hlt' : ¬ (i : Int) < ks.length := by omega
    have hd : ks.drop i = [] := List.drop_eq_nil_of_le (by omega)
    rw [hd] at HQ
    have HQ9 : Hid (T = A ++ []) := HQ.out
    have HO9 := HO
    have HB9 := HB
    obtain ⟨A9, hA9⟩ : ∃ x, x = A := ⟨_, rfl⟩
    rw [← hA9] at HO9 HQ9
    subst hA9
    go_wp2_with fail
    go_ret
    have HEND : T = A9 := by rw [HQ9.out, List.append_nil]
    rw [HEND]
    exact ⟨_, rfl, own_le HO9.out (Nat.le_succ _), HB9.out⟩
 ·have HQ0 : Hid (T = put 5 ++ (putEs ks)) := by show _ = _; rw [HTE.out]; simp [putE, putEs]
  clear HTE
  have HB0 := hiD hb0
  have HA0 : Hid (Arr (w.alloc (.cells #[.int .i64 5, .string (bstr []), .string (bstr []), .slice q ks.length c] 42)) 42 w.heap.size [.int .i64 5, .string (bstr []), .string (bstr []), .slice q ks.length c]) := Arr.new' _ _ _ _ rfl
  go_enter Tryz.func39, Tryz.ntmps39
  go_upto_region 1 with (fail)
  have HN := hiD (putCount_any 5 (by decide) (w.alloc (.cells #[.int .i64 5, .string (bstr []), .string (bstr []), .slice q ks.length c] 42)))
  have HWS : Hid ((w.alloc (.cells #[.int .i64 5, .string (bstr []), .string (bstr []), .slice q ks.length c] 42)).heap.size = w.heap.size + 1) := World.size_alloc _ _
  generalize w.alloc (.cells #[.int .i64 5, .string (bstr []), .string (bstr []), .slice q ks.length c] 42) = w0 at HB0 HA0 HN HWS ⊢
  obtain ⟨x0, y0, x1, y1, x2, y2, x3, y3⟩ := HA0.out.all4
  go_wp2_with fail
  refine HN.out.mono ?_
  rintro e w1 ⟨v1, rfl, o1, b1⟩
  have HB1 := hiD (HB0.out.trans (b1.mono HB0.out.size))
  have HA1 := hiD (HA0.out.later b1)
  obtain ⟨q1, c1, rfl⟩ := own_form o1
  obtain ⟨A1, hA⟩ : ∃ x, x = put 5 := ⟨_, rfl⟩
  rw [← hA] at o1 HQ0 ⊢
  have HQ1 := HQ0
  have HO1 : Hid (w1.ownsRow (w.heap.size + 1) 5 1 (.slice q1 A1.length c1) A1.length (bvs A1)) := by rw [← HWS.out]; exact o1
  clear o1 b1 HN HB0 HA0 HWS HQ0 hA x0 x1 x2 x3 y0 y1 y2 y3
  obtain ⟨x0, y0, x1, y1, x2, y2, x3, y3⟩ := HA1.out.all4
  go_wp2_with fail
  clear x0 x1 x2 x3 y0 y1 y2 y3
  go_loopw [3, 37] (fun bv iv wr => ∃ (i : Nat) (A : List UInt8) (qa : Option Addr) (ca : Nat), i ≤ ks.length ∧ iv = .int .i64 (i : Nat) ∧ bv = .slice qa A.length ca ∧ Hid (wr.ownsRow (w.heap.size + 1) 5 1 (.slice qa A.length ca) A.length (bvs A)) ∧ Hid (Below w.heap.size w wr) ∧ Hid (Arr wr 42 w.heap.size [.int .i64 5, .string (bstr []), .string (bstr []), .slice q ks.length c]) ∧ Hid (T = A ++ putEs (ks.drop i))) (fun _ iv _ => ks.length - (intOf iv).toNat)
  case atStart => exact ⟨0, A1, q1, c1, Nat.zero_le _, rfl, rfl, HO1.out, HB1.out, HA1.out, HQ1.out⟩
  case round =>
   obtain ⟨i, A, qa, ca, hi, rfl, rfl, HO, HB, HA, HQ⟩ := hrel
   by_cases hlt : i < ks.length
   ·have hlt' : (i : Int) < ks.length := by omega
    have hi0 : (0 : Int) ≤ i := by omega
    have hw : wrap64 ((i : Int) + 1) = (i : Int) + 1 := by unfold wrap64; have := HKL.out; omega
    obtain ⟨ba, oa, rfl, hba, hl⟩ := HK.out (by omega)
    obtain ⟨x, hx⟩ : ∃ x, x = ks.getD i ex0 := ⟨_, rfl⟩
    obtain ⟨q2, c2, x0, x1, x2, x3, hr⟩ := hl.at hlt
    have hxs := sizeL_get ks i hlt
    have hxd := depthL_get ks i hlt
    rw [← hx] at x0 x1 x2 x3 hr hxs hxd
    have HX := hiD hx
    obtain ⟨xk, xv2, xn2, xs⟩ := x
    have cc : ∀ n, wr.cell? ⟨ba, n, none⟩ = w.cell? ⟨ba, n, none⟩ := fun n => (HB.out).cell (p := ⟨ba, n, none⟩) (hP _ hba)
    have X0 : wr.cell? ⟨ba, oa + i * 4, none⟩ = some (.int .i64 xk) := (cc _).trans x0
    have X1 : wr.cell? ⟨ba, oa + i * 4 + 1, none⟩ = some (.string (bstr xv2)) := (cc _).trans x1
    have X2 : wr.cell? ⟨ba, oa + i * 4 + 2, none⟩ = some (.string (bstr xn2)) := (cc _).trans x2
    have X3 : wr.cell? ⟨ba, oa + i * 4 + 3, none⟩ = some (.slice q2 xs.length c2) := (cc _).trans x3
    clear x0 x1 x2 x3 cc hx
    have HBA : Hid (Below wr.heap.size wr (wr.alloc (.cells #[.int .i64 xk, .string (bstr xv2), .string (bstr xn2), .slice q2 xs.length c2] 42))) := (Below.refl _ _).alloc (Nat.le_refl _) _
    have HR : Hid (RdE P (wr.alloc (.cells #[.int .i64 xk, .string (bstr xv2), .string (bstr xn2), .slice q2 xs.length c2] 42)) (.mk xk xv2 xn2 xs) (.agg #[.int .i64 xk, .string (bstr xv2), .string (bstr xn2), .slice q2 xs.length c2])) := (hr.below (HB.out) hP).below HBA.out (fun b hb => Nat.lt_of_lt_of_le (hP b hb) (HB.out).size)
    have HOK : Hid (okE 64 (.mk xk xv2 xn2 xs) ∧ formE (.mk xk xv2 xn2 xs) = true ∧ sizeE (.mk xk xv2 xn2 xs) ≤ m) := by
     rw [HX.out]
     refine ⟨okL_get HOKL.out hlt, formL_mem HFL.out _ ?_, ?_⟩
     ·rw [List.getD_eq_getElem?_getD, List.getElem?_eq_getElem hlt]; exact List.getElem_mem hlt
     ·rw [← HX.out]; have := HSZ.out; omega
    have HQ2 : Hid (T = A ++ (putE (.mk xk xv2 xn2 xs) ++ putEs (ks.drop (i + 1)))) := by
     show _ = _
     rw [HQ.out, List.drop_eq_getElem_cons hlt, putEs, HX.out, List.getD_eq_getElem?_getD, List.getElem?_eq_getElem hlt]; rfl
    have HIH := hiD (IH.out (.mk xk xv2 xn2 xs) _ P _ HOK.out.2.2 HOK.out.1 HOK.out.2.1 HR.out (fun b hb => Nat.lt_of_lt_of_le (hP b hb) (Nat.le_trans HB.out.size HBA.out.size)))
    have HOB := hiD (own_below HO.out HBA.out)
    have HBB := hiD (HB.out.trans (HBA.out.mono HB.out.size))
    have HAB := hiD (HA.out.later HBA.out)
    have HLN := hiD (len_of HQ2.out HT.out)
    have HLT : Hid (i < ks.length) := hlt
    clear HO HB HA HQ HBA HR HOK hr hxs hxd HX hlt
    go_wp2_with fail
    refine HIH.out.mono ?_
    rintro e wa ⟨vm, rfl, om, bm⟩
    have HOA := hiD (own_below HOB.out bm)
    have HBA := hiD (HBB.out.trans (bm.mono HBB.out.size))
    have HAA := hiD (HAB.out.later bm)
    have HRM := hiD (Rd.of_own om)
    obtain ⟨qm, cm, rfl⟩ := own_form om
    have HWB : Hid (w.heap.size + 1 ≤ wa.heap.size) := HAA.out.lt
    clear om bm HOB HBB HAB HIH X0 X1 X2 X3
    go_wp2_with (at_builtin; refine app_bytes rfl _ _ rfl rfl HOA.out rfl HRM.out HLN.out HWB.out ?_)
    intro vn wn hown hg
    have HB2 := hiD (below_grown HBA.out HBA.out.size (Nat.le_succ _) HOA.out hg)
    have HA2 : Hid (Arr wn 42 w.heap.size [.int .i64 5, .string (bstr []), .string (bstr []), .slice (some ⟨ba, oa, none⟩) ks.length c]) := (hg.block _ HAA.out.lt (fun e => by have := (HOA.out.lt _ e.symm).1; omega)).trans HAA.out
    obtain ⟨q2, c2, rfl⟩ := own_form hown
    obtain ⟨A2, hA⟩ : ∃ x, x = A ++ putE (.mk xk xv2 xn2 xs) := ⟨_, rfl⟩
    have hAL : A.length + (putE (.mk xk xv2 xn2 xs)).length = A2.length := by rw [hA, List.length_append]
    have HO2 : Hid (wn.ownsRow (w.heap.size + 1) 5 1 (.slice q2 A2.length c2) A2.length (bvs A2)) := by show World.ownsRow _ _ _ _ _ _ _; rw [hA]; simpa using hown
    rw [hAL]
    clear hAL
    have HQ3 : Hid (T = A2 ++ putEs (ks.drop (i + 1))) := by rw [hA, List.append_assoc]; exact HQ2.out
    clear hown hg HOA HBA HAA HRM HLN HWB hA HQ2
    go_wp2_with fail
    go_roundw
    case rel => exact ⟨i + 1, A2, q2, c2, HLT.out, by go_num, rfl, HO2.out, HB2.out, HA2.out, HQ3.out⟩
    case measure => first | exact meas HLT.out (Nat.le_trans HKL.out (by decide)) | exact meas' HLT.out
   ·have hlt' : ¬ (i : Int) < ks.length := by omega
    have hd : ks.drop i = [] := List.drop_eq_nil_of_le (by omega)
    rw [hd] at HQ
    have HQ9 : Hid (T = A ++ []) := HQ.out
    have HO9 := HO
    have HB9 := HB
    obtain ⟨A9, hA9⟩ : ∃ x, x = A := ⟨_, rfl⟩
    rw [← hA9] at HO9 HQ9
    subst hA9
    go_wp2_with fail
    go_ret
    have HEND : T = A9 := by rw [HQ9.out, List.append_nil]
    rw [HEND]
    exact ⟨_, rfl, own_le HO9.out (Nat.le_succ _), HB9.out⟩
theorem putX_any : ∀ (m : Nat), m ≤ 64 → ∀ (e : Ex) (v : Value) (P : Nat → Prop) (w : World), sizeE e ≤ m → okE 64 e → formE e = true → RdE P w e v → (∀ b, P b → b < w.heap.size) → Calls Tryz.prog 39 #[v] w (Owned w (putE e))
 | 0, _, e, _, _, _, hs, _, _, _, _ => absurd hs (by have := sizeE_pos e; omega)
 | m + 1, hm, e, v, P, w, hs, ho, hf, h, hP => putX_step (putX_any m (by omega)) (by omega) e v P w hs ho hf h hP
theorem rputS_text (l : List UInt8) (h : l.length ≤ 1000) (w : World) : Calls Tryz.prog 43 #[.string (bstr l)] w (Owned w (putS (bstr l))) := rtext_any (bstr l) (by rw [bstr_size]; omega) w
theorem convB (n : Nat) (h : n ≤ 100) (w : World) : (convert 3 5 (.int .i64 (n : Nat))).run Tryz.prog w = .ok (.int .u8 n) w := by
 have e : IntKind.wrap .u8 (n : Int) = n := by
  unfold IntKind.wrap; simp [IntKind.bits, IntKind.signed]; omega
 simp [convert, run_underlying Tryz.underlying3, run_underlying Tryz.underlying5, Conv.intToInt, e]
theorem own_byte {w : World} {base n : Nat} (hb : base ≤ w.heap.size) (hn : n < 128) : (w.alloc (.cells #[.int .u8 (n : Nat)] 5)).ownsRow base 5 1 (.slice (some ⟨w.heap.size, 0, none⟩) 1 1) (put n).length (bvs (put n)) := by
 have h := World.ownsRow_lit (base := base) (e := 5) (size := 1) w #[.int .u8 (n : Nat)] 1 hb (by decide) rfl
 rw [put_lt hn]
 have e : bvs [UInt8.ofNat n] = [.int .u8 (n : Nat)] := by show [bv _] = _; rw [low n hn]
 rw [e]; exact h
set_option maxRecDepth 100000 in
set_option maxHeartbeats 8000000 in
theorem rputX_step {m : Nat} (IH : Hid (∀ (e : Ex) (v : Value) (P : Nat → Prop) (w : World), sizeE e ≤ m → okE 64 e → formE e = true → RdE P w e v → (∀ b, P b → b < w.heap.size) → Calls Tryz.prog 19 #[v] w (Owned w (putE e)))) (hm : m ≤ 63) (e : Ex) (v : Value) (P : Nat → Prop) (w : World) (hs : sizeE e ≤ m + 1) (ho : okE 64 e) (hf : formE e = true) (h : RdE P w e v) (hP : ∀ b, P b → b < w.heap.size) : Calls Tryz.prog 19 #[v] w (Owned w (putE e)) := by
 obtain ⟨q, c, rfl, hc, hk⟩ := h.form
 obtain ⟨k, xv, xn, ks⟩ := e
 unfold exv
 show Calls _ _ #[.agg #[.int .i64 k, .string (bstr xv), .string (bstr xn), .slice q ks.length c]] _ _
 have HK : Hid (0 < ks.length → ∃ b o, q = some ⟨b, o, none⟩ ∧ P b ∧ RdL P w ks b o) := hk
 have hb0 : Below w.heap.size w (w.alloc (.cells #[.int .i64 k, .string (bstr xv), .string (bstr xn), .slice q ks.length c] 42)) := (Below.refl _ _).alloc (Nat.le_refl _) _
 unfold okE at ho
 have HLV : Hid (xv.length ≤ 64) := ho.1
 have HLX : Hid (xn.length ≤ 64) := ho.2.1
 have HOKL : Hid (okL 64 ks) := ho.2.2
 have HFL : Hid (formL ks = true) := by unfold formE at hf; simp only [Bool.and_eq_true] at hf; exact hf.2
 have HSZ : Hid (sizeL ks ≤ m) := by unfold sizeE at hs; exact Nat.le_of_succ_le_succ hs
 have HKL : Hid (ks.length ≤ 100) := by have := sizeL_len ks; have := HSZ.out; exact (by omega : ks.length ≤ 100)
 obtain ⟨T, hT⟩ : ∃ T, T = putE (.mk k xv xn ks) := ⟨_, rfl⟩
 have HT : Hid (T.length ≤ 20000) := by
  show _ ≤ _
  have := putE_len (.mk k xv xn ks) (by unfold okE; exact ho) hf (by omega)
  rw [hT]; omega
 have HTE := hiD hT
 rw [← hT]
 have h2 := form_two hf
 clear hT ho hf hs hm
 rcases h2 with ⟨rfl, rfl, rfl, h2⟩ | ⟨rfl, rfl, h2⟩ | ⟨rfl | rfl | rfl, rfl, rfl, h2⟩ <;> clear h2
 ·have HQ0 : Hid (T = put 1 ++ (putS (bstr xn) ++ [])) := by show _ = _; rw [HTE.out]; simp [putE, putEs]
  clear HTE
  have HB0 := hiD hb0
  have HA0 : Hid (Arr (w.alloc (.cells #[.int .i64 1, .string (bstr []), .string (bstr xn), .slice q 0 c] 42)) 42 w.heap.size [.int .i64 1, .string (bstr []), .string (bstr xn), .slice q 0 c]) := Arr.new' _ _ _ _ rfl
  go_enter Tryz.func19, Tryz.ntmps19
  go_upto_region 1 with (fail)
  have HWS : Hid ((w.alloc (.cells #[.int .i64 1, .string (bstr []), .string (bstr xn), .slice q 0 c] 42)).heap.size = w.heap.size + 1) := World.size_alloc _ _
  generalize w.alloc (.cells #[.int .i64 1, .string (bstr []), .string (bstr xn), .slice q 0 c] 42) = w0 at HB0 HA0 HWS ⊢
  obtain ⟨x0, y0, x1, y1, x2, y2, x3, y3⟩ := HA0.out.all4
  go_upto_region 2 with (fail)
  have hb1 : Below w0.heap.size w0 (w0.alloc (.cells #[.int .u8 1] 5)) := (Below.refl _ _).alloc (Nat.le_refl _) _
  have HB1 := hiD (HB0.out.trans (hb1.mono HB0.out.size))
  have HA1 := hiD (HA0.out.later hb1)
  have HO1' : Hid ((w0.alloc (.cells #[.int .u8 1] 5)).ownsRow (w.heap.size + 1) 5 1 (.slice (some ⟨w0.heap.size, 0, none⟩) 1 1) (put 1).length (bvs (put 1))) := own_byte (by have := HWS.out; omega) (by decide)
  obtain ⟨A1, hA⟩ : ∃ x, x = put 1 := ⟨_, rfl⟩
  have hA1 : 1 = A1.length := by rw [hA, put_lt (by decide)]; rfl
  rw [← hA] at HO1' HQ0
  have HQ1 := HQ0
  obtain ⟨c1, hc1⟩ : ∃ c, c = 1 := ⟨_, rfl⟩
  obtain ⟨q1, hq1⟩ : ∃ q, q = some (Addr.mk w0.heap.size 0 none) := ⟨_, rfl⟩
  have hV : (Value.slice (some (Addr.mk w0.heap.size 0 none)) 1 1) = .slice q1 A1.length c1 := by rw [hq1, hc1, ← hA1]
  rw [hV] at HO1' ⊢
  have HO1 := HO1'
  generalize (w0.alloc (.cells #[.int .u8 1] 5)) = w1 at HB1 HA1 HO1 ⊢
  clear hb1 HB0 HA0 HWS HQ0 hA hA1 hc1 hq1 hV HO1' x0 x1 x2 x3 y0 y1 y2 y3
  obtain ⟨x0, y0, x1, y1, x2, y2, x3, y3⟩ := HA1.out.all4
  go_wp2_with fail
  refine (rputS_text xn (by have := HLX.out; omega) _).mono ?_
  rintro e wa ⟨vm, rfl, om, bm⟩
  have HOA := hiD (own_below HO1.out bm)
  have HBA := hiD (HB1.out.trans (bm.mono HB1.out.size))
  have HAA := hiD (HA1.out.later bm)
  have HRM := hiD (Rd.of_own om)
  obtain ⟨qm, cm, rfl⟩ := own_form om
  have HLN := hiD (len_of HQ1.out HT.out)
  have HWB : Hid (w.heap.size + 1 ≤ wa.heap.size) := HAA.out.lt
  clear om bm HO1 HB1 HA1 x0 x1 x2 x3 y0 y1 y2 y3
  go_wp2_with (at_builtin; refine app_bytes rfl _ _ rfl rfl HOA.out rfl HRM.out HLN.out HWB.out ?_)
  intro vn wn hown hg
  have HB2 := hiD (below_grown HBA.out HBA.out.size (Nat.le_succ _) HOA.out hg)
  have HA2 : Hid (Arr wn 42 w.heap.size [.int .i64 1, .string (bstr []), .string (bstr xn), .slice q 0 c]) := (hg.block _ HAA.out.lt (fun e => by have := (HOA.out.lt _ e.symm).1; omega)).trans HAA.out
  obtain ⟨q2, c2, rfl⟩ := own_form hown
  obtain ⟨A2, hA⟩ : ∃ x, x = A1 ++ putS (bstr xn) := ⟨_, rfl⟩
  have hAL : A1.length + (putS (bstr xn)).length = A2.length := by rw [hA, List.length_append]
  have HO2 : Hid (wn.ownsRow (w.heap.size + 1) 5 1 (.slice q2 A2.length c2) A2.length (bvs A2)) := by show World.ownsRow _ _ _ _ _ _ _; rw [hA]; simpa using hown
  rw [hAL]
  clear hAL
  have HQ2 : Hid (T = A2 ++ []) := by rw [hA, List.append_assoc]; exact HQ1.out
  clear hown hg HOA HBA HAA HRM HLN HWB hA HQ1
  generalize wn = w2 at HB2 HA2 HO2 ⊢
  go_wp2_with fail
  go_ret
  have HEND : T = A2 := by rw [HQ2.out, List.append_nil]
  rw [HEND]
  exact ⟨_, rfl, own_le HO2.out (Nat.le_succ _), HB2.out⟩
 ·have HQ0 : Hid (T = put 2 ++ (putS (bstr xv) ++ (putS (bstr xn) ++ []))) := by show _ = _; rw [HTE.out]; simp [putE, putEs]
  clear HTE
  have HB0 := hiD hb0
  have HA0 : Hid (Arr (w.alloc (.cells #[.int .i64 2, .string (bstr xv), .string (bstr xn), .slice q 0 c] 42)) 42 w.heap.size [.int .i64 2, .string (bstr xv), .string (bstr xn), .slice q 0 c]) := Arr.new' _ _ _ _ rfl
  go_enter Tryz.func19, Tryz.ntmps19
  go_upto_region 1 with (fail)
  have HWS : Hid ((w.alloc (.cells #[.int .i64 2, .string (bstr xv), .string (bstr xn), .slice q 0 c] 42)).heap.size = w.heap.size + 1) := World.size_alloc _ _
  generalize w.alloc (.cells #[.int .i64 2, .string (bstr xv), .string (bstr xn), .slice q 0 c] 42) = w0 at HB0 HA0 HWS ⊢
  obtain ⟨x0, y0, x1, y1, x2, y2, x3, y3⟩ := HA0.out.all4
  go_upto_region 2 with (fail)
  have hb1 : Below w0.heap.size w0 (w0.alloc (.cells #[.int .u8 2] 5)) := (Below.refl _ _).alloc (Nat.le_refl _) _
  have HB1 := hiD (HB0.out.trans (hb1.mono HB0.out.size))
  have HA1 := hiD (HA0.out.later hb1)
  have HO1' : Hid ((w0.alloc (.cells #[.int .u8 2] 5)).ownsRow (w.heap.size + 1) 5 1 (.slice (some ⟨w0.heap.size, 0, none⟩) 1 1) (put 2).length (bvs (put 2))) := own_byte (by have := HWS.out; omega) (by decide)
  obtain ⟨A1, hA⟩ : ∃ x, x = put 2 := ⟨_, rfl⟩
  have hA1 : 1 = A1.length := by rw [hA, put_lt (by decide)]; rfl
  rw [← hA] at HO1' HQ0
  have HQ1 := HQ0
  obtain ⟨c1, hc1⟩ : ∃ c, c = 1 := ⟨_, rfl⟩
  obtain ⟨q1, hq1⟩ : ∃ q, q = some (Addr.mk w0.heap.size 0 none) := ⟨_, rfl⟩
  have hV : (Value.slice (some (Addr.mk w0.heap.size 0 none)) 1 1) = .slice q1 A1.length c1 := by rw [hq1, hc1, ← hA1]
  rw [hV] at HO1' ⊢
  have HO1 := HO1'
  generalize (w0.alloc (.cells #[.int .u8 2] 5)) = w1 at HB1 HA1 HO1 ⊢
  clear hb1 HB0 HA0 HWS HQ0 hA hA1 hc1 hq1 hV HO1' x0 x1 x2 x3 y0 y1 y2 y3
  obtain ⟨x0, y0, x1, y1, x2, y2, x3, y3⟩ := HA1.out.all4
  go_wp2_with fail
  refine (rputS_text xv (by have := HLV.out; omega) _).mono ?_
  rintro e wa ⟨vm, rfl, om, bm⟩
  have HOA := hiD (own_below HO1.out bm)
  have HBA := hiD (HB1.out.trans (bm.mono HB1.out.size))
  have HAA := hiD (HA1.out.later bm)
  have HRM := hiD (Rd.of_own om)
  obtain ⟨qm, cm, rfl⟩ := own_form om
  have HLN := hiD (len_of HQ1.out HT.out)
  have HWB : Hid (w.heap.size + 1 ≤ wa.heap.size) := HAA.out.lt
  clear om bm HO1 HB1 HA1 x0 x1 x2 x3 y0 y1 y2 y3
  go_wp2_with (at_builtin; refine app_bytes rfl _ _ rfl rfl HOA.out rfl HRM.out HLN.out HWB.out ?_)
  intro vn wn hown hg
  have HB2 := hiD (below_grown HBA.out HBA.out.size (Nat.le_succ _) HOA.out hg)
  have HA2 : Hid (Arr wn 42 w.heap.size [.int .i64 2, .string (bstr xv), .string (bstr xn), .slice q 0 c]) := (hg.block _ HAA.out.lt (fun e => by have := (HOA.out.lt _ e.symm).1; omega)).trans HAA.out
  obtain ⟨q2, c2, rfl⟩ := own_form hown
  obtain ⟨A2, hA⟩ : ∃ x, x = A1 ++ putS (bstr xv) := ⟨_, rfl⟩
  have hAL : A1.length + (putS (bstr xv)).length = A2.length := by rw [hA, List.length_append]
  have HO2 : Hid (wn.ownsRow (w.heap.size + 1) 5 1 (.slice q2 A2.length c2) A2.length (bvs A2)) := by show World.ownsRow _ _ _ _ _ _ _; rw [hA]; simpa using hown
  rw [hAL]
  clear hAL
  have HQ2 : Hid (T = A2 ++ (putS (bstr xn) ++ [])) := by rw [hA, List.append_assoc]; exact HQ1.out
  clear hown hg HOA HBA HAA HRM HLN HWB hA HQ1
  generalize wn = w2 at HB2 HA2 HO2 ⊢
  obtain ⟨x0, y0, x1, y1, x2, y2, x3, y3⟩ := HA2.out.all4
  go_wp2_with fail
  refine (rputS_text xn (by have := HLX.out; omega) _).mono ?_
  rintro e wa ⟨vm, rfl, om, bm⟩
  have HOA := hiD (own_below HO2.out bm)
  have HBA := hiD (HB2.out.trans (bm.mono HB2.out.size))
  have HAA := hiD (HA2.out.later bm)
  have HRM := hiD (Rd.of_own om)
  obtain ⟨qm, cm, rfl⟩ := own_form om
  have HLN := hiD (len_of HQ2.out HT.out)
  have HWB : Hid (w.heap.size + 1 ≤ wa.heap.size) := HAA.out.lt
  clear om bm HO2 HB2 HA2 x0 x1 x2 x3 y0 y1 y2 y3
  go_wp2_with (at_builtin; refine app_bytes rfl _ _ rfl rfl HOA.out rfl HRM.out HLN.out HWB.out ?_)
  intro vn wn hown hg
  have HB3 := hiD (below_grown HBA.out HBA.out.size (Nat.le_succ _) HOA.out hg)
  have HA3 : Hid (Arr wn 42 w.heap.size [.int .i64 2, .string (bstr xv), .string (bstr xn), .slice q 0 c]) := (hg.block _ HAA.out.lt (fun e => by have := (HOA.out.lt _ e.symm).1; omega)).trans HAA.out
  obtain ⟨q3, c3, rfl⟩ := own_form hown
  obtain ⟨A3, hA⟩ : ∃ x, x = A2 ++ putS (bstr xn) := ⟨_, rfl⟩
  have hAL : A2.length + (putS (bstr xn)).length = A3.length := by rw [hA, List.length_append]
  have HO3 : Hid (wn.ownsRow (w.heap.size + 1) 5 1 (.slice q3 A3.length c3) A3.length (bvs A3)) := by show World.ownsRow _ _ _ _ _ _ _; rw [hA]; simpa using hown
  rw [hAL]
  clear hAL
  have HQ3 : Hid (T = A3 ++ []) := by rw [hA, List.append_assoc]; exact HQ2.out
  clear hown hg HOA HBA HAA HRM HLN HWB hA HQ2
  generalize wn = w3 at HB3 HA3 HO3 ⊢
  go_wp2_with fail
  go_ret
  have HEND : T = A3 := by rw [HQ3.out, List.append_nil]
  rw [HEND]
  exact ⟨_, rfl, own_le HO3.out (Nat.le_succ _), HB3.out⟩
 ·have HQ0 : Hid (T = put 3 ++ (put ks.length ++ putEs ks)) := by show _ = _; rw [HTE.out]; simp [putE, putEs]
  clear HTE
  have HB0 := hiD hb0
  have HA0 : Hid (Arr (w.alloc (.cells #[.int .i64 3, .string (bstr []), .string (bstr []), .slice q ks.length c] 42)) 42 w.heap.size [.int .i64 3, .string (bstr []), .string (bstr []), .slice q ks.length c]) := Arr.new' _ _ _ _ rfl
  go_enter Tryz.func19, Tryz.ntmps19
  go_upto_region 1 with (fail)
  have HWS : Hid ((w.alloc (.cells #[.int .i64 3, .string (bstr []), .string (bstr []), .slice q ks.length c] 42)).heap.size = w.heap.size + 1) := World.size_alloc _ _
  generalize w.alloc (.cells #[.int .i64 3, .string (bstr []), .string (bstr []), .slice q ks.length c] 42) = w0 at HB0 HA0 HWS ⊢
  obtain ⟨x0, y0, x1, y1, x2, y2, x3, y3⟩ := HA0.out.all4
  go_upto_region 2 with (fail)
  have hb1 : Below w0.heap.size w0 (w0.alloc (.cells #[.int .u8 3] 5)) := (Below.refl _ _).alloc (Nat.le_refl _) _
  have HB1 := hiD (HB0.out.trans (hb1.mono HB0.out.size))
  have HA1 := hiD (HA0.out.later hb1)
  have HO1' : Hid ((w0.alloc (.cells #[.int .u8 3] 5)).ownsRow (w.heap.size + 1) 5 1 (.slice (some ⟨w0.heap.size, 0, none⟩) 1 1) (put 3).length (bvs (put 3))) := own_byte (by have := HWS.out; omega) (by decide)
  obtain ⟨A1, hA⟩ : ∃ x, x = put 3 := ⟨_, rfl⟩
  have hA1 : 1 = A1.length := by rw [hA, put_lt (by decide)]; rfl
  rw [← hA] at HO1' HQ0
  have HQ1 := HQ0
  obtain ⟨c1, hc1⟩ : ∃ c, c = 1 := ⟨_, rfl⟩
  obtain ⟨q1, hq1⟩ : ∃ q, q = some (Addr.mk w0.heap.size 0 none) := ⟨_, rfl⟩
  have hV : (Value.slice (some (Addr.mk w0.heap.size 0 none)) 1 1) = .slice q1 A1.length c1 := by rw [hq1, hc1, ← hA1]
  rw [hV] at HO1' ⊢
  have HO1 := HO1'
  generalize (w0.alloc (.cells #[.int .u8 3] 5)) = w1 at HB1 HA1 HO1 ⊢
  clear hb1 HB0 HA0 HWS HQ0 hA hA1 hc1 hq1 hV HO1' x0 x1 x2 x3 y0 y1 y2 y3
  obtain ⟨x0, y0, x1, y1, x2, y2, x3, y3⟩ := HA1.out.all4
  have hcv := convB ks.length (by have := HKL.out; omega)
  have HRB : Hid (Rd (w1.heap.size + 1) (w1.alloc (.cells #[.int .u8 (ks.length : Nat)] 5)) (.slice (some ⟨w1.heap.size, 0, none⟩) 1 1) (put ks.length)) := by
   have hn : ks.length < 128 := by have := HKL.out; omega
   rw [put_lt hn]
   exact rd_lit w1 [UInt8.ofNat ks.length] _ (by show _ = [bv _]; rw [low _ hn]) 1 rfl (by show 1 ≤ maxLen; unfold maxLen; omega)
  have hbb : Below w1.heap.size w1 (w1.alloc (.cells #[.int .u8 (ks.length : Nat)] 5)) := (Below.refl _ _).alloc (Nat.le_refl _) _
  have HOA := hiD (own_below HO1.out hbb)
  have HBA := hiD (HB1.out.trans (hbb.mono HB1.out.size))
  have HAA := hiD (HA1.out.later hbb)
  have HLN := hiD (len_of HQ1.out HT.out)
  have HWB : Hid (w.heap.size + 1 ≤ (w1.alloc (.cells #[.int .u8 (ks.length : Nat)] 5)).heap.size) := HAA.out.lt
  clear hbb HO1 HB1 HA1
  go_wp2_with (at_builtin; refine app_bytes (m := put ks.length) rfl _ _ rfl rfl HOA.out rfl HRB.out HLN.out HWB.out ?_)
  intro vn wn hown hg
  have HB2 := hiD (below_grown HBA.out HBA.out.size (Nat.le_succ _) HOA.out hg)
  have HA2 : Hid (Arr wn 42 w.heap.size [.int .i64 3, .string (bstr []), .string (bstr []), .slice q ks.length c]) := (hg.block _ HAA.out.lt (fun e => by have := (HOA.out.lt _ e.symm).1; omega)).trans HAA.out
  obtain ⟨q2, c2, rfl⟩ := own_form hown
  obtain ⟨A2, hA⟩ : ∃ x, x = A1 ++ put ks.length := ⟨_, rfl⟩
  have hAL : A1.length + (put ks.length).length = A2.length := by rw [hA, List.length_append]
  have HO2 : Hid (wn.ownsRow (w.heap.size + 1) 5 1 (.slice q2 A2.length c2) A2.length (bvs A2)) := by show World.ownsRow _ _ _ _ _ _ _; rw [hA]; simpa using hown
  rw [hAL]
  have HQ2 : Hid (T = A2 ++ putEs ks) := by rw [hA, List.append_assoc]; exact HQ1.out
  clear hAL hown hg HOA HBA HAA HRB HLN HWB hA HQ1 hcv x0 x1 x2 x3 y0 y1 y2 y3
  generalize wn = w2 at HB2 HA2 HO2 ⊢
  obtain ⟨x0, y0, x1, y1, x2, y2, x3, y3⟩ := HA2.out.all4
  go_wp2_with fail
  clear x0 x1 x2 x3 y0 y1 y2 y3
  go_loopw [3, 4] (fun bv iv wr => ∃ (i : Nat) (A : List UInt8) (qa : Option Addr) (ca : Nat), i ≤ ks.length ∧ iv = .int .i64 (i : Nat) ∧ bv = .slice qa A.length ca ∧ Hid (wr.ownsRow (w.heap.size + 1) 5 1 (.slice qa A.length ca) A.length (bvs A)) ∧ Hid (Below w.heap.size w wr) ∧ Hid (Arr wr 42 w.heap.size [.int .i64 3, .string (bstr []), .string (bstr []), .slice q ks.length c]) ∧ Hid (T = A ++ putEs (ks.drop i))) (fun _ iv _ => ks.length - (intOf iv).toNat)
  case atStart => exact ⟨0, A2, q2, c2, Nat.zero_le _, rfl, rfl, HO2.out, HB2.out, HA2.out, HQ2.out⟩
  case round =>
   obtain ⟨i, A, qa, ca, hi, rfl, rfl, HO, HB, HA, HQ⟩ := hrel
   have x0 := HA.out.cell 0
   have x3 := HA.out.cell 3
   simp only [List.getElem?_cons_zero, List.getElem?_cons_succ] at x0 x3
   have hi00 : (0 : Int) ≤ i := by omega
   by_cases hlt : i < ks.length
   ·have hlt' : (i : Int) < ks.length := by omega
    have hi0 : (0 : Int) ≤ i := by omega
    have hw : wrap64 ((i : Int) + 1) = (i : Int) + 1 := by unfold wrap64; have := HKL.out; omega
    obtain ⟨ba, oa, rfl, hba, hl⟩ := HK.out (by omega)
    obtain ⟨x, hx⟩ : ∃ x, x = ks.getD i ex0 := ⟨_, rfl⟩
    obtain ⟨q2, c2, x0, x1, x2, x3, hr⟩ := hl.at hlt
    have hxs := sizeL_get ks i hlt
    have hxd := depthL_get ks i hlt
    rw [← hx] at x0 x1 x2 x3 hr hxs hxd
    have HX := hiD hx
    obtain ⟨xk, xv2, xn2, xs⟩ := x
    have cc : ∀ n, wr.cell? ⟨ba, n, none⟩ = w.cell? ⟨ba, n, none⟩ := fun n => (HB.out).cell (p := ⟨ba, n, none⟩) (hP _ hba)
    have X0 : wr.cell? ⟨ba, oa + i * 4, none⟩ = some (.int .i64 xk) := (cc _).trans x0
    have X1 : wr.cell? ⟨ba, oa + i * 4 + 1, none⟩ = some (.string (bstr xv2)) := (cc _).trans x1
    have X2 : wr.cell? ⟨ba, oa + i * 4 + 2, none⟩ = some (.string (bstr xn2)) := (cc _).trans x2
    have X3 : wr.cell? ⟨ba, oa + i * 4 + 3, none⟩ = some (.slice q2 xs.length c2) := (cc _).trans x3
    clear x0 x1 x2 x3 cc hx
    have HR : Hid (RdE P wr (.mk xk xv2 xn2 xs) (.agg #[.int .i64 xk, .string (bstr xv2), .string (bstr xn2), .slice q2 xs.length c2])) := hr.below (HB.out) hP
    have HOK : Hid (okE 64 (.mk xk xv2 xn2 xs) ∧ formE (.mk xk xv2 xn2 xs) = true ∧ sizeE (.mk xk xv2 xn2 xs) ≤ m) := by
     rw [HX.out]
     refine ⟨okL_get HOKL.out hlt, formL_mem HFL.out _ ?_, ?_⟩
     ·rw [List.getD_eq_getElem?_getD, List.getElem?_eq_getElem hlt]; exact List.getElem_mem hlt
     ·rw [← HX.out]; have := HSZ.out; omega
    have HQ2 : Hid (T = A ++ (putE (.mk xk xv2 xn2 xs) ++ putEs (ks.drop (i + 1)))) := by
     show _ = _
     rw [HQ.out, List.drop_eq_getElem_cons hlt, putEs, HX.out, List.getD_eq_getElem?_getD, List.getElem?_eq_getElem hlt]; rfl
    have HIH := hiD (IH.out (.mk xk xv2 xn2 xs) _ P _ HOK.out.2.2 HOK.out.1 HOK.out.2.1 HR.out (fun b hb => Nat.lt_of_lt_of_le (hP b hb) HB.out.size))
    have HOB := HO
    have HBB := HB
    have HAB := HA
    have HLN := hiD (len_of HQ2.out HT.out)
    have HLT : Hid (i < ks.length) := hlt
    clear HO HB HA HQ HR HOK hr hxs hxd HX hlt
    go_wp2_with fail
    refine HIH.out.mono ?_
    rintro e wa ⟨vm, rfl, om, bm⟩
    have HOA := hiD (own_below HOB.out bm)
    have HBA := hiD (HBB.out.trans (bm.mono HBB.out.size))
    have HAA := hiD (HAB.out.later bm)
    have HRM := hiD (Rd.of_own om)
    obtain ⟨qm, cm, rfl⟩ := own_form om
    have HWB : Hid (w.heap.size + 1 ≤ wa.heap.size) := HAA.out.lt
    clear om bm HOB HBB HAB HIH X0 X1 X2 X3 x0 x3
    go_wp2_with (at_builtin; refine app_bytes rfl _ _ rfl rfl HOA.out rfl HRM.out HLN.out HWB.out ?_)
    intro vn wn hown hg
    have HB2 := hiD (below_grown HBA.out HBA.out.size (Nat.le_succ _) HOA.out hg)
    have HA2 : Hid (Arr wn 42 w.heap.size [.int .i64 3, .string (bstr []), .string (bstr []), .slice (some ⟨ba, oa, none⟩) ks.length c]) := (hg.block _ HAA.out.lt (fun e => by have := (HOA.out.lt _ e.symm).1; omega)).trans HAA.out
    obtain ⟨q2, c2, rfl⟩ := own_form hown
    obtain ⟨A2, hA⟩ : ∃ x, x = A ++ putE (.mk xk xv2 xn2 xs) := ⟨_, rfl⟩
    have hAL : A.length + (putE (.mk xk xv2 xn2 xs)).length = A2.length := by rw [hA, List.length_append]
    have HO2 : Hid (wn.ownsRow (w.heap.size + 1) 5 1 (.slice q2 A2.length c2) A2.length (bvs A2)) := by show World.ownsRow _ _ _ _ _ _ _; rw [hA]; simpa using hown
    rw [hAL]
    clear hAL
    have HQ3 : Hid (T = A2 ++ putEs (ks.drop (i + 1))) := by rw [hA, List.append_assoc]; exact HQ2.out
    clear hown hg HOA HBA HAA HRM HLN HWB hA HQ2
    go_wp2_with fail
    go_roundw
    case rel => exact ⟨i + 1, A2, q2, c2, HLT.out, by go_num, rfl, HO2.out, HB2.out, HA2.out, HQ3.out⟩
    case measure => first | exact meas HLT.out (Nat.le_trans HKL.out (by decide)) | exact meas' HLT.out
   ·have hlt' : ¬ (i : Int) < ks.length := by omega
    have hd : ks.drop i = [] := List.drop_eq_nil_of_le (by omega)
    rw [hd] at HQ
    have HQ9 : Hid (T = A ++ []) := HQ.out
    have HO9 := HO
    have HB9 := HB
    obtain ⟨A9, hA9⟩ : ∃ x, x = A := ⟨_, rfl⟩
    rw [← hA9] at HO9 HQ9
    subst hA9
    go_wp2_with fail
    go_ret
    have HEND : T = A9 := by rw [HQ9.out, List.append_nil]
    rw [HEND]
    exact ⟨_, rfl, own_le HO9.out (Nat.le_succ _), HB9.out⟩
 ·have HQ0 : Hid (T = put 4 ++ (put ks.length ++ putEs ks)) := by show _ = _; rw [HTE.out]; simp [putE, putEs]
  clear HTE
  have HB0 := hiD hb0
  have HA0 : Hid (Arr (w.alloc (.cells #[.int .i64 4, .string (bstr []), .string (bstr []), .slice q ks.length c] 42)) 42 w.heap.size [.int .i64 4, .string (bstr []), .string (bstr []), .slice q ks.length c]) := Arr.new' _ _ _ _ rfl
  go_enter Tryz.func19, Tryz.ntmps19
  go_upto_region 1 with (fail)
  have HWS : Hid ((w.alloc (.cells #[.int .i64 4, .string (bstr []), .string (bstr []), .slice q ks.length c] 42)).heap.size = w.heap.size + 1) := World.size_alloc _ _
  generalize w.alloc (.cells #[.int .i64 4, .string (bstr []), .string (bstr []), .slice q ks.length c] 42) = w0 at HB0 HA0 HWS ⊢
  obtain ⟨x0, y0, x1, y1, x2, y2, x3, y3⟩ := HA0.out.all4
  go_upto_region 2 with (fail)
  have hb1 : Below w0.heap.size w0 (w0.alloc (.cells #[.int .u8 4] 5)) := (Below.refl _ _).alloc (Nat.le_refl _) _
  have HB1 := hiD (HB0.out.trans (hb1.mono HB0.out.size))
  have HA1 := hiD (HA0.out.later hb1)
  have HO1' : Hid ((w0.alloc (.cells #[.int .u8 4] 5)).ownsRow (w.heap.size + 1) 5 1 (.slice (some ⟨w0.heap.size, 0, none⟩) 1 1) (put 4).length (bvs (put 4))) := own_byte (by have := HWS.out; omega) (by decide)
  obtain ⟨A1, hA⟩ : ∃ x, x = put 4 := ⟨_, rfl⟩
  have hA1 : 1 = A1.length := by rw [hA, put_lt (by decide)]; rfl
  rw [← hA] at HO1' HQ0
  have HQ1 := HQ0
  obtain ⟨c1, hc1⟩ : ∃ c, c = 1 := ⟨_, rfl⟩
  obtain ⟨q1, hq1⟩ : ∃ q, q = some (Addr.mk w0.heap.size 0 none) := ⟨_, rfl⟩
  have hV : (Value.slice (some (Addr.mk w0.heap.size 0 none)) 1 1) = .slice q1 A1.length c1 := by rw [hq1, hc1, ← hA1]
  rw [hV] at HO1' ⊢
  have HO1 := HO1'
  generalize (w0.alloc (.cells #[.int .u8 4] 5)) = w1 at HB1 HA1 HO1 ⊢
  clear hb1 HB0 HA0 HWS HQ0 hA hA1 hc1 hq1 hV HO1' x0 x1 x2 x3 y0 y1 y2 y3
  obtain ⟨x0, y0, x1, y1, x2, y2, x3, y3⟩ := HA1.out.all4
  have hcv := convB ks.length (by have := HKL.out; omega)
  have HRB : Hid (Rd (w1.heap.size + 1) (w1.alloc (.cells #[.int .u8 (ks.length : Nat)] 5)) (.slice (some ⟨w1.heap.size, 0, none⟩) 1 1) (put ks.length)) := by
   have hn : ks.length < 128 := by have := HKL.out; omega
   rw [put_lt hn]
   exact rd_lit w1 [UInt8.ofNat ks.length] _ (by show _ = [bv _]; rw [low _ hn]) 1 rfl (by show 1 ≤ maxLen; unfold maxLen; omega)
  have hbb : Below w1.heap.size w1 (w1.alloc (.cells #[.int .u8 (ks.length : Nat)] 5)) := (Below.refl _ _).alloc (Nat.le_refl _) _
  have HOA := hiD (own_below HO1.out hbb)
  have HBA := hiD (HB1.out.trans (hbb.mono HB1.out.size))
  have HAA := hiD (HA1.out.later hbb)
  have HLN := hiD (len_of HQ1.out HT.out)
  have HWB : Hid (w.heap.size + 1 ≤ (w1.alloc (.cells #[.int .u8 (ks.length : Nat)] 5)).heap.size) := HAA.out.lt
  clear hbb HO1 HB1 HA1
  go_wp2_with (at_builtin; refine app_bytes (m := put ks.length) rfl _ _ rfl rfl HOA.out rfl HRB.out HLN.out HWB.out ?_)
  intro vn wn hown hg
  have HB2 := hiD (below_grown HBA.out HBA.out.size (Nat.le_succ _) HOA.out hg)
  have HA2 : Hid (Arr wn 42 w.heap.size [.int .i64 4, .string (bstr []), .string (bstr []), .slice q ks.length c]) := (hg.block _ HAA.out.lt (fun e => by have := (HOA.out.lt _ e.symm).1; omega)).trans HAA.out
  obtain ⟨q2, c2, rfl⟩ := own_form hown
  obtain ⟨A2, hA⟩ : ∃ x, x = A1 ++ put ks.length := ⟨_, rfl⟩
  have hAL : A1.length + (put ks.length).length = A2.length := by rw [hA, List.length_append]
  have HO2 : Hid (wn.ownsRow (w.heap.size + 1) 5 1 (.slice q2 A2.length c2) A2.length (bvs A2)) := by show World.ownsRow _ _ _ _ _ _ _; rw [hA]; simpa using hown
  rw [hAL]
  have HQ2 : Hid (T = A2 ++ putEs ks) := by rw [hA, List.append_assoc]; exact HQ1.out
  clear hAL hown hg HOA HBA HAA HRB HLN HWB hA HQ1 hcv x0 x1 x2 x3 y0 y1 y2 y3
  generalize wn = w2 at HB2 HA2 HO2 ⊢
  obtain ⟨x0, y0, x1, y1, x2, y2, x3, y3⟩ := HA2.out.all4
  go_wp2_with fail
  clear x0 x1 x2 x3 y0 y1 y2 y3
  go_loopw [3, 4] (fun bv iv wr => ∃ (i : Nat) (A : List UInt8) (qa : Option Addr) (ca : Nat), i ≤ ks.length ∧ iv = .int .i64 (i : Nat) ∧ bv = .slice qa A.length ca ∧ Hid (wr.ownsRow (w.heap.size + 1) 5 1 (.slice qa A.length ca) A.length (bvs A)) ∧ Hid (Below w.heap.size w wr) ∧ Hid (Arr wr 42 w.heap.size [.int .i64 4, .string (bstr []), .string (bstr []), .slice q ks.length c]) ∧ Hid (T = A ++ putEs (ks.drop i))) (fun _ iv _ => ks.length - (intOf iv).toNat)
  case atStart => exact ⟨0, A2, q2, c2, Nat.zero_le _, rfl, rfl, HO2.out, HB2.out, HA2.out, HQ2.out⟩
  case round =>
   obtain ⟨i, A, qa, ca, hi, rfl, rfl, HO, HB, HA, HQ⟩ := hrel
   have x0 := HA.out.cell 0
   have x3 := HA.out.cell 3
   simp only [List.getElem?_cons_zero, List.getElem?_cons_succ] at x0 x3
   have hi00 : (0 : Int) ≤ i := by omega
   by_cases hlt : i < ks.length
   ·have hlt' : (i : Int) < ks.length := by omega
    have hi0 : (0 : Int) ≤ i := by omega
    have hw : wrap64 ((i : Int) + 1) = (i : Int) + 1 := by unfold wrap64; have := HKL.out; omega
    obtain ⟨ba, oa, rfl, hba, hl⟩ := HK.out (by omega)
    obtain ⟨x, hx⟩ : ∃ x, x = ks.getD i ex0 := ⟨_, rfl⟩
    obtain ⟨q2, c2, x0, x1, x2, x3, hr⟩ := hl.at hlt
    have hxs := sizeL_get ks i hlt
    have hxd := depthL_get ks i hlt
    rw [← hx] at x0 x1 x2 x3 hr hxs hxd
    have HX := hiD hx
    obtain ⟨xk, xv2, xn2, xs⟩ := x
    have cc : ∀ n, wr.cell? ⟨ba, n, none⟩ = w.cell? ⟨ba, n, none⟩ := fun n => (HB.out).cell (p := ⟨ba, n, none⟩) (hP _ hba)
    have X0 : wr.cell? ⟨ba, oa + i * 4, none⟩ = some (.int .i64 xk) := (cc _).trans x0
    have X1 : wr.cell? ⟨ba, oa + i * 4 + 1, none⟩ = some (.string (bstr xv2)) := (cc _).trans x1
    have X2 : wr.cell? ⟨ba, oa + i * 4 + 2, none⟩ = some (.string (bstr xn2)) := (cc _).trans x2
    have X3 : wr.cell? ⟨ba, oa + i * 4 + 3, none⟩ = some (.slice q2 xs.length c2) := (cc _).trans x3
    clear x0 x1 x2 x3 cc hx
    have HR : Hid (RdE P wr (.mk xk xv2 xn2 xs) (.agg #[.int .i64 xk, .string (bstr xv2), .string (bstr xn2), .slice q2 xs.length c2])) := hr.below (HB.out) hP
    have HOK : Hid (okE 64 (.mk xk xv2 xn2 xs) ∧ formE (.mk xk xv2 xn2 xs) = true ∧ sizeE (.mk xk xv2 xn2 xs) ≤ m) := by
     rw [HX.out]
     refine ⟨okL_get HOKL.out hlt, formL_mem HFL.out _ ?_, ?_⟩
     ·rw [List.getD_eq_getElem?_getD, List.getElem?_eq_getElem hlt]; exact List.getElem_mem hlt
     ·rw [← HX.out]; have := HSZ.out; omega
    have HQ2 : Hid (T = A ++ (putE (.mk xk xv2 xn2 xs) ++ putEs (ks.drop (i + 1)))) := by
     show _ = _
     rw [HQ.out, List.drop_eq_getElem_cons hlt, putEs, HX.out, List.getD_eq_getElem?_getD, List.getElem?_eq_getElem hlt]; rfl
    have HIH := hiD (IH.out (.mk xk xv2 xn2 xs) _ P _ HOK.out.2.2 HOK.out.1 HOK.out.2.1 HR.out (fun b hb => Nat.lt_of_lt_of_le (hP b hb) HB.out.size))
    have HOB := HO
    have HBB := HB
    have HAB := HA
    have HLN := hiD (len_of HQ2.out HT.out)
    have HLT : Hid (i < ks.length) := hlt
    clear HO HB HA HQ HR HOK hr hxs hxd HX hlt
    go_wp2_with fail
    refine HIH.out.mono ?_
    rintro e wa ⟨vm, rfl, om, bm⟩
    have HOA := hiD (own_below HOB.out bm)
    have HBA := hiD (HBB.out.trans (bm.mono HBB.out.size))
    have HAA := hiD (HAB.out.later bm)
    have HRM := hiD (Rd.of_own om)
    obtain ⟨qm, cm, rfl⟩ := own_form om
    have HWB : Hid (w.heap.size + 1 ≤ wa.heap.size) := HAA.out.lt
    clear om bm HOB HBB HAB HIH X0 X1 X2 X3 x0 x3
    go_wp2_with (at_builtin; refine app_bytes rfl _ _ rfl rfl HOA.out rfl HRM.out HLN.out HWB.out ?_)
    intro vn wn hown hg
    have HB2 := hiD (below_grown HBA.out HBA.out.size (Nat.le_succ _) HOA.out hg)
    have HA2 : Hid (Arr wn 42 w.heap.size [.int .i64 4, .string (bstr []), .string (bstr []), .slice (some ⟨ba, oa, none⟩) ks.length c]) := (hg.block _ HAA.out.lt (fun e => by have := (HOA.out.lt _ e.symm).1; omega)).trans HAA.out
    obtain ⟨q2, c2, rfl⟩ := own_form hown
    obtain ⟨A2, hA⟩ : ∃ x, x = A ++ putE (.mk xk xv2 xn2 xs) := ⟨_, rfl⟩
    have hAL : A.length + (putE (.mk xk xv2 xn2 xs)).length = A2.length := by rw [hA, List.length_append]
    have HO2 : Hid (wn.ownsRow (w.heap.size + 1) 5 1 (.slice q2 A2.length c2) A2.length (bvs A2)) := by show World.ownsRow _ _ _ _ _ _ _; rw [hA]; simpa using hown
    rw [hAL]
    clear hAL
    have HQ3 : Hid (T = A2 ++ putEs (ks.drop (i + 1))) := by rw [hA, List.append_assoc]; exact HQ2.out
    clear hown hg HOA HBA HAA HRM HLN HWB hA HQ2
    go_wp2_with fail
    go_roundw
    case rel => exact ⟨i + 1, A2, q2, c2, HLT.out, by go_num, rfl, HO2.out, HB2.out, HA2.out, HQ3.out⟩
    case measure => first | exact meas HLT.out (Nat.le_trans HKL.out (by decide)) | exact meas' HLT.out
   ·have hlt' : ¬ (i : Int) < ks.length := by omega
    have hd : ks.drop i = [] := List.drop_eq_nil_of_le (by omega)
    rw [hd] at HQ
    have HQ9 : Hid (T = A ++ []) := HQ.out
    have HO9 := HO
    have HB9 := HB
    obtain ⟨A9, hA9⟩ : ∃ x, x = A := ⟨_, rfl⟩
    rw [← hA9] at HO9 HQ9
    subst hA9
    go_wp2_with fail
    go_ret
    have HEND : T = A9 := by rw [HQ9.out, List.append_nil]
    rw [HEND]
    exact ⟨_, rfl, own_le HO9.out (Nat.le_succ _), HB9.out⟩
 ·have HQ0 : Hid (T = put 5 ++ (putEs ks)) := by show _ = _; rw [HTE.out]; simp [putE, putEs]
  clear HTE
  have HB0 := hiD hb0
  have HA0 : Hid (Arr (w.alloc (.cells #[.int .i64 5, .string (bstr []), .string (bstr []), .slice q ks.length c] 42)) 42 w.heap.size [.int .i64 5, .string (bstr []), .string (bstr []), .slice q ks.length c]) := Arr.new' _ _ _ _ rfl
  go_enter Tryz.func19, Tryz.ntmps19
  go_upto_region 1 with (fail)
  have HWS : Hid ((w.alloc (.cells #[.int .i64 5, .string (bstr []), .string (bstr []), .slice q ks.length c] 42)).heap.size = w.heap.size + 1) := World.size_alloc _ _
  generalize w.alloc (.cells #[.int .i64 5, .string (bstr []), .string (bstr []), .slice q ks.length c] 42) = w0 at HB0 HA0 HWS ⊢
  obtain ⟨x0, y0, x1, y1, x2, y2, x3, y3⟩ := HA0.out.all4
  go_upto_region 2 with (fail)
  have hb1 : Below w0.heap.size w0 (w0.alloc (.cells #[.int .u8 5] 5)) := (Below.refl _ _).alloc (Nat.le_refl _) _
  have HB1 := hiD (HB0.out.trans (hb1.mono HB0.out.size))
  have HA1 := hiD (HA0.out.later hb1)
  have HO1' : Hid ((w0.alloc (.cells #[.int .u8 5] 5)).ownsRow (w.heap.size + 1) 5 1 (.slice (some ⟨w0.heap.size, 0, none⟩) 1 1) (put 5).length (bvs (put 5))) := own_byte (by have := HWS.out; omega) (by decide)
  obtain ⟨A1, hA⟩ : ∃ x, x = put 5 := ⟨_, rfl⟩
  have hA1 : 1 = A1.length := by rw [hA, put_lt (by decide)]; rfl
  rw [← hA] at HO1' HQ0
  have HQ1 := HQ0
  obtain ⟨c1, hc1⟩ : ∃ c, c = 1 := ⟨_, rfl⟩
  obtain ⟨q1, hq1⟩ : ∃ q, q = some (Addr.mk w0.heap.size 0 none) := ⟨_, rfl⟩
  have hV : (Value.slice (some (Addr.mk w0.heap.size 0 none)) 1 1) = .slice q1 A1.length c1 := by rw [hq1, hc1, ← hA1]
  rw [hV] at HO1' ⊢
  have HO1 := HO1'
  generalize (w0.alloc (.cells #[.int .u8 5] 5)) = w1 at HB1 HA1 HO1 ⊢
  clear hb1 HB0 HA0 HWS HQ0 hA hA1 hc1 hq1 hV HO1' x0 x1 x2 x3 y0 y1 y2 y3
  obtain ⟨x0, y0, x1, y1, x2, y2, x3, y3⟩ := HA1.out.all4
  go_wp2_with fail
  clear x0 x1 x2 x3 y0 y1 y2 y3
  go_loopw [3, 4] (fun bv iv wr => ∃ (i : Nat) (A : List UInt8) (qa : Option Addr) (ca : Nat), i ≤ ks.length ∧ iv = .int .i64 (i : Nat) ∧ bv = .slice qa A.length ca ∧ Hid (wr.ownsRow (w.heap.size + 1) 5 1 (.slice qa A.length ca) A.length (bvs A)) ∧ Hid (Below w.heap.size w wr) ∧ Hid (Arr wr 42 w.heap.size [.int .i64 5, .string (bstr []), .string (bstr []), .slice q ks.length c]) ∧ Hid (T = A ++ putEs (ks.drop i))) (fun _ iv _ => ks.length - (intOf iv).toNat)
  case atStart => exact ⟨0, A1, q1, c1, Nat.zero_le _, rfl, rfl, HO1.out, HB1.out, HA1.out, HQ1.out⟩
  case round =>
   obtain ⟨i, A, qa, ca, hi, rfl, rfl, HO, HB, HA, HQ⟩ := hrel
   have x0 := HA.out.cell 0
   have x3 := HA.out.cell 3
   simp only [List.getElem?_cons_zero, List.getElem?_cons_succ] at x0 x3
   have hi00 : (0 : Int) ≤ i := by omega
   by_cases hlt : i < ks.length
   ·have hlt' : (i : Int) < ks.length := by omega
    have hi0 : (0 : Int) ≤ i := by omega
    have hw : wrap64 ((i : Int) + 1) = (i : Int) + 1 := by unfold wrap64; have := HKL.out; omega
    obtain ⟨ba, oa, rfl, hba, hl⟩ := HK.out (by omega)
    obtain ⟨x, hx⟩ : ∃ x, x = ks.getD i ex0 := ⟨_, rfl⟩
    obtain ⟨q2, c2, x0, x1, x2, x3, hr⟩ := hl.at hlt
    have hxs := sizeL_get ks i hlt
    have hxd := depthL_get ks i hlt
    rw [← hx] at x0 x1 x2 x3 hr hxs hxd
    have HX := hiD hx
    obtain ⟨xk, xv2, xn2, xs⟩ := x
    have cc : ∀ n, wr.cell? ⟨ba, n, none⟩ = w.cell? ⟨ba, n, none⟩ := fun n => (HB.out).cell (p := ⟨ba, n, none⟩) (hP _ hba)
    have X0 : wr.cell? ⟨ba, oa + i * 4, none⟩ = some (.int .i64 xk) := (cc _).trans x0
    have X1 : wr.cell? ⟨ba, oa + i * 4 + 1, none⟩ = some (.string (bstr xv2)) := (cc _).trans x1
    have X2 : wr.cell? ⟨ba, oa + i * 4 + 2, none⟩ = some (.string (bstr xn2)) := (cc _).trans x2
    have X3 : wr.cell? ⟨ba, oa + i * 4 + 3, none⟩ = some (.slice q2 xs.length c2) := (cc _).trans x3
    clear x0 x1 x2 x3 cc hx
    have HR : Hid (RdE P wr (.mk xk xv2 xn2 xs) (.agg #[.int .i64 xk, .string (bstr xv2), .string (bstr xn2), .slice q2 xs.length c2])) := hr.below (HB.out) hP
    have HOK : Hid (okE 64 (.mk xk xv2 xn2 xs) ∧ formE (.mk xk xv2 xn2 xs) = true ∧ sizeE (.mk xk xv2 xn2 xs) ≤ m) := by
     rw [HX.out]
     refine ⟨okL_get HOKL.out hlt, formL_mem HFL.out _ ?_, ?_⟩
     ·rw [List.getD_eq_getElem?_getD, List.getElem?_eq_getElem hlt]; exact List.getElem_mem hlt
     ·rw [← HX.out]; have := HSZ.out; omega
    have HQ2 : Hid (T = A ++ (putE (.mk xk xv2 xn2 xs) ++ putEs (ks.drop (i + 1)))) := by
     show _ = _
     rw [HQ.out, List.drop_eq_getElem_cons hlt, putEs, HX.out, List.getD_eq_getElem?_getD, List.getElem?_eq_getElem hlt]; rfl
    have HIH := hiD (IH.out (.mk xk xv2 xn2 xs) _ P _ HOK.out.2.2 HOK.out.1 HOK.out.2.1 HR.out (fun b hb => Nat.lt_of_lt_of_le (hP b hb) HB.out.size))
    have HOB := HO
    have HBB := HB
    have HAB := HA
    have HLN := hiD (len_of HQ2.out HT.out)
    have HLT : Hid (i < ks.length) := hlt
    clear HO HB HA HQ HR HOK hr hxs hxd HX hlt
    go_wp2_with fail
    refine HIH.out.mono ?_
    rintro e wa ⟨vm, rfl, om, bm⟩
    have HOA := hiD (own_below HOB.out bm)
    have HBA := hiD (HBB.out.trans (bm.mono HBB.out.size))
    have HAA := hiD (HAB.out.later bm)
    have HRM := hiD (Rd.of_own om)
    obtain ⟨qm, cm, rfl⟩ := own_form om
    have HWB : Hid (w.heap.size + 1 ≤ wa.heap.size) := HAA.out.lt
    clear om bm HOB HBB HAB HIH X0 X1 X2 X3 x0 x3
    go_wp2_with (at_builtin; refine app_bytes rfl _ _ rfl rfl HOA.out rfl HRM.out HLN.out HWB.out ?_)
    intro vn wn hown hg
    have HB2 := hiD (below_grown HBA.out HBA.out.size (Nat.le_succ _) HOA.out hg)
    have HA2 : Hid (Arr wn 42 w.heap.size [.int .i64 5, .string (bstr []), .string (bstr []), .slice (some ⟨ba, oa, none⟩) ks.length c]) := (hg.block _ HAA.out.lt (fun e => by have := (HOA.out.lt _ e.symm).1; omega)).trans HAA.out
    obtain ⟨q2, c2, rfl⟩ := own_form hown
    obtain ⟨A2, hA⟩ : ∃ x, x = A ++ putE (.mk xk xv2 xn2 xs) := ⟨_, rfl⟩
    have hAL : A.length + (putE (.mk xk xv2 xn2 xs)).length = A2.length := by rw [hA, List.length_append]
    have HO2 : Hid (wn.ownsRow (w.heap.size + 1) 5 1 (.slice q2 A2.length c2) A2.length (bvs A2)) := by show World.ownsRow _ _ _ _ _ _ _; rw [hA]; simpa using hown
    rw [hAL]
    clear hAL
    have HQ3 : Hid (T = A2 ++ putEs (ks.drop (i + 1))) := by rw [hA, List.append_assoc]; exact HQ2.out
    clear hown hg HOA HBA HAA HRM HLN HWB hA HQ2
    go_wp2_with fail
    go_roundw
    case rel => exact ⟨i + 1, A2, q2, c2, HLT.out, by go_num, rfl, HO2.out, HB2.out, HA2.out, HQ3.out⟩
    case measure => first | exact meas HLT.out (Nat.le_trans HKL.out (by decide)) | exact meas' HLT.out
   ·have hlt' : ¬ (i : Int) < ks.length := by omega
    have hd : ks.drop i = [] := List.drop_eq_nil_of_le (by omega)
    rw [hd] at HQ
    have HQ9 : Hid (T = A ++ []) := HQ.out
    have HO9 := HO
    have HB9 := HB
    obtain ⟨A9, hA9⟩ : ∃ x, x = A := ⟨_, rfl⟩
    rw [← hA9] at HO9 HQ9
    subst hA9
    go_wp2_with fail
    go_ret
    have HEND : T = A9 := by rw [HQ9.out, List.append_nil]
    rw [HEND]
    exact ⟨_, rfl, own_le HO9.out (Nat.le_succ _), HB9.out⟩
theorem rputX_any : ∀ (m : Nat), m ≤ 64 → ∀ (e : Ex) (v : Value) (P : Nat → Prop) (w : World), sizeE e ≤ m → okE 64 e → formE e = true → RdE P w e v → (∀ b, P b → b < w.heap.size) → Calls Tryz.prog 19 #[v] w (Owned w (putE e))
 | 0, _, e, _, _, _, hs, _, _, _, _ => absurd hs (by have := sizeE_pos e; omega)
 | m + 1, hm, e, v, P, w, hs, ho, hf, h, hP => rputX_step (rputX_any m (by omega)) (by omega) e v P w hs ho hf h hP
end Go.Proofs.YtdnmgemjhpkekaaGreatDoor
namespace Go.Proofs.YtdnmgemjhpkekaaGreatDoor
open Go.ChangeShapes Go.WideShapes Go.ChangeAt Go.RowKit
set_option linter.unusedVariables false

theorem alls_of {P : Nat → Prop} {w : World} {ls : List AlB} {q : Option Addr} {c : Nat} (h : RdA P w ls (.slice q ls.length c)) (hP : ∀ b, P b → b < w.heap.size) (ha : ∀ a ∈ ls, GoodA a) : ∀ i, i < ls.length → ∃ (b o : Nat) (t r : ByteArray), q = some ⟨b, o, none⟩ ∧ AtC w b (o + i * 2) [.string t, .string r] ∧ isName t = true ∧ (r = ⟨#[]⟩ ∨ isName r = true) := by
  intro i hi
  obtain ⟨b, o, e, hb, x0, x1⟩ := h.at hi
  have hg : GoodA (ls.getD i ([], [])) := ha _ (by rw [List.getD_eq_getElem?_getD, List.getElem?_eq_getElem hi]; exact List.getElem_mem hi)
  refine ⟨b, o, _, _, e, ⟨hP b hb, fun j u hj => ?_⟩, hg.1, hg.2.imp (fun e => by rw [e]; rfl) id⟩
  match j, hj with
  | 0, hj => cases hj; exact x0
  | 1, hj => cases hj; exact x1
theorem mems_of {P : Nat → Prop} {w : World} {l : List MemB} {q : Option Addr} {c : Nat} (h : RdK kdMem P w l (.slice q l.length c)) (hP : ∀ b, P b → b < w.heap.size) : ∀ i, i < l.length → ∃ (b o : Nat) (x : MemB) (u0 u1 u2 u3 u4 u5 u6 : Value), q = some ⟨b, o, none⟩ ∧ AtC w b (o + i * 7) [u0, u1, u2, u3, u4, u5, u6] ∧ x ∈ l ∧ rdMem P w x [u0, u1, u2, u3, u4, u5, u6] := by
  intro i hi
  obtain ⟨x, hx⟩ : ∃ x, l[i]? = some x := ⟨_, List.getElem?_eq_getElem hi⟩
  have hm := List.mem_of_getElem? hx
  obtain ⟨b, o, a, e, hb, r, x1⟩ := h.at hx
  rw [show kdMem.size = 7 from rfl] at x1
  obtain ⟨n, k, ls, mk, mv, mn, ms⟩ := x
  obtain ⟨qa, ca, q4, c4, rfl, _, _⟩ := rdMem_form r
  exact ⟨b, o, _, _, _, _, _, _, _, _, e, ⟨hP b hb, x1⟩, hm, r⟩
theorem defs_of {P : Nat → Prop} {w : World} {l : List DefB} {q : Option Addr} {c : Nat} (h : RdK kdDef P w l (.slice q l.length c)) (hP : ∀ b, P b → b < w.heap.size) : ∀ i, i < l.length → ∃ (b o : Nat) (n : List UInt8) (m : List MemB) (q2 : Option Addr) (c2 : Nat), q = some ⟨b, o, none⟩ ∧ AtC w b (o + i * 2) [.string (bstr n), .slice q2 m.length c2] ∧ (n, m) ∈ l ∧ RdK kdMem P w m (.slice q2 m.length c2) := by
  intro i hi
  obtain ⟨x, hx⟩ : ∃ x, l[i]? = some x := ⟨_, List.getElem?_eq_getElem hi⟩
  have hm := List.mem_of_getElem? hx
  obtain ⟨b, o, a, e, hb, r, x1⟩ := h.at hx
  rw [show kdDef.size = 2 from rfl] at x1
  obtain ⟨n, m⟩ := x
  obtain ⟨u, rfl, r⟩ := r
  have r2 := r
  obtain ⟨q2, c2, rfl, _⟩ := r
  exact ⟨b, o, n, m, q2, c2, e, ⟨hP b hb, x1⟩, hm, r2⟩
theorem rdA_keep {P : Nat → Prop} {w w' : World} {l : List AlB} {v : Value} (h : RdA P w l v) (hb : Below w.heap.size w w') (hP : ∀ b, P b → b < w.heap.size) : RdA P w' l v := h.keep fun b hb' n => hb.cell (p := ⟨b, n, none⟩) (hP b hb')
theorem rdMem_keep {P : Nat → Prop} {w w' : World} {m : MemB} {cs : List Value} (h : rdMem P w m cs) (hb : Below w.heap.size w w') (hP : ∀ b, P b → b < w.heap.size) : rdMem P w' m cs := h.keep fun b hb' n => hb.cell (p := ⟨b, n, none⟩) (hP b hb')
theorem rdK_keep {α : Type} {K : Kd α} {P : Nat → Prop} {w w' : World} {l : List α} {v : Value} (h : RdK K P w l v) (hb : Below w.heap.size w w') (hP : ∀ b, P b → b < w.heap.size) : RdK K P w' l v := h.keep fun b hb' n => hb.cell (p := ⟨b, n, none⟩) (hP b hb')
theorem lt_keep {P : Nat → Prop} {w w' : World} (hb : Below w.heap.size w w') (hP : ∀ b, P b → b < w.heap.size) : ∀ b, P b → b < w'.heap.size := fun b h => Nat.lt_of_lt_of_le (hP b h) hb.size
set_option maxRecDepth 100000 in
set_option maxHeartbeats 2000000 in
theorem mhf_rel {ls : List AlB} {tn : ByteArray} {qa q4 : Option Addr} {ca c4 : Nat} {P : Nat → Prop} {w : World} (hn : isName tn = true) (h1 : RdA P w ls (.slice qa ls.length ca)) (hP : ∀ b, P b → b < w.heap.size) (ha : ∀ a ∈ ls, GoodA a) (hl1 : 1 ≤ ls.length) (hl2 : ls.length ≤ 32) (hr : ResT w) :
    Calls Tryz.prog 84 #[.agg #[.string tn, .int .i64 1, .slice qa ls.length ca, .int .i64 0, .string ⟨#[]⟩, .string ⟨#[]⟩, .slice q4 0 c4]] w fun e w' => e = .returned (.bool true) ∧ Below w.heap.size w w' := by
  have hb0 : Below w.heap.size w (w.alloc (.cells #[.string tn, .int .i64 1, .slice qa ls.length ca, .int .i64 0, .string ⟨#[]⟩, .string ⟨#[]⟩, .slice q4 0 c4] 66)) := (Below.refl _ _).alloc (Nat.le_refl _) _
  have HB := hiD hb0
  have HX : Hid (Arr (w.alloc (.cells #[.string tn, .int .i64 1, .slice qa ls.length ca, .int .i64 0, .string ⟨#[]⟩, .string ⟨#[]⟩, .slice q4 0 c4] 66)) 66 w.heap.size [.string tn, .int .i64 1, .slice qa ls.length ca, .int .i64 0, .string ⟨#[]⟩, .string ⟨#[]⟩, .slice q4 0 c4]) := Arr.new' _ _ _ _ rfl
  have HR : Hid (ResT (w.alloc (.cells #[.string tn, .int .i64 1, .slice qa ls.length ca, .int .i64 0, .string ⟨#[]⟩, .string ⟨#[]⟩, .slice q4 0 c4] 66))) := hr.below hb0 hr.lt
  have HN := hiD (isName_at tn hn _ HR.out)
  have H1 := hiD (rdA_keep h1 hb0 hP)
  have HP := hiD (lt_keep hb0 hP)
  have HG := hiD ha
  have hz1 : (0 : Int) < ls.length := by omega
  have hz2 : (ls.length : Int) ≤ 32 := by omega
  have HL : Hid (ls.length ≤ 100000) := by show _ ≤ _; omega
  clear hb0 h1 hP ha hl1 hl2 hr hn
  go_enter Tryz.func84, Tryz.ntmps84
  go_upto_region 1 with (fail)
  generalize (w.alloc (.cells #[.string tn, .int .i64 1, .slice qa ls.length ca, .int .i64 0, .string ⟨#[]⟩, .string ⟨#[]⟩, .slice q4 0 c4] 66)) = w0 at HX HB HR HN H1 HP ⊢
  obtain ⟨x0, y0, x1, y1, x2, y2, x3, y3, x4, y4, x5, y5, x6, y6⟩ := HX.out.all7
  go_wp2_with fail
  refine HN.out.mono ?_
  rintro e w1 ⟨rfl, b1⟩
  have HB := hiD (HB.out.trans (b1.mono HB.out.size))
  have HX := hiD (HX.out.later b1)
  have HR : Hid (ResT w1) := HR.out.below b1 HR.out.lt
  have HA := hiD (allA (W := w1) (c := ca) HL.out fun i hi => by
    obtain ⟨b, o, t, r, e, hc, g1, g2⟩ := alls_of (rdA_keep H1.out b1 HP.out) (lt_keep b1 HP.out) HG.out i hi
    exact ⟨b, o, _, _, e, hc, fun W' hW => isRight_any t r W' (HR.out.below hW HR.out.lt) g1 g2⟩)
  clear b1
  clear x0 y0 x1 y1 x2 y2 x3 y3 x4 y4 x5 y5 x6 y6
  obtain ⟨x0, y0, x1, y1, x2, y2, x3, y3, x4, y4, x5, y5, x6, y6⟩ := HX.out.all7
  go_wp2_with fail
  refine HA.out.mono ?_
  rintro e w2 ⟨rfl, b1⟩
  have HB := hiD (HB.out.trans (b1.mono HB.out.size))
  have HX := hiD (HX.out.later b1)
  have hz : ∀ q c, RdE (fun _ => False) w2 (.mk 0 [] [] []) (.agg #[.int .i64 0, .string ⟨#[]⟩, .string ⟨#[]⟩, .slice q 0 c]) := fun q c => by unfold RdE; exact ⟨q, c, rfl, Nat.zero_le _, fun h => by simp at h⟩
  have HS : Hid (Calls Tryz.prog 103 #[.agg #[.int .i64 0, .string ⟨#[]⟩, .string ⟨#[]⟩, .slice q4 0 c4], .agg #[.int .i64 0, .string ⟨#[]⟩, .string ⟨#[]⟩, .slice none 0 0]] w2 fun r w' => r = .returned (.bool true) ∧ Below w2.heap.size w2 w') := by
    have h := esame_any (.mk 0 [] [] []) (.mk 0 [] [] []) _ _ (fun _ => False) (fun _ => False) w2 (by decide) (by decide) (hz q4 c4) (hz none 0) (fun b hb => hb.elim) (fun b hb => hb.elim)
    rw [cmpE_self] at h
    exact h
  clear b1 hz
  clear x0 y0 x1 y1 x2 y2 x3 y3 x4 y4 x5 y5 x6 y6
  obtain ⟨x0, y0, x1, y1, x2, y2, x3, y3, x4, y4, x5, y5, x6, y6⟩ := HX.out.all7
  go_wp2_with fail
  refine HS.out.mono ?_
  rintro r w3 ⟨rfl, b3⟩
  have HB := hiD (HB.out.trans (b3.mono HB.out.size))
  clear b3
  go_wp2_with fail
  go_ret
  exact ⟨rfl, HB.out⟩
set_option maxRecDepth 100000 in
set_option maxHeartbeats 2000000 in
theorem mhf_perm {mk : Int} {mv mn : List UInt8} {ms : List Ex} {tn : ByteArray} {qa q4 : Option Addr} {ca c4 : Nat} {P : Nat → Prop} {w : World} (hn : isName tn = true) (h1 : RdE P w (.mk mk mv mn ms) (.agg #[.int .i64 mk, .string (bstr mv), .string (bstr mn), .slice q4 ms.length c4])) (hP : ∀ b, P b → b < w.heap.size) (hg : rightE (.mk mk mv mn ms) = true) (hsz : sizeE (.mk mk mv mn ms) ≤ 64) (hr : ResT w) :
    Calls Tryz.prog 84 #[.agg #[.string tn, .int .i64 2, .slice qa 0 ca, .int .i64 mk, .string (bstr mv), .string (bstr mn), .slice q4 ms.length c4]] w fun e w' => e = .returned (.bool true) ∧ Below w.heap.size w w' := by
  have hb0 : Below w.heap.size w (w.alloc (.cells #[.string tn, .int .i64 2, .slice qa 0 ca, .int .i64 mk, .string (bstr mv), .string (bstr mn), .slice q4 ms.length c4] 66)) := (Below.refl _ _).alloc (Nat.le_refl _) _
  have HB := hiD hb0
  have HX : Hid (Arr (w.alloc (.cells #[.string tn, .int .i64 2, .slice qa 0 ca, .int .i64 mk, .string (bstr mv), .string (bstr mn), .slice q4 ms.length c4] 66)) 66 w.heap.size [.string tn, .int .i64 2, .slice qa 0 ca, .int .i64 mk, .string (bstr mv), .string (bstr mn), .slice q4 ms.length c4]) := Arr.new' _ _ _ _ rfl
  have HR : Hid (ResT (w.alloc (.cells #[.string tn, .int .i64 2, .slice qa 0 ca, .int .i64 mk, .string (bstr mv), .string (bstr mn), .slice q4 ms.length c4] 66))) := hr.below hb0 hr.lt
  have HN := hiD (isName_at tn hn _ HR.out)
  have H1 := hiD (h1.below hb0 hP)
  have HP := hiD (lt_keep hb0 hP)
  have HG := hiD hg
  have HZ := hiD hsz
  clear hb0 h1 hP hg hsz hr hn
  go_enter Tryz.func84, Tryz.ntmps84
  go_upto_region 1 with (fail)
  generalize (w.alloc (.cells #[.string tn, .int .i64 2, .slice qa 0 ca, .int .i64 mk, .string (bstr mv), .string (bstr mn), .slice q4 ms.length c4] 66)) = w0 at HX HB HR HN H1 HP ⊢
  obtain ⟨x0, y0, x1, y1, x2, y2, x3, y3, x4, y4, x5, y5, x6, y6⟩ := HX.out.all7
  go_wp2_with fail
  refine HN.out.mono ?_
  rintro e w1 ⟨rfl, b1⟩
  have HB := hiD (HB.out.trans (b1.mono HB.out.size))
  have HX := hiD (HX.out.later b1)
  have HR : Hid (ResT w1) := HR.out.below b1 HR.out.lt
  have HS : Hid (Calls Tryz.prog 104 #[.agg #[.int .i64 mk, .string (bstr mv), .string (bstr mn), .slice q4 ms.length c4]] w1 fun r w' => r = .returned (.bool true) ∧ Below w1.heap.size w1 w') := by
    have h := eright_any (.mk mk mv mn ms) _ P w1 (Nat.le_trans HZ.out (by decide)) (H1.out.below b1 HP.out) (lt_keep b1 HP.out) HR.out
    rw [HG.out] at h
    exact h
  clear b1
  clear x0 y0 x1 y1 x2 y2 x3 y3 x4 y4 x5 y5 x6 y6
  obtain ⟨x0, y0, x1, y1, x2, y2, x3, y3, x4, y4, x5, y5, x6, y6⟩ := HX.out.all7
  go_wp2_with fail
  refine HS.out.mono ?_
  rintro r w3 ⟨rfl, b3⟩
  have HB := hiD (HB.out.trans (b3.mono HB.out.size))
  clear b3
  go_wp2_with fail
  go_ret
  exact ⟨rfl, HB.out⟩
theorem mhf_any (x : MemB) (cs : List Value) (P : Nat → Prop) (w : World) (h : rdMem P w x cs) (hP : ∀ b, P b → b < w.heap.size) (hg : GoodM x) (hr : ResT w) : Calls Tryz.prog 84 #[.agg cs.toArray] w fun e w' => e = .returned (.bool true) ∧ Below w.heap.size w w' := by
  obtain ⟨n, k, ls, mk, mv, mn, ms⟩ := x
  obtain ⟨qa, ca, q4, c4, rfl, h3, h4⟩ := rdMem_form h
  obtain ⟨hn, ⟨hk, h1, h2, ha, he⟩ | ⟨hk, hl, he⟩⟩ := hg
  · have hk : k = 1 := hk
    have he : Ex.mk mk mv mn ms = .mk 0 [] [] [] := he
    cases he
    subst hk
    exact mhf_rel hn h3 hP ha h1 h2 hr
  · have hk : k = 2 := hk
    have hl : ls = [] := hl
    subst hk
    subst hl
    exact mhf_perm hn h4 hP he.1 he.2.2 hr
set_option maxRecDepth 100000 in
set_option maxHeartbeats 2000000 in
theorem hf_any (l : List MemB) (tn : ByteArray) (q : Option Addr) (c : Nat) (P : Nat → Prop) (w : World) (hn : isName tn = true) (h : RdK kdMem P w l (.slice q l.length c)) (hP : ∀ b, P b → b < w.heap.size) (hl : l.length ≤ 64) (hg : ∀ m ∈ l, GoodM m) (hr : ResT w) :
    Calls Tryz.prog 59 #[.agg #[.string tn, .slice q l.length c]] w fun e w' => e = .returned (.bool true) ∧ Below w.heap.size w w' := by
  have hb0 : Below w.heap.size w (w.alloc (.cells #[.string tn, .slice q l.length c] 53)) := (Below.refl _ _).alloc (Nat.le_refl _) _
  have HB := hiD hb0
  have HX : Hid (Arr (w.alloc (.cells #[.string tn, .slice q l.length c] 53)) 53 w.heap.size [.string tn, .slice q l.length c]) := Arr.new' _ _ _ _ rfl
  have HR : Hid (ResT (w.alloc (.cells #[.string tn, .slice q l.length c] 53))) := hr.below hb0 hr.lt
  have HN := hiD (isName_at tn hn _ HR.out)
  have H1 := hiD (rdK_keep h hb0 hP)
  have HP := hiD (lt_keep hb0 hP)
  have HG := hiD hg
  have hz2 : (l.length : Int) ≤ 64 := by omega
  have HL : Hid (l.length ≤ 100000) := by show _ ≤ _; omega
  clear hb0 h hP hg hl hr hn
  go_enter Tryz.func59, Tryz.ntmps59
  go_upto_region 1 with (fail)
  generalize (w.alloc (.cells #[.string tn, .slice q l.length c] 53)) = w0 at HX HB HR HN H1 HP ⊢
  obtain ⟨x0, y0, x1, y1⟩ := HX.out.all2
  go_wp2_with fail
  refine HN.out.mono ?_
  rintro e w1 ⟨rfl, b1⟩
  have HB := hiD (HB.out.trans (b1.mono HB.out.size))
  have HX := hiD (HX.out.later b1)
  have HR : Hid (ResT w1) := HR.out.below b1 HR.out.lt
  have HA := hiD (allM (W := w1) (c := c) HL.out fun i hi => by
    obtain ⟨b, o, x, u0, u1, u2, u3, u4, u5, u6, e, hc, hm, r⟩ := mems_of (rdK_keep H1.out b1 HP.out) (lt_keep b1 HP.out) i hi
    exact ⟨b, o, u0, u1, u2, u3, u4, u5, u6, e, hc, fun W' hW => mhf_any x _ P W' (rdMem_keep r hW (lt_keep b1 HP.out)) (lt_keep hW (lt_keep b1 HP.out)) (HG.out x hm) (HR.out.below hW HR.out.lt)⟩)
  clear b1
  clear x0 y0 x1 y1
  obtain ⟨x0, y0, x1, y1⟩ := HX.out.all2
  go_wp2_with fail
  refine HA.out.mono ?_
  rintro r w3 ⟨rfl, b3⟩
  have HB := hiD (HB.out.trans (b3.mono HB.out.size))
  clear b3
  go_wp2_with fail
  go_ret
  exact ⟨rfl, HB.out⟩
set_option maxRecDepth 100000 in
set_option maxHeartbeats 2000000 in
theorem form_any (l : List DefB) (q : Option Addr) (c : Nat) (P : Nat → Prop) (w : World) (h : RdK kdDef P w l (.slice q l.length c)) (hP : ∀ b, P b → b < w.heap.size) (hg : GoodS l) (hr : ResT w) :
    Calls Tryz.prog 32 #[.agg #[.slice q l.length c]] w fun e w' => e = .returned (.bool true) ∧ Below w.heap.size w w' := by
  have hb0 : Below w.heap.size w (w.alloc (.cells #[.slice q l.length c] 26)) := (Below.refl _ _).alloc (Nat.le_refl _) _
  have HB := hiD hb0
  have HX : Hid (Arr (w.alloc (.cells #[.slice q l.length c] 26)) 26 w.heap.size [.slice q l.length c]) := Arr.new' _ _ _ _ rfl
  have HR : Hid (ResT (w.alloc (.cells #[.slice q l.length c] 26))) := hr.below hb0 hr.lt
  have H1 := hiD (rdK_keep h hb0 hP)
  have HP := hiD (lt_keep hb0 hP)
  have HG := hiD hg.2
  have hz2 : (l.length : Int) ≤ 64 := by have := hg.1; omega
  have HL : Hid (l.length ≤ 100000) := by have := hg.1; show _ ≤ _; omega
  clear hb0 h hP hg hr
  go_enter Tryz.func32, Tryz.ntmps32
  go_upto_region 1 with (fail)
  generalize (w.alloc (.cells #[.slice q l.length c] 26)) = w0 at HX HB HR H1 HP ⊢
  obtain ⟨x0, y0⟩ := HX.out.all1
  have HA := hiD (allD (W := w0) (c := c) HL.out fun i hi => by
    obtain ⟨b, o, n, m, q2, c2, e, hc, hm, r⟩ := defs_of H1.out HP.out i hi
    have g := HG.out _ hm
    exact ⟨b, o, _, _, e, hc, fun W' hW => hf_any m (bstr n) q2 c2 P W' g.1 (rdK_keep r hW HP.out) (lt_keep hW HP.out) g.2.1 g.2.2 (HR.out.below hW HR.out.lt)⟩)
  go_wp2_with fail
  refine HA.out.mono ?_
  rintro r w3 ⟨rfl, b3⟩
  have HB := hiD (HB.out.trans (b3.mono HB.out.size))
  clear b3
  go_wp2_with fail
  go_ret
  exact ⟨rfl, HB.out⟩
theorem putA_len {a : AlB} (h : GoodA a) : (putS (bstr a.1)).length ≤ 80 ∧ (putS (bstr a.2)).length ≤ 80 := by
  have h1 := name_len h.1
  have h2 : a.2.length ≤ 64 := by rcases h.2 with h | h; rw [h]; exact Nat.zero_le _; exact name_len h
  refine ⟨?_, ?_⟩
  · have := putS_len (bstr a.1) (by rw [bstr_size]; unfold lim64; omega); rw [bstr_size] at this; omega
  · have := putS_len (bstr a.2) (by rw [bstr_size]; unfold lim64; omega); rw [bstr_size] at this; omega
theorem putAs_len : ∀ l : List AlB, (∀ a ∈ l, GoodA a) → ((l.map putA).flatten).length ≤ 160 * l.length
  | [], _ => Nat.le_refl _
  | a :: r, h => by
    have h1 := putA_len (h a (by simp))
    have h2 := putAs_len r fun x hx => h x (by simp [hx])
    rw [List.map_cons, List.flatten_cons, List.length_append, List.length_cons, putA, List.length_append]
    omega
theorem putM_len {m : MemB} (h : GoodM m) : (putM m).length ≤ 14000 := by
  obtain ⟨n, k, ls, e⟩ := m
  obtain ⟨h1, hg⟩ := h
  have hn := name_len h1
  have a1 : (putS (bstr n)).length ≤ 80 := by have := putS_len (bstr n) (by rw [bstr_size]; unfold lim64; simp only [] at hn; omega); rw [bstr_size] at this; simp only [] at hn; omega
  rcases hg with ⟨rfl, t1, t2, t3, rfl⟩ | ⟨rfl, rfl, he⟩
  · have a2 := putAs_len ls t3
    have a3 : (put ls.length).length ≤ 10 := put_small _ (by unfold lim64; simp only [] at t2; omega)
    have a4 : (put 1).length ≤ 10 := put_small _ (by decide)
    have t3 : ls.length ≤ 32 := t2
    have e : putM (n, 1, ls, ex0) = putS (bstr n) ++ (put 1 ++ (put ls.length ++ (ls.map putA).flatten)) := by simp [putM]
    rw [e, List.length_append, List.length_append, List.length_append]
    omega
  · have a2 := putE_len e he.2.1 (right_all he.1).1 he.2.2
    have a4 : (put 2).length ≤ 10 := put_small _ (by decide)
    have h9 : sizeE e ≤ 64 := he.2.2
    have e9 : putM (n, 2, [], e) = putS (bstr n) ++ (put 2 ++ putE e) := by simp [putM]
    rw [e9, List.length_append, List.length_append]
    omega
theorem app_len {A m : List UInt8} (h : A.length ≤ 100000) (h2 : m.length ≤ 100000) : A.length + m.length ≤ 140737488355328 := by omega
theorem stepA {ops : Array Oper} {o : Oper} {a : Act} {w : World} {K : Act → World → Prop} {Q : Exit → Act → World → Prop} {E : Prop} (hgd : o.guard = none) (s x : Operand)
    (ho : o.op = .call { callee := .builtin .append, args := #[s, x], argTypes := #[22, 22] })
    {base C : Nat} {v vx : Value} {l m : List UInt8} (hs : a.eval s = v) (hown : w.ownsRow base 5 1 v l.length (bvs l)) (hx : a.eval x = vx) (hr : Rd C w vx m) (hm : 0 < m.length)
    (hlen : l.length + m.length ≤ 140737488355328) (hbase : base ≤ w.heap.size)
    (h : ∀ v' w', w'.ownsRow base 5 1 v' (l ++ m).length (bvs (l ++ m)) → w.grownBy w' v.ownBlock → K (a.put o.dst v') w') : if Region.wanted o (yielded ops a.tmps) = true then Oper.wp Tryz.prog o a w K Q else E := by
  have hw : Region.wanted o (yielded ops a.tmps) = true := by simp [Region.wanted, hgd]
  rw [if_pos hw]
  obtain ⟨i0, hi, hz0, hz1, hz2⟩ := info_parts Tryz.info5
  rcases hr with ⟨_, rfl, rfl⟩ | ⟨b, off, cap, rfl, h1, h2, h3, hc⟩
  · exact absurd hm (by simp)
  · refine wp_append_own w s x 22 ho base 5 i0 (.int .u8 0) 1 1 Tryz.underlying22 hi hz0 hz1 hz2 rfl (by decide) v l.length (bvs l) hs hown ⟨b, off, none⟩ m.length cap (bvs m) hx (by simp [bvs]) ?_ (bvs_one m) (by unfold maxLen; omega) (by omega) hbase ?_
    · intro j u hu
      have hj : j < m.length := by
        have := (List.getElem?_eq_some_iff.1 hu).1; simpa [bvs] using this
      rw [bvs_getElem m j hj] at hu
      simp only [Option.some.injEq] at hu
      subst hu
      have e : (⟨b, off, none⟩ : Addr).add j = ⟨b, off + j, none⟩ := by unfold Addr.add; split <;> simp_all
      rw [e]; exact hc j hj
    · intro v' w' r1 r2 _
      exact h v' w' (by simpa [bvs] using r1) r2
set_option maxRecDepth 100000 in
set_option maxHeartbeats 8000000 in
theorem putMember_2 {nn mv mn : List UInt8} {ls : List AlB} {mk : Int} {ms : List Ex} {qa q4 : Option Addr} {ca c4 : Nat} {P : Nat → Prop} {w : World} (hg : GoodM (nn, 2, ls, .mk mk mv mn ms)) (ra : RdA P w ls (.slice qa ls.length ca)) (re : RdE P w (.mk mk mv mn ms) (.agg #[.int .i64 mk, .string (bstr mv), .string (bstr mn), .slice q4 ms.length c4])) (hP : ∀ b, P b → b < w.heap.size) : Calls Tryz.prog 35 #[.agg #[.string (bstr nn), .int .i64 2, .slice qa ls.length ca, .int .i64 mk, .string (bstr mv), .string (bstr mn), .slice q4 ms.length c4]] w (Owned w (putM (nn, 2, ls, .mk mk mv mn ms))) := by
  have hb0 : Below w.heap.size w (w.alloc (.cells #[.string (bstr nn), .int .i64 2, .slice qa ls.length ca, .int .i64 mk, .string (bstr mv), .string (bstr mn), .slice q4 ms.length c4] 66)) := (Below.refl _ _).alloc (Nat.le_refl _) _
  have HB0 := hiD hb0
  have HS0 : Hid (Arr (w.alloc (.cells #[.string (bstr nn), .int .i64 2, .slice qa ls.length ca, .int .i64 mk, .string (bstr mv), .string (bstr mn), .slice q4 ms.length c4] 66)) 66 w.heap.size [.string (bstr nn), .int .i64 2, .slice qa ls.length ca, .int .i64 mk, .string (bstr mv), .string (bstr mn), .slice q4 ms.length c4]) := Arr.new' _ _ _ _ rfl
  have HNL : Hid (nn.length ≤ 64) := name_len hg.1
  have HTN : Hid ((putS (bstr nn)).length ≤ 80) := by have h := name_len hg.1; have := putS_len (bstr nn) (by rw [bstr_size]; unfold lim64; simp only [] at h; omega); rw [bstr_size] at this; show _ ≤ _; simp only [] at h; omega
  have HTJ : Hid ((putS (bstr nn)).length + (put 2).length ≤ 140737488355328) := by have := HTN.out; have h2 : (put 2).length ≤ 10 := put_small _ (by decide); show _ ≤ _; omega
  obtain ⟨T, hT⟩ : ∃ T, T = putM (nn, 2, ls, .mk mk mv mn ms) := ⟨_, rfl⟩
  have HT : Hid (T.length ≤ 20000) := by rw [hT]; exact Nat.le_trans (putM_len hg) (by decide)
  have HTE := hiD hT
  rw [← hT]
  have HFE : Hid (FineE (.mk mk mv mn ms)) := by rcases hg.2 with h | h; exact absurd (show (2 : Int) = 1 from h.1) (by decide); exact h.2.2
  have HRE := hiD re
  clear hT hg ra re hb0
  go_enter Tryz.func35, Tryz.ntmps35
  go_upto_region 1 with (fail)
  generalize w.alloc (.cells #[.string (bstr nn), .int .i64 2, .slice qa ls.length ca, .int .i64 mk, .string (bstr mv), .string (bstr mn), .slice q4 ms.length c4] 66) = w0 at HB0 HS0 ⊢
  refine wp_region_noPanic ?_
  refine wp_region_held_drew (S := fun W' => Arr W' 66 w.heap.size [.string (bstr nn), .int .i64 2, .slice qa ls.length ca, .int .i64 mk, .string (bstr mv), .string (bstr mn), .slice q4 ms.length c4]) (by kernel_rfl) (HS0.out.later (Below.refl _ _).drew) (fun hHeld => ?_)
  try simp only [Act.put]
  have hbd : Below w0.heap.size w0 w0.drew := (Below.refl _ _).drew
  have HBd := hiD (HB0.out.trans (hbd.mono HB0.out.size))
  have HSd := hiD (HS0.out.later hbd)
  clear HB0 HS0
  clear hbd
  generalize w0.drew = wd at hHeld HBd HSd ⊢
  refine wpAnyH_take (i := 0) (oi := ⟨some 6, _, _, _, _, _⟩) (v := .pointer (some ⟨w.heap.size, 0, none⟩)) rfl (by kernel_rfl) (by kernel_rfl) (by kernel_rfl) (fun _ _ _ h => h) (.inl ⟨by rfl, fun w' hSw => ?_⟩) hHeld ?_
  focus (skip; clear hHeld; go_simp)
  try simp only [Act.put, pz0, pz1, pz2]
  refine wpAnyH_take (i := 1) (oi := ⟨some 7, _, _, _, _, _⟩) (v := .string (bstr nn)) rfl (by kernel_rfl) (by kernel_rfl) (by kernel_rfl) (fun _ _ _ h => h) (.inl ⟨by rfl, fun w' hSw => ?_⟩) hHeld ?_
  focus (have a1 := hSw.cell 0; simp only [List.getElem?_cons_zero] at a1; clear hHeld; go_simp)
  try simp only [Act.put, pz0, pz1, pz2]
  refine wpAnyH_take (i := 3) (oi := ⟨some 9, _, _, _, _, _⟩) (v := .pointer (some ⟨w.heap.size, 1, none⟩)) rfl (by kernel_rfl) (by kernel_rfl) (by kernel_rfl) (fun _ _ _ h => h) (.inl ⟨by rfl, fun w' hSw => ?_⟩) hHeld ?_
  focus (skip; clear hHeld; go_simp)
  try simp only [Act.put, pz0, pz1, pz2]
  refine wpAnyH_take (i := 4) (oi := ⟨some 10, _, _, _, _, _⟩) (v := .int .i64 2) rfl (by kernel_rfl) (by kernel_rfl) (by kernel_rfl) (fun _ _ _ h => h) (.inl ⟨by rfl, fun w' hSw => ?_⟩) hHeld ?_
  focus (have a1 := hSw.cell 1; simp only [List.getElem?_cons_zero, List.getElem?_cons_succ] at a1; clear hHeld; go_simp)
  try simp only [Act.put, pz0, pz1, pz2]
  refine wpAnyH_ready (rs := [2]) (by kernel_rfl) (by simp) ?_
  refine AllReadyH.cons (o := ⟨some 8, _, _, _, _, _⟩) rfl (fun K' hK' => ?_) AllReadyH.nil
  refine stepw_call (by rfl) ?_ (putS_text nn (by have := HNL.out; omega) wd) ?_
  focus go_simp
  rintro vx w1 ⟨ox, bbx⟩
  have HB1 := hiD (HBd.out.trans (bbx.mono HBd.out.size))
  have HS1 := hiD (HSd.out.later bbx)
  have HRx1 := hiD (Rd.of_own ox)
  obtain ⟨qx, cx, rfl⟩ := own_form ox
  clear ox bbx
  clear HBd HSd
  refine hK'.out _ _ HS1.out (fun _ => ?_)
  clear hK' K' hHeld
  have hHeld := HS1.out
  try simp only [Act.put, pz0, pz1, pz2]
  refine wpAnyH_ready (rs := [5]) (by kernel_rfl) (by simp) ?_
  refine AllReadyH.cons (o := ⟨some 11, _, _, _, _, _⟩) rfl (fun K' hK' => ?_) AllReadyH.nil
  refine stepw_call (by rfl) ?_ (putCount_any 2 (by decide) w1) ?_
  focus go_simp
  rintro vy w2 ⟨oy, bby⟩
  have HB2 := hiD (HB1.out.trans (bby.mono HB1.out.size))
  have HS2 := hiD (HS1.out.later bby)
  have HRx2 := hiD ((HRx1.out.below bby (Nat.le_refl _)).mono bby.size)
  clear HRx1
  have HRy2 := hiD (Rd.of_own oy)
  obtain ⟨qy, cy, rfl⟩ := own_form oy
  clear oy bby
  clear HB1 HS1
  refine hK'.out _ _ HS2.out (fun _ => ?_)
  clear hK' K' hHeld
  have hHeld := HS2.out
  try simp only [Act.put, pz0, pz1, pz2]
  refine wpAnyH_ready (rs := [6]) (by kernel_rfl) (by simp) ?_
  refine AllReadyH.cons (o := ⟨some 12, _, _, _, _, _⟩) rfl (fun K' hK' => ?_) AllReadyH.nil
  go_simp
  have hbb : Below w2.heap.size w2 (w2.alloc (.cells #[.slice qx (putS (bstr nn)).length cx, .slice qy (put 2).length cy] 22)) := (Below.refl _ _).alloc (Nat.le_refl _) _
  have HBs := hiD (HB2.out.trans (hbb.mono HB2.out.size))
  have HSs := hiD (HS2.out.later hbb)
  have HRA : Hid (RdAll (w2.alloc (.cells #[.slice qx (putS (bstr nn)).length cx, .slice qy (put 2).length cy] 22)).heap.size (w2.alloc (.cells #[.slice qx (putS (bstr nn)).length cx, .slice qy (put 2).length cy] 22)) (some ⟨w2.heap.size, 0, none⟩) [putS (bstr nn), put 2]) := rd_two HRx2.out HRy2.out
  clear hbb HRx2 HRy2
  clear HB2 HS2
  obtain ⟨gs, hgs⟩ : ∃ g, g = w2.heap.size := ⟨_, rfl⟩
  rw [← hgs] at HRA ⊢
  generalize (w2.alloc (.cells #[.slice qx (putS (bstr nn)).length cx, .slice qy (put 2).length cy] 22)) = ws at HRA HBs HSs ⊢
  clear hgs
  have HWW : Hid (w.heap.size + 1 ≤ ws.heap.size) := HSs.out.lt
  refine hK'.out _ _ HSs.out (fun _ => ?_)
  clear hK' K' hHeld
  have hHeld := HSs.out
  try simp only [Act.put, pz0, pz1, pz2]
  refine wpAnyH_ready (rs := [7]) (by kernel_rfl) (by simp) ?_
  refine AllReadyH.cons (o := ⟨some 13, _, _, _, _, _⟩) rfl (fun K' hK' => ?_) AllReadyH.nil
  refine stepw_call (by rfl) ?_ (join_any (cap := 2) HRA.out (Nat.le_refl _) (by show 2 ≤ 140737488355328; decide) (by have := HTJ.out; simpa [total] using this)) ?_
  focus go_simp
  rintro vj wj ⟨oj, bj⟩
  have HBj := hiD (HBs.out.trans (bj.mono HBs.out.size))
  have HSj := hiD (HSs.out.later bj)
  have HOJ : Hid (wj.ownsRow ws.heap.size 5 1 vj ((putS (bstr nn)) ++ (put 2)).length (bvs ((putS (bstr nn)) ++ (put 2)))) := by show World.ownsRow _ _ _ _ _ _ _; simpa using oj
  have HSJ : Hid (ws.heap.size ≤ wj.heap.size) := bj.size
  clear oj bj HRA
  clear HBs HSs
  refine hK'.out _ _ HSj.out (fun _ => ?_)
  clear hK' K' hHeld
  have hHeld := HSj.out
  try simp only [Act.put, pz0, pz1, pz2]
  refine wpAnyH_ready (rs := [8]) (by kernel_rfl) (by simp) ?_
  refine AllReadyH.cons (o := ⟨some 3, _, _, _, _, _⟩) rfl (fun K' hK' => ?_) AllReadyH.nil
  go_simp
  obtain ⟨qj, cj, rfl⟩ := own_form HOJ.out
  obtain ⟨A, hA⟩ : ∃ A, A = (putS (bstr nn)) ++ (put 2) := ⟨_, rfl⟩
  have hAL : (putS (bstr nn)).length + (put 2).length = A.length := by rw [hA, List.length_append]
  have HO : Hid (wj.ownsRow (w.heap.size + 1) 5 1 (.slice qj A.length cj) A.length (bvs A)) := by show World.ownsRow _ _ _ _ _ _ _; rw [hA]; exact own_le HOJ.out HWW.out
  have HQ : Hid (T = A ++ putE (.mk mk mv mn ms)) := by show _ = _; rw [HTE.out, hA]; simp [putM]
  have HAL := hiD (show A.length ≤ 1000 by have := HTN.out; have h2 : (put 2).length ≤ 10 := put_small _ (by decide); rw [← hAL]; omega)
  try rw [List.length_append]
  rw [hAL]
  have HB := HBj
  have HS := HSj
  clear hA hAL HOJ HSJ HTE HBj HSj
  refine hK'.out _ _ HS.out (fun _ => ?_)
  clear hK' K' hHeld
  try simp only [Act.put, pz0, pz1, pz2]
  refine wpAnyH_done (by kernel_rfl) ?_ _
  refine NoPanic.normal ?_
  obtain ⟨x0, y0, x1, y1, x2, y2, x3, y3, x4, y4, x5, y5, x6, y6⟩ := HS.out.all7
  go_wp2_with fail
  have HPX := hiD (putX_any 64 (Nat.le_refl _) (.mk mk mv mn ms) (.agg #[.int .i64 mk, .string (bstr mv), .string (bstr mn), .slice q4 ms.length c4]) P wj HFE.out.2.2 HFE.out.2.1 (right_all HFE.out.1).1 (RdE.below HRE.out HB.out hP) (fun b hb => Nat.lt_of_lt_of_le (hP b hb) HB.out.size))
  have HPL : Hid ((putE (.mk mk mv mn ms)).length ≤ 100000) := by have := putE_len _ HFE.out.2.1 (right_all HFE.out.1).1 HFE.out.2.2; have h2 := HFE.out.2.2; show _ ≤ _; omega
  refine HPX.out.mono ?_
  rintro e wa ⟨vm, rfl, om, bm⟩
  have HOA := hiD (own_below HO.out bm)
  have HBA := hiD (HB.out.trans (bm.mono HB.out.size))
  have HRM := hiD (Rd.of_own om)
  obtain ⟨qm, cm, rfl⟩ := own_form om
  have HLN : Hid (A.length + (putE (.mk mk mv mn ms)).length ≤ 140737488355328) := app_len (Nat.le_trans HAL.out (by decide)) HPL.out
  have HWB : Hid (w.heap.size + 1 ≤ wa.heap.size) := Nat.le_trans HS.out.lt bm.size
  clear om bm HO HB HS HPX x0 x1 x2 x3 x4 x5 x6 y0 y1 y2 y3 y4 y5 y6
  go_wp2_with (at_builtin; refine app_bytes rfl _ _ rfl rfl HOA.out rfl HRM.out HLN.out HWB.out ?_)
  intro vn wn hown hg
  have HB2 := hiD (below_grown HBA.out HBA.out.size (Nat.le_succ _) HOA.out hg)
  have hown2 : wn.ownsRow (w.heap.size + 1) 5 1 vn (A ++ putE (.mk mk mv mn ms)).length (bvs (A ++ putE (.mk mk mv mn ms))) := by simpa using hown
  have HOW := hiD hown2
  clear hown hown2 hg
  go_wp2_with fail
  go_ret
  rw [HQ.out]
  exact ⟨_, rfl, own_le HOW.out (Nat.le_succ _), HB2.out⟩
set_option maxRecDepth 100000 in
set_option maxHeartbeats 8000000 in
theorem putMember_1 {nn mv mn : List UInt8} {ls : List AlB} {mk : Int} {ms : List Ex} {qa q4 : Option Addr} {ca c4 : Nat} {P : Nat → Prop} {w : World} (hg : GoodM (nn, 1, ls, .mk mk mv mn ms)) (ra : RdA P w ls (.slice qa ls.length ca)) (re : RdE P w (.mk mk mv mn ms) (.agg #[.int .i64 mk, .string (bstr mv), .string (bstr mn), .slice q4 ms.length c4])) (hP : ∀ b, P b → b < w.heap.size) : Calls Tryz.prog 35 #[.agg #[.string (bstr nn), .int .i64 1, .slice qa ls.length ca, .int .i64 mk, .string (bstr mv), .string (bstr mn), .slice q4 ms.length c4]] w (Owned w (putM (nn, 1, ls, .mk mk mv mn ms))) := by
  have hb0 : Below w.heap.size w (w.alloc (.cells #[.string (bstr nn), .int .i64 1, .slice qa ls.length ca, .int .i64 mk, .string (bstr mv), .string (bstr mn), .slice q4 ms.length c4] 66)) := (Below.refl _ _).alloc (Nat.le_refl _) _
  have HB0 := hiD hb0
  have HS0 : Hid (Arr (w.alloc (.cells #[.string (bstr nn), .int .i64 1, .slice qa ls.length ca, .int .i64 mk, .string (bstr mv), .string (bstr mn), .slice q4 ms.length c4] 66)) 66 w.heap.size [.string (bstr nn), .int .i64 1, .slice qa ls.length ca, .int .i64 mk, .string (bstr mv), .string (bstr mn), .slice q4 ms.length c4]) := Arr.new' _ _ _ _ rfl
  have HNL : Hid (nn.length ≤ 64) := name_len hg.1
  have HTN : Hid ((putS (bstr nn)).length ≤ 80) := by have h := name_len hg.1; have := putS_len (bstr nn) (by rw [bstr_size]; unfold lim64; simp only [] at h; omega); rw [bstr_size] at this; show _ ≤ _; simp only [] at h; omega
  have HTJ : Hid ((putS (bstr nn)).length + (put 1).length ≤ 140737488355328) := by have := HTN.out; have h2 : (put 1).length ≤ 10 := put_small _ (by decide); show _ ≤ _; omega
  obtain ⟨T, hT⟩ : ∃ T, T = putM (nn, 1, ls, .mk mk mv mn ms) := ⟨_, rfl⟩
  have HT : Hid (T.length ≤ 20000) := by rw [hT]; exact Nat.le_trans (putM_len hg) (by decide)
  have HTE := hiD hT
  rw [← hT]
  have HKL : Hid (ls.length ≤ 32) := by rcases hg.2 with h | h; exact h.2.2.1; exact absurd (show (1 : Int) = 2 from h.1) (by decide)
  have HGA0 : Hid (∀ a ∈ ls, GoodA a) := by rcases hg.2 with h | h; exact h.2.2.2.1; exact absurd (show (1 : Int) = 2 from h.1) (by decide)
  have HRA0 := hiD ra
  clear hT hg ra re hb0
  go_enter Tryz.func35, Tryz.ntmps35
  go_upto_region 1 with (fail)
  generalize w.alloc (.cells #[.string (bstr nn), .int .i64 1, .slice qa ls.length ca, .int .i64 mk, .string (bstr mv), .string (bstr mn), .slice q4 ms.length c4] 66) = w0 at HB0 HS0 ⊢
  refine wp_region_noPanic ?_
  refine wp_region_held_drew (S := fun W' => Arr W' 66 w.heap.size [.string (bstr nn), .int .i64 1, .slice qa ls.length ca, .int .i64 mk, .string (bstr mv), .string (bstr mn), .slice q4 ms.length c4]) (by kernel_rfl) (HS0.out.later (Below.refl _ _).drew) (fun hHeld => ?_)
  try simp only [Act.put]
  have hbd : Below w0.heap.size w0 w0.drew := (Below.refl _ _).drew
  have HBd := hiD (HB0.out.trans (hbd.mono HB0.out.size))
  have HSd := hiD (HS0.out.later hbd)
  clear HB0 HS0
  clear hbd
  generalize w0.drew = wd at hHeld HBd HSd ⊢
  refine wpAnyH_take (i := 0) (oi := ⟨some 6, _, _, _, _, _⟩) (v := .pointer (some ⟨w.heap.size, 0, none⟩)) rfl (by kernel_rfl) (by kernel_rfl) (by kernel_rfl) (fun _ _ _ h => h) (.inl ⟨by rfl, fun w' hSw => ?_⟩) hHeld ?_
  focus (skip; clear hHeld; go_simp)
  try simp only [Act.put, pz0, pz1, pz2]
  refine wpAnyH_take (i := 1) (oi := ⟨some 7, _, _, _, _, _⟩) (v := .string (bstr nn)) rfl (by kernel_rfl) (by kernel_rfl) (by kernel_rfl) (fun _ _ _ h => h) (.inl ⟨by rfl, fun w' hSw => ?_⟩) hHeld ?_
  focus (have a1 := hSw.cell 0; simp only [List.getElem?_cons_zero] at a1; clear hHeld; go_simp)
  try simp only [Act.put, pz0, pz1, pz2]
  refine wpAnyH_take (i := 3) (oi := ⟨some 9, _, _, _, _, _⟩) (v := .pointer (some ⟨w.heap.size, 1, none⟩)) rfl (by kernel_rfl) (by kernel_rfl) (by kernel_rfl) (fun _ _ _ h => h) (.inl ⟨by rfl, fun w' hSw => ?_⟩) hHeld ?_
  focus (skip; clear hHeld; go_simp)
  try simp only [Act.put, pz0, pz1, pz2]
  refine wpAnyH_take (i := 4) (oi := ⟨some 10, _, _, _, _, _⟩) (v := .int .i64 1) rfl (by kernel_rfl) (by kernel_rfl) (by kernel_rfl) (fun _ _ _ h => h) (.inl ⟨by rfl, fun w' hSw => ?_⟩) hHeld ?_
  focus (have a1 := hSw.cell 1; simp only [List.getElem?_cons_zero, List.getElem?_cons_succ] at a1; clear hHeld; go_simp)
  try simp only [Act.put, pz0, pz1, pz2]
  refine wpAnyH_ready (rs := [2]) (by kernel_rfl) (by simp) ?_
  refine AllReadyH.cons (o := ⟨some 8, _, _, _, _, _⟩) rfl (fun K' hK' => ?_) AllReadyH.nil
  refine stepw_call (by rfl) ?_ (putS_text nn (by have := HNL.out; omega) wd) ?_
  focus go_simp
  rintro vx w1 ⟨ox, bbx⟩
  have HB1 := hiD (HBd.out.trans (bbx.mono HBd.out.size))
  have HS1 := hiD (HSd.out.later bbx)
  have HRx1 := hiD (Rd.of_own ox)
  obtain ⟨qx, cx, rfl⟩ := own_form ox
  clear ox bbx
  clear HBd HSd
  refine hK'.out _ _ HS1.out (fun _ => ?_)
  clear hK' K' hHeld
  have hHeld := HS1.out
  try simp only [Act.put, pz0, pz1, pz2]
  refine wpAnyH_ready (rs := [5]) (by kernel_rfl) (by simp) ?_
  refine AllReadyH.cons (o := ⟨some 11, _, _, _, _, _⟩) rfl (fun K' hK' => ?_) AllReadyH.nil
  refine stepw_call (by rfl) ?_ (putCount_any 1 (by decide) w1) ?_
  focus go_simp
  rintro vy w2 ⟨oy, bby⟩
  have HB2 := hiD (HB1.out.trans (bby.mono HB1.out.size))
  have HS2 := hiD (HS1.out.later bby)
  have HRx2 := hiD ((HRx1.out.below bby (Nat.le_refl _)).mono bby.size)
  clear HRx1
  have HRy2 := hiD (Rd.of_own oy)
  obtain ⟨qy, cy, rfl⟩ := own_form oy
  clear oy bby
  clear HB1 HS1
  refine hK'.out _ _ HS2.out (fun _ => ?_)
  clear hK' K' hHeld
  have hHeld := HS2.out
  try simp only [Act.put, pz0, pz1, pz2]
  refine wpAnyH_ready (rs := [6]) (by kernel_rfl) (by simp) ?_
  refine AllReadyH.cons (o := ⟨some 12, _, _, _, _, _⟩) rfl (fun K' hK' => ?_) AllReadyH.nil
  go_simp
  have hbb : Below w2.heap.size w2 (w2.alloc (.cells #[.slice qx (putS (bstr nn)).length cx, .slice qy (put 1).length cy] 22)) := (Below.refl _ _).alloc (Nat.le_refl _) _
  have HBs := hiD (HB2.out.trans (hbb.mono HB2.out.size))
  have HSs := hiD (HS2.out.later hbb)
  have HRA : Hid (RdAll (w2.alloc (.cells #[.slice qx (putS (bstr nn)).length cx, .slice qy (put 1).length cy] 22)).heap.size (w2.alloc (.cells #[.slice qx (putS (bstr nn)).length cx, .slice qy (put 1).length cy] 22)) (some ⟨w2.heap.size, 0, none⟩) [putS (bstr nn), put 1]) := rd_two HRx2.out HRy2.out
  clear hbb HRx2 HRy2
  clear HB2 HS2
  obtain ⟨gs, hgs⟩ : ∃ g, g = w2.heap.size := ⟨_, rfl⟩
  rw [← hgs] at HRA ⊢
  generalize (w2.alloc (.cells #[.slice qx (putS (bstr nn)).length cx, .slice qy (put 1).length cy] 22)) = ws at HRA HBs HSs ⊢
  clear hgs
  have HWW : Hid (w.heap.size + 1 ≤ ws.heap.size) := HSs.out.lt
  refine hK'.out _ _ HSs.out (fun _ => ?_)
  clear hK' K' hHeld
  have hHeld := HSs.out
  try simp only [Act.put, pz0, pz1, pz2]
  refine wpAnyH_ready (rs := [7]) (by kernel_rfl) (by simp) ?_
  refine AllReadyH.cons (o := ⟨some 13, _, _, _, _, _⟩) rfl (fun K' hK' => ?_) AllReadyH.nil
  refine stepw_call (by rfl) ?_ (join_any (cap := 2) HRA.out (Nat.le_refl _) (by show 2 ≤ 140737488355328; decide) (by have := HTJ.out; simpa [total] using this)) ?_
  focus go_simp
  rintro vj wj ⟨oj, bj⟩
  have HBj := hiD (HBs.out.trans (bj.mono HBs.out.size))
  have HSj := hiD (HSs.out.later bj)
  have HOJ : Hid (wj.ownsRow ws.heap.size 5 1 vj ((putS (bstr nn)) ++ (put 1)).length (bvs ((putS (bstr nn)) ++ (put 1)))) := by show World.ownsRow _ _ _ _ _ _ _; simpa using oj
  have HSJ : Hid (ws.heap.size ≤ wj.heap.size) := bj.size
  clear oj bj HRA
  clear HBs HSs
  refine hK'.out _ _ HSj.out (fun _ => ?_)
  clear hK' K' hHeld
  have hHeld := HSj.out
  try simp only [Act.put, pz0, pz1, pz2]
  refine wpAnyH_ready (rs := [8]) (by kernel_rfl) (by simp) ?_
  refine AllReadyH.cons (o := ⟨some 3, _, _, _, _, _⟩) rfl (fun K' hK' => ?_) AllReadyH.nil
  go_simp
  obtain ⟨qj, cj, rfl⟩ := own_form HOJ.out
  obtain ⟨A, hA⟩ : ∃ A, A = (putS (bstr nn)) ++ (put 1) := ⟨_, rfl⟩
  have hAL : (putS (bstr nn)).length + (put 1).length = A.length := by rw [hA, List.length_append]
  have HO : Hid (wj.ownsRow (w.heap.size + 1) 5 1 (.slice qj A.length cj) A.length (bvs A)) := by show World.ownsRow _ _ _ _ _ _ _; rw [hA]; exact own_le HOJ.out HWW.out
  have HQ : Hid (T = A ++ (put ls.length ++ (ls.map putA).flatten)) := by show _ = _; rw [HTE.out, hA]; simp [putM]
  have HAL := hiD (show A.length ≤ 1000 by have := HTN.out; have h2 : (put 1).length ≤ 10 := put_small _ (by decide); rw [← hAL]; omega)
  try rw [List.length_append]
  rw [hAL]
  have HB := HBj
  have HS := HSj
  clear hA hAL HOJ HSJ HTE HBj HSj
  refine hK'.out _ _ HS.out (fun _ => ?_)
  clear hK' K' hHeld
  try simp only [Act.put, pz0, pz1, pz2]
  refine wpAnyH_done (by kernel_rfl) ?_ _
  refine NoPanic.normal ?_
  obtain ⟨x0, y0, x1, y1, x2, y2, x3, y3, x4, y4, x5, y5, x6, y6⟩ := HS.out.all7
  go_wp2_with fail
  refine (putCount_any ls.length (by have := HKL.out; omega) wj).mono ?_
  rintro e wa ⟨vm, rfl, om, bm⟩
  have HOA := hiD (own_below HO.out bm)
  have HBA := hiD (HB.out.trans (bm.mono HB.out.size))
  have HAA := hiD (HS.out.later bm)
  have HRM := hiD (Rd.of_own om)
  obtain ⟨qm, cm, rfl⟩ := own_form om
  have HPL : Hid ((put ls.length).length ≤ 10) := put_small _ (by have := HKL.out; unfold lim64; omega)
  have HLN : Hid (A.length + (put ls.length).length ≤ 140737488355328) := app_len (Nat.le_trans HAL.out (by decide)) (Nat.le_trans HPL.out (by decide))
  have HWB : Hid (w.heap.size + 1 ≤ wa.heap.size) := HAA.out.lt
  clear om bm HO HB HS x0 x1 x2 x3 x4 x5 x6 y0 y1 y2 y3 y4 y5 y6
  go_wp2_with (at_builtin; refine app_bytes rfl _ _ rfl rfl HOA.out rfl HRM.out HLN.out HWB.out ?_)
  intro vn wn hown hg
  have HB2 := hiD (below_grown HBA.out HBA.out.size (Nat.le_succ _) HOA.out hg)
  have HM2 : Hid (Arr wn 66 w.heap.size [.string (bstr nn), .int .i64 1, .slice qa ls.length ca, .int .i64 mk, .string (bstr mv), .string (bstr mn), .slice q4 ms.length c4]) := (hg.block _ HAA.out.lt (fun e => by have := (HOA.out.lt _ e.symm).1; omega)).trans HAA.out
  obtain ⟨qn, cn, rfl⟩ := own_form hown
  obtain ⟨A2, hA⟩ : ∃ x, x = A ++ put ls.length := ⟨_, rfl⟩
  have hAL : A.length + (put ls.length).length = A2.length := by rw [hA, List.length_append]
  have HO2 : Hid (wn.ownsRow (w.heap.size + 1) 5 1 (.slice qn A2.length cn) A2.length (bvs A2)) := by show World.ownsRow _ _ _ _ _ _ _; rw [hA]; simpa using hown
  have HQ2 : Hid (T = A2 ++ ((ls.drop 0).map putA).flatten) := by show _ = _; rw [HQ.out, hA]; simp
  rw [hAL]
  clear hAL hown hg HOA HBA HAA HRM HLN HWB HPL hA HQ HAL
  obtain ⟨x0, y0, x1, y1, x2, y2, x3, y3, x4, y4, x5, y5, x6, y6⟩ := HM2.out.all7
  go_wp2_with fail
  clear x0 x1 x2 x3 x4 x5 x6 y0 y1 y2 y3 y4 y5 y6
  go_loopw [3, 31] (fun bv iv wr => ∃ (i : Nat) (A : List UInt8) (qb : Option Addr) (cb : Nat), i ≤ ls.length ∧ iv = .int .i64 (i : Nat) ∧ bv = .slice qb A.length cb ∧ Hid (wr.ownsRow (w.heap.size + 1) 5 1 (.slice qb A.length cb) A.length (bvs A)) ∧ Hid (Below w.heap.size w wr) ∧ Hid (Arr wr 66 w.heap.size [.string (bstr nn), .int .i64 1, .slice qa ls.length ca, .int .i64 mk, .string (bstr mv), .string (bstr mn), .slice q4 ms.length c4]) ∧ Hid (T = A ++ ((ls.drop i).map putA).flatten)) (fun _ iv _ => ls.length - (intOf iv).toNat)
  case atStart => exact ⟨0, A2, qn, cn, Nat.zero_le _, rfl, rfl, HO2.out, HB2.out, HM2.out, HQ2.out⟩
  case round =>
    obtain ⟨i, A, qb, cb, hi, rfl, rfl, HO, HB, HM, HQ⟩ := hrel
    by_cases hlt : i < ls.length
    · have hlt' : (i : Int) < ls.length := by omega
      have hi0 : (0 : Int) ≤ i := by omega
      have hw : wrap64 ((i : Int) + 1) = (i : Int) + 1 := by unfold wrap64; have := HKL.out; omega
      obtain ⟨ba, oa, hqa, hba, e1, e2⟩ := HRA0.out.at hlt
      have E1 := (HB.out.cell (p := ⟨ba, oa + i * 2, none⟩) (hP _ hba)).trans e1
      have E2 := (HB.out.cell (p := ⟨ba, oa + i * 2 + 1, none⟩) (hP _ hba)).trans e2
      obtain ⟨al, hal⟩ : ∃ al, al = ls.getD i ([], []) := ⟨_, rfl⟩
      rw [← hal] at E1 E2
      have hmem : al ∈ ls := by rw [hal, List.getD_eq_getElem?_getD, List.getElem?_eq_getElem hlt]; exact List.getElem_mem hlt
      have HGD := hiD (HGA0.out al hmem)
      have HQ2 : Hid (T = A ++ (putA al ++ ((ls.drop (i + 1)).map putA).flatten)) := by
        show _ = _
        rw [HQ.out, List.drop_eq_getElem_cons hlt, List.map_cons, List.flatten_cons, hal, List.getD_eq_getElem?_getD, List.getElem?_eq_getElem hlt]; rfl
      obtain ⟨al1, al2⟩ := al
      have HTA : Hid ((putS (bstr al1)).length ≤ 80 ∧ (putS (bstr al2)).length ≤ 80) := putA_len HGD.out
      have HTJ2 : Hid ((putS (bstr al1)).length + (putS (bstr al2)).length ≤ 140737488355328) := by have := HTA.out; show _ ≤ _; omega
      have HAN : Hid (al1.length ≤ 64 ∧ al2.length ≤ 64) := ⟨name_len HGD.out.1, by rcases HGD.out.2 with h | h; rw [show al2 = [] from h]; exact Nat.zero_le _; exact name_len h⟩
      have HAL : Hid (A.length ≤ 100000) := by have := HT.out; rw [HQ2.out, List.length_append] at this; show _ ≤ _; omega
      have HLT : Hid (i < ls.length) := hlt
      subst hqa
      dsimp only [] at E1 E2
      have hbq : Below wr.heap.size wr (wr.alloc (.cells #[.string (bstr al1), .string (bstr al2)] 70)) := (Below.refl _ _).alloc (Nat.le_refl _) _
      have HOq := hiD (own_below HO.out hbq)
      have HBq := hiD (HB.out.trans (hbq.mono HB.out.size))
      have HMq := hiD (HM.out.later hbq)
      have HSq : Hid (Arr (wr.alloc (.cells #[.string (bstr al1), .string (bstr al2)] 70)) 70 wr.heap.size [.string (bstr al1), .string (bstr al2)]) := Arr.new' _ _ _ _ rfl
      have HGA : Hid (∀ g, (Value.slice qb A.length cb).ownBlock = some g → g < wr.heap.size) := fun g hg => (HO.out.lt g hg).2
      clear hal hmem HGD e1 e2 hba HO HB HM HQ hbq hlt
      go_upto_region 8 with (fail)
      obtain ⟨gA, hgA⟩ : ∃ g, g = wr.heap.size := ⟨_, rfl⟩
      rw [← hgA] at HSq HGA ⊢
      generalize wr.alloc (.cells #[.string (bstr al1), .string (bstr al2)] 70) = wq at HOq HBq HMq HSq ⊢
      clear hgA E1 E2
      refine wp_region_noPanic ?_
      refine wp_region_held_drew (S := fun W' => Arr W' 70 gA [.string (bstr al1), .string (bstr al2)]) (by kernel_rfl) (HSq.out.later (Below.refl _ _).drew) (fun hHeld => ?_)
      try simp only [Act.put]
      have hbd : Below wq.heap.size wq wq.drew := (Below.refl _ _).drew
      have HBd := hiD (HBq.out.trans (hbd.mono HBq.out.size))
      have HSd := hiD (HSq.out.later hbd)
      have HOd := hiD (own_below HOq.out hbd)
      have HMd := hiD (HMq.out.later hbd)
      clear HBq HSq HOq HMq
      clear hbd
      generalize wq.drew = wd at hHeld HBd HSd HOd HMd ⊢
      refine wpAnyH_take (i := 0) (oi := ⟨some 35, _, _, _, _, _⟩) (v := .slice qb A.length cb) rfl (by kernel_rfl) (by kernel_rfl) (by kernel_rfl) (fun _ _ _ h => h) (.inl ⟨by rfl, fun w' hSw => ?_⟩) hHeld ?_
      focus (skip; clear hHeld; go_simp)
      try simp only [Act.put, pz0, pz1, pz2]
      refine wpAnyH_take (i := 1) (oi := ⟨some 36, _, _, _, _, _⟩) (v := .pointer (some ⟨gA, 0, none⟩)) rfl (by kernel_rfl) (by kernel_rfl) (by kernel_rfl) (fun _ _ _ h => h) (.inl ⟨by rfl, fun w' hSw => ?_⟩) hHeld ?_
      focus (skip; clear hHeld; go_simp)
      try simp only [Act.put, pz0, pz1, pz2]
      refine wpAnyH_take (i := 2) (oi := ⟨some 37, _, _, _, _, _⟩) (v := .string (bstr al1)) rfl (by kernel_rfl) (by kernel_rfl) (by kernel_rfl) (fun _ _ _ h => h) (.inl ⟨by rfl, fun w' hSw => ?_⟩) hHeld ?_
      focus (have a1 := hSw.cell 0; simp only [List.getElem?_cons_zero] at a1; clear hHeld; go_simp)
      try simp only [Act.put, pz0, pz1, pz2]
      refine wpAnyH_take (i := 4) (oi := ⟨some 39, _, _, _, _, _⟩) (v := .pointer (some ⟨gA, 1, none⟩)) rfl (by kernel_rfl) (by kernel_rfl) (by kernel_rfl) (fun _ _ _ h => h) (.inl ⟨by rfl, fun w' hSw => ?_⟩) hHeld ?_
      focus (skip; clear hHeld; go_simp)
      try simp only [Act.put, pz0, pz1, pz2]
      refine wpAnyH_take (i := 5) (oi := ⟨some 40, _, _, _, _, _⟩) (v := .string (bstr al2)) rfl (by kernel_rfl) (by kernel_rfl) (by kernel_rfl) (fun _ _ _ h => h) (.inl ⟨by rfl, fun w' hSw => ?_⟩) hHeld ?_
      focus (have a1 := hSw.cell 1; simp only [List.getElem?_cons_zero, List.getElem?_cons_succ] at a1; clear hHeld; go_simp)
      try simp only [Act.put, pz0, pz1, pz2]
      refine wpAnyH_ready (rs := [3]) (by kernel_rfl) (by simp) ?_
      refine AllReadyH.cons (o := ⟨some 38, _, _, _, _, _⟩) rfl (fun K' hK' => ?_) AllReadyH.nil
      refine stepw_call (by rfl) ?_ (putS_text al1 (by have := HAN.out; omega) wd) ?_
      focus go_simp
      rintro vx w1 ⟨ox, bbx⟩
      have HB1 := hiD (HBd.out.trans (bbx.mono HBd.out.size))
      have HS1 := hiD (HSd.out.later bbx)
      have HO1 := hiD (own_below HOd.out bbx)
      have HM1 := hiD (HMd.out.later bbx)
      have HRx1 := hiD (Rd.of_own ox)
      obtain ⟨qx, cx, rfl⟩ := own_form ox
      clear ox bbx
      clear HBd HSd HOd HMd
      refine hK'.out _ _ HS1.out (fun _ => ?_)
      clear hK' K' hHeld
      have hHeld := HS1.out
      try simp only [Act.put, pz0, pz1, pz2]
      refine wpAnyH_ready (rs := [6]) (by kernel_rfl) (by simp) ?_
      refine AllReadyH.cons (o := ⟨some 41, _, _, _, _, _⟩) rfl (fun K' hK' => ?_) AllReadyH.nil
      refine stepw_call (by rfl) ?_ (putS_text al2 (by have := HAN.out; omega) w1) ?_
      focus go_simp
      rintro vy w2 ⟨oy, bby⟩
      have HB2 := hiD (HB1.out.trans (bby.mono HB1.out.size))
      have HS2 := hiD (HS1.out.later bby)
      have HO2 := hiD (own_below HO1.out bby)
      have HM2 := hiD (HM1.out.later bby)
      have HRx2 := hiD ((HRx1.out.below bby (Nat.le_refl _)).mono bby.size)
      clear HRx1
      have HRy2 := hiD (Rd.of_own oy)
      obtain ⟨qy, cy, rfl⟩ := own_form oy
      clear oy bby
      clear HB1 HS1 HO1 HM1
      refine hK'.out _ _ HS2.out (fun _ => ?_)
      clear hK' K' hHeld
      have hHeld := HS2.out
      try simp only [Act.put, pz0, pz1, pz2]
      refine wpAnyH_ready (rs := [7]) (by kernel_rfl) (by simp) ?_
      refine AllReadyH.cons (o := ⟨some 42, _, _, _, _, _⟩) rfl (fun K' hK' => ?_) AllReadyH.nil
      go_simp
      have hbb : Below w2.heap.size w2 (w2.alloc (.cells #[.slice qx (putS (bstr al1)).length cx, .slice qy (putS (bstr al2)).length cy] 22)) := (Below.refl _ _).alloc (Nat.le_refl _) _
      have HBs := hiD (HB2.out.trans (hbb.mono HB2.out.size))
      have HSs := hiD (HS2.out.later hbb)
      have HOs := hiD (own_below HO2.out hbb)
      have HMs := hiD (HM2.out.later hbb)
      have HRA : Hid (RdAll (w2.alloc (.cells #[.slice qx (putS (bstr al1)).length cx, .slice qy (putS (bstr al2)).length cy] 22)).heap.size (w2.alloc (.cells #[.slice qx (putS (bstr al1)).length cx, .slice qy (putS (bstr al2)).length cy] 22)) (some ⟨w2.heap.size, 0, none⟩) [putS (bstr al1), putS (bstr al2)]) := rd_two HRx2.out HRy2.out
      clear hbb HRx2 HRy2
      clear HB2 HS2 HO2 HM2
      obtain ⟨gs, hgs⟩ : ∃ g, g = w2.heap.size := ⟨_, rfl⟩
      rw [← hgs] at HRA ⊢
      generalize (w2.alloc (.cells #[.slice qx (putS (bstr al1)).length cx, .slice qy (putS (bstr al2)).length cy] 22)) = ws at HRA HBs HSs HOs HMs ⊢
      clear hgs
      refine hK'.out _ _ HSs.out (fun _ => ?_)
      clear hK' K' hHeld
      have hHeld := HSs.out
      try simp only [Act.put, pz0, pz1, pz2]
      refine wpAnyH_ready (rs := [8]) (by kernel_rfl) (by simp) ?_
      refine AllReadyH.cons (o := ⟨some 43, _, _, _, _, _⟩) rfl (fun K' hK' => ?_) AllReadyH.nil
      refine stepw_call (by rfl) ?_ (join_any (cap := 2) HRA.out (Nat.le_refl _) (by show 2 ≤ 140737488355328; decide) (by have := HTJ2.out; simpa [total] using this)) ?_
      focus go_simp
      rintro vj wj ⟨oj, bj⟩
      have HBj := hiD (HBs.out.trans (bj.mono HBs.out.size))
      have HSj := hiD (HSs.out.later bj)
      have HOj := hiD (own_below HOs.out bj)
      have HMj := hiD (HMs.out.later bj)
      have HOJ : Hid (wj.ownsRow ws.heap.size 5 1 vj ((putS (bstr al1)) ++ (putS (bstr al2))).length (bvs ((putS (bstr al1)) ++ (putS (bstr al2))))) := by show World.ownsRow _ _ _ _ _ _ _; simpa using oj
      have HSJ : Hid (ws.heap.size ≤ wj.heap.size) := bj.size
      clear oj bj HRA
      clear HBs HSs HOs HMs
      refine hK'.out _ _ HSj.out (fun _ => ?_)
      clear hK' K' hHeld
      have hHeld := HSj.out
      try simp only [Act.put, pz0, pz1, pz2]
      refine wpAnyH_ready (rs := [9]) (by kernel_rfl) (by simp) ?_
      refine AllReadyH.cons (o := ⟨some 44, _, _, _, _, _⟩) rfl (fun K' hK' => ?_) AllReadyH.nil
      obtain ⟨qj, cj, rfl⟩ := own_form HOJ.out
      obtain ⟨J, hJ⟩ : ∃ J, J = (putS (bstr al1)) ++ (putS (bstr al2)) := ⟨_, rfl⟩
      have HJL := hiD (show J.length ≤ 1000 by have := HTA.out; rw [hJ, List.length_append]; omega)
      have HJP := hiD (show 0 < J.length by rw [hJ, List.length_append]; have h9 : 1 ≤ (putS (bstr al1)).length := (by unfold putS; rw [List.length_append]; have := put_pos (bstr al1).size; omega); omega)
      rw [← hJ] at HOJ
      have HRJ := hiD (Rd.of_own HOJ.out)
      try rw [← List.length_append, ← hJ]
      try rw [← hJ]
      refine stepA rfl (.tmp 35) (.tmp 43) rfl rfl HOj.out rfl HRJ.out HJP.out (app_len (Nat.le_trans HAL.out (by decide)) (Nat.le_trans HJL.out (by decide))) (by have := HMj.out.lt; omega) ?_
      intro vn wn hown hg
      have HBn := hiD (below_grown HBj.out HBj.out.size (Nat.le_succ _) HOj.out hg)
      have HMn : Hid (Arr wn 66 w.heap.size [.string (bstr nn), .int .i64 1, .slice (some ⟨ba, oa, none⟩) ls.length ca, .int .i64 mk, .string (bstr mv), .string (bstr mn), .slice q4 ms.length c4]) := (hg.block _ HMj.out.lt (fun e => by have := (HOj.out.lt _ e.symm).1; omega)).trans HMj.out
      have HSn : Hid (Arr wn 70 gA [.string (bstr al1), .string (bstr al2)]) := (hg.block _ HSj.out.lt (fun e => by have := HGA.out _ e.symm; omega)).trans HSj.out
      obtain ⟨qn, cn, rfl⟩ := own_form hown
      obtain ⟨A2, hA⟩ : ∃ A2, A2 = A ++ J := ⟨_, rfl⟩
      have HOn : Hid (wn.ownsRow (w.heap.size + 1) 5 1 (.slice qn A2.length cn) A2.length (bvs A2)) := by show World.ownsRow _ _ _ _ _ _ _; rw [hA]; simpa using hown
      have HQn : Hid (T = A2 ++ ((ls.drop (i + 1)).map putA).flatten) := by show _ = _; rw [hA, hJ, HQ2.out]; simp [putA]
      have hAL2 : (A ++ J).length = A2.length := by rw [hA]
      rw [hAL2]
      clear hown hg hA hAL2 hJ HOJ HRJ HOj HBj HMj HSj HSJ
      refine hK'.out _ _ HSn.out (fun _ => ?_)
      clear hK' K' hHeld
      have hHeld := HSn.out
      try simp only [Act.put, pz0, pz1, pz2]
      refine wpAnyH_ready (rs := [10]) (by kernel_rfl) (by simp) ?_
      refine AllReadyH.cons (o := ⟨some 3, _, _, _, _, _⟩) rfl (fun K' hK' => ?_) AllReadyH.nil
      go_simp
      refine hK'.out _ _ HSn.out (fun _ => ?_)
      clear hK' K' hHeld
      try simp only [Act.put, pz0, pz1, pz2]
      refine wpAnyH_done (by kernel_rfl) ?_ _
      refine NoPanic.normal ?_
      go_wp2_with fail
      go_roundw
      case rel => exact ⟨i + 1, A2, qn, cn, HLT.out, by go_num, rfl, HOn.out, HBn.out, HMn.out, HQn.out⟩
      case measure => first | exact meas HLT.out (Nat.le_trans HKL.out (by decide)) | exact meas' HLT.out
    · have hlt' : ¬ (i : Int) < ls.length := by omega
      have hd : ls.drop i = [] := List.drop_eq_nil_of_le (by omega)
      rw [hd] at HQ
      have HQ9 : Hid (T = A) := by show _ = _; rw [HQ.out]; simp
      go_wp2_with fail
      go_ret
      rw [HQ9.out]
      exact ⟨_, rfl, own_le HO.out (Nat.le_succ _), HB.out⟩
theorem putD_len {d : DefB} (h : GoodD d) : (putD d).length ≤ 1000000 := by
 obtain ⟨n, l⟩ := d
 obtain ⟨h1, h2, h3⟩ := h
 have hn : n.length ≤ 64 := name_len h1
 have a1 : (putS (bstr n)).length ≤ 80 := by have := putS_len (bstr n) (by rw [bstr_size]; unfold lim64; omega); rw [bstr_size] at this; omega
 have h2 : l.length ≤ 64 := h2
 have a2 : (put l.length).length ≤ 10 := put_small _ (by unfold lim64; omega)
 have a3 : ∀ k : List MemB, (∀ m ∈ k, GoodM m) → ((k.map putM).flatten).length ≤ 14000 * k.length := by
  intro k
  induction k with
  | nil => intro _; exact Nat.le_refl _
  | cons m r ih =>
   intro hk
   have b1 := putM_len (hk m (by simp))
   have b2 := ih fun x hx => hk x (by simp [hx])
   rw [List.map_cons, List.flatten_cons, List.length_append, List.length_cons]
   omega
 have a4 := a3 l h3
 unfold putD
 simp only [List.length_append]
 omega
theorem putSc_len {l : List DefB} (h : GoodS l) : (putSc l).length ≤ 100000000 := by
 have h2 : l.length ≤ 64 := h.1
 have a2 : (put l.length).length ≤ 10 := put_small _ (by unfold lim64; omega)
 have a3 : ∀ k : List DefB, (∀ m ∈ k, GoodD m) → ((k.map putD).flatten).length ≤ 1000000 * k.length := by
  intro k
  induction k with
  | nil => intro _; exact Nat.le_refl _
  | cons m r ih =>
   intro hk
   have b1 := putD_len (hk m (by simp))
   have b2 := ih fun x hx => hk x (by simp [hx])
   rw [List.map_cons, List.flatten_cons, List.length_append, List.length_cons]
   omega
 have a4 := a3 l h.2
 unfold putSc
 rw [List.length_append]
 omega
theorem len_of2 {T A m r : List UInt8} (h : T = A ++ (m ++ r)) (hT : T.length ≤ 100000000) : A.length + m.length ≤ 140737488355328 := by
 rw [h] at hT
 simp only [List.length_append] at hT
 omega
def OwnT (W : World) (l : List UInt8) (r : Ending) (w' : World) : Prop := ∃ v, r = .returned (.tuple #[v, .bool true]) ∧ w'.ownsRow W.heap.size 5 1 v l.length (bvs l) ∧ Below W.heap.size W w'
theorem putMem_any {m : MemB} {cs : List Value} {P : Nat → Prop} {w : World} (hg : GoodM m) (h : rdMem P w m cs) (hP : ∀ b, P b → b < w.heap.size) : Calls Tryz.prog 35 #[.agg cs.toArray] w (Owned w (putM m)) := by
 obtain ⟨n, k, ls, mk, mv, mn, ms⟩ := m
 obtain ⟨vt, v3, v4, v5, v6, rfl, ha, he⟩ := h
 have ha2 := ha
 obtain ⟨q, c, rfl, _⟩ := ha
 have he2 := he
 obtain ⟨q4, c4, hv, _, _⟩ := RdE.form he
 unfold exv at hv
 simp only [Value.agg.injEq, Array.mk.injEq, List.cons.injEq, and_true] at hv
 obtain ⟨rfl, rfl, rfl, rfl⟩ := hv
 rcases hg.2 with h | h
 ·obtain rfl : k = 1 := h.1
  exact putMember_1 hg ha2 he2 hP
 ·obtain rfl : k = 2 := h.1
  exact putMember_2 hg ha2 he2 hP
theorem rdMem_below {P : Nat → Prop} {w w' : World} {m : MemB} {cs : List Value} (h : rdMem P w m cs) (hb : Below w.heap.size w w') (hP : ∀ b, P b → b < w.heap.size) : rdMem P w' m cs := rdMem_keep h hb hP
theorem drop_cons_of {α : Type} {l : List α} {i : Nat} {d : α} (h : l[i]? = some d) : l.drop i = d :: l.drop (i + 1) := by
 obtain ⟨hi, rfl⟩ := List.getElem?_eq_some_iff.1 h
 exact List.drop_eq_getElem_cons hi
theorem arr_grown {w w' : World} {base n : Nat} {v : Value} {l : List UInt8} {t : TypeId} {g : Nat} {cs : List Value} (hg : w.grownBy w' v.ownBlock) (ho : w.ownsRow base 5 1 v n (bvs l)) (hA : Arr w t g cs) (ht : t ≠ 5) : Arr w' t g cs := by
 refine (hg.block g hA.lt fun e => ?_).trans hA
 rcases ho.2 with ⟨rfl, _⟩ | ⟨k, cap, cur, rfl, _, hk, _⟩
 ·cases e
 ·obtain rfl : g = k := Option.some.inj e
  have h2 : w.heap[g]? = some (.cells cs.toArray t (0, 0)) := hA
  rw [hk] at h2
  injection h2 with h3
  injection h3 with _ h4
  exact ht h4.symm
set_option maxRecDepth 100000 in
set_option maxHeartbeats 8000000 in
theorem cPut_any (l : List DefB) (q : Option Addr) (c : Nat) (P : Nat → Prop) (w : World) (h : RdK kdDef P w l (.slice q l.length c)) (hP : ∀ b, P b → b < w.heap.size) (hg : GoodS l) (hr : ResT w) : Calls Tryz.prog 12 #[.agg #[.slice q l.length c]] w (OwnT w (putSc l)) := by
 have hb0 : Below w.heap.size w (w.alloc (.cells #[.slice q l.length c] 26)) := (Below.refl _ _).alloc (Nat.le_refl _) _
 have HB00 := hiD hb0
 have HA00 : Hid (Arr (w.alloc (.cells #[.slice q l.length c] 26)) 26 w.heap.size [.slice q l.length c]) := Arr.new' _ _ _ _ rfl
 have HFM := hiD (form_any l q c P (w.alloc (.cells #[.slice q l.length c] 26)) (rdK_keep h hb0 hP) (lt_keep hb0 hP) hg (hr.below hb0 hr.lt))
 have HRK := hiD h
 have HG := hiD hg
 have HKL : Hid (l.length ≤ 64) := hg.1
 obtain ⟨T, hT⟩ : ∃ T, T = putSc l := ⟨_, rfl⟩
 have HT : Hid (T.length ≤ 100000000) := by rw [hT]; exact putSc_len hg
 have HQ1 : Hid (T = put l.length ++ ((l.drop 0).map putD).flatten) := by show _ = _; rw [hT]; simp [putSc]
 rw [← hT]
 clear hT h hg hr hb0
 go_enter Tryz.func12, Tryz.ntmps12
 go_upto_region 1 with (fail)
 generalize w.alloc (.cells #[.slice q l.length c] 26) = w0 at HB00 HA00 HFM ⊢
 obtain ⟨x0, y0⟩ := HA00.out.all1
 go_wp2_with fail
 refine HFM.out.mono ?_
 rintro e wf ⟨rfl, bf⟩
 have HB0 := hiD (HB00.out.trans (bf.mono HB00.out.size))
 have HA0 := hiD (HA00.out.later bf)
 clear bf HB00 HA00 HFM x0 y0
 obtain ⟨x0, y0⟩ := HA0.out.all1
 go_wp2_with fail
 refine (putCount_any l.length (by have := HKL.out; omega) wf).mono ?_
 rintro e w1 ⟨v1, rfl, o1, b1⟩
 have HB1 := hiD (HB0.out.trans (b1.mono HB0.out.size))
 have HA1 := hiD (HA0.out.later b1)
 obtain ⟨q1, c1, rfl⟩ := own_form o1
 obtain ⟨A1, hA⟩ : ∃ x, x = put l.length := ⟨_, rfl⟩
 rw [← hA] at o1 HQ1 ⊢
 have HO1 : Hid (w1.ownsRow (w.heap.size + 1) 5 1 (.slice q1 A1.length c1) A1.length (bvs A1)) := own_le o1 HA0.out.lt
 clear o1 b1 HB0 HA0 hA x0 y0
 obtain ⟨x0, y0⟩ := HA1.out.all1
 go_wp2_with fail
 clear x0 y0
 go_loopw [4, 19] (fun bv iv wr => ∃ (i : Nat) (A : List UInt8) (qb : Option Addr) (cb : Nat), i ≤ l.length ∧ iv = .int .i64 (i : Nat) ∧ bv = .slice qb A.length cb ∧ Hid (wr.ownsRow (w.heap.size + 1) 5 1 (.slice qb A.length cb) A.length (bvs A)) ∧ Hid (Below w.heap.size w wr) ∧ Hid (Arr wr 26 w.heap.size [.slice q l.length c]) ∧ Hid (T = A ++ ((l.drop i).map putD).flatten)) (fun _ iv _ => l.length - (intOf iv).toNat)
 case atStart => exact ⟨0, A1, q1, c1, Nat.zero_le _, rfl, rfl, HO1.out, HB1.out, HA1.out, HQ1.out⟩
 case round =>
  obtain ⟨i, A2, q2, c2, hi, rfl, rfl, HO2x, HB2x, HA2x, HQ2x⟩ := hrel
  by_cases hlt : i < l.length
  ·have hlt' : (i : Int) < l.length := by omega
   have hi0 : (0 : Int) ≤ i := by omega
   have hw : wrap64 ((i : Int) + 1) = (i : Int) + 1 := by unfold wrap64; have := HKL.out; omega
   have HLI : Hid (i < l.length) := hlt
   obtain ⟨d, hd⟩ : ∃ d, l[i]? = some d := ⟨_, List.getElem?_eq_getElem hlt⟩
   obtain ⟨db, do_, a, hq, hPd, ⟨vd, rfl, hrd⟩, hcell⟩ := RdK.at HRK.out hd
   have HGD : Hid (GoodD d) := HG.out.2 d (List.mem_of_getElem? hd)
   have E1 := (HB2x.out.cell (p := ⟨db, do_ + i * 2, none⟩) (hP _ hPd)).trans (hcell 0 _ rfl)
   have E2 := (HB2x.out.cell (p := ⟨db, do_ + i * 2 + 1, none⟩) (hP _ hPd)).trans (hcell 1 _ rfl)
   have HQ2y : Hid (T = A2 ++ (putD d ++ ((l.drop (i + 1)).map putD).flatten)) := by
    show _ = _
    rw [HQ2x.out, drop_cons_of hd, List.map_cons, List.flatten_cons]
   obtain ⟨dn, dl⟩ := d
   have hrd2 := hrd
   obtain ⟨qm1, cm1, hvd, _⟩ := hrd
   subst hvd
   have HRM0 : Hid (RdK kdMem P w dl (.slice qm1 dl.length cm1)) := hrd2
   have HNL : Hid (dn.length ≤ 64) := name_len HGD.out.1
   have HML : Hid (dl.length ≤ 64) := HGD.out.2.1
   have HGM : Hid (∀ m ∈ dl, GoodM m) := HGD.out.2.2
   have HQ2 : Hid (T = A2 ++ (putS (bstr dn) ++ (put dl.length ++ (((dl.drop 0).map putM).flatten ++ ((l.drop (i + 1)).map putD).flatten)))) := by
    show _ = _
    rw [HQ2y.out]; simp [putD]
   subst hq
   dsimp only [] at E1 E2
   have hbd : Below wr.heap.size wr (wr.alloc (.cells #[.string (bstr dn), .slice qm1 dl.length cm1] 53)) := (Below.refl _ _).alloc (Nat.le_refl _) _
   have HO2 := hiD (own_below HO2x.out hbd)
   have HB2 := hiD (HB2x.out.trans (hbd.mono HB2x.out.size))
   have HA2 := hiD (HA2x.out.later hbd)
   have HD2 : Hid (Arr (wr.alloc (.cells #[.string (bstr dn), .slice qm1 dl.length cm1] 53)) 53 wr.heap.size [.string (bstr dn), .slice qm1 dl.length cm1]) := Arr.new' _ _ _ _ rfl
   clear hrd2 hcell hd HO2x HB2x HA2x HQ2x HQ2y hbd hlt HGD
   go_upto_region 7 with (fail)
   clear E1 E2
   obtain ⟨gd, hgd⟩ : ∃ g, g = wr.heap.size := ⟨_, rfl⟩
   rw [← hgd] at HD2 ⊢
   generalize wr.alloc (.cells #[.string (bstr dn), .slice qm1 dl.length cm1] 53) = w2 at HO2 HB2 HA2 HD2 ⊢
   clear hgd
   obtain ⟨x0, y0, x1, y1⟩ := HD2.out.all2
   go_wp2_with fail
   refine (putS_text dn (by have := HNL.out; omega) w2).mono ?_
   rintro e wa ⟨vm, rfl, om, bm⟩
   have HOA := hiD (own_below HO2.out bm)
   have HBA := hiD (HB2.out.trans (bm.mono HB2.out.size))
   have HAa := hiD (HA2.out.later bm)
   have HDa := hiD (HD2.out.later bm)
   have HRM := hiD (Rd.of_own om)
   obtain ⟨qm, cm, rfl⟩ := own_form om
   have HLN := hiD (len_of2 HQ2.out HT.out)
   have HWB : Hid (w.heap.size + 1 ≤ wa.heap.size) := HAa.out.lt
   clear om bm HO2 HB2 HA2 HD2 x0 x1 y0 y1
   go_wp2_with (at_builtin; refine app_bytes rfl _ _ rfl rfl HOA.out rfl HRM.out HLN.out HWB.out ?_)
   intro vn wn hown hg
   have HB3 := hiD (below_grown HBA.out HBA.out.size (Nat.le_succ _) HOA.out hg)
   have HA3 : Hid (Arr wn 26 w.heap.size [.slice (some ⟨db, do_, none⟩) l.length c]) := arr_grown hg HOA.out HAa.out (by decide)
   have HD3 : Hid (Arr wn 53 gd [.string (bstr dn), .slice qm1 dl.length cm1]) := arr_grown hg HOA.out HDa.out (by decide)
   obtain ⟨q3, c3, rfl⟩ := own_form hown
   obtain ⟨A3, hA⟩ : ∃ x, x = A2 ++ putS (bstr dn) := ⟨_, rfl⟩
   have hAL : A2.length + (putS (bstr dn)).length = A3.length := by rw [hA, List.length_append]
   have HO3 : Hid (wn.ownsRow (w.heap.size + 1) 5 1 (.slice q3 A3.length c3) A3.length (bvs A3)) := by show World.ownsRow _ _ _ _ _ _ _; rw [hA]; simpa using hown
   rw [hAL]
   have HQ3 : Hid (T = A3 ++ (put dl.length ++ (((dl.drop 0).map putM).flatten ++ ((l.drop (i + 1)).map putD).flatten))) := by rw [hA, List.append_assoc]; exact HQ2.out
   clear hAL hown hg HOA HBA HAa HDa HRM HLN HWB hA HQ2
   generalize wn = w3 at HB3 HA3 HD3 HO3 ⊢
   obtain ⟨x0, y0, x1, y1⟩ := HD3.out.all2
   go_wp2_with fail
   refine (putCount_any dl.length (by have := HML.out; omega) w3).mono ?_
   rintro e wa ⟨vm, rfl, om, bm⟩
   have HOA := hiD (own_below HO3.out bm)
   have HBA := hiD (HB3.out.trans (bm.mono HB3.out.size))
   have HAa := hiD (HA3.out.later bm)
   have HDa := hiD (HD3.out.later bm)
   have HRM := hiD (Rd.of_own om)
   obtain ⟨qm, cm, rfl⟩ := own_form om
   have HLN := hiD (len_of2 HQ3.out HT.out)
   have HWB : Hid (w.heap.size + 1 ≤ wa.heap.size) := HAa.out.lt
   clear om bm HO3 HB3 HA3 HD3 x0 x1 y0 y1
   go_wp2_with (at_builtin; refine app_bytes rfl _ _ rfl rfl HOA.out rfl HRM.out HLN.out HWB.out ?_)
   intro vn wn hown hg
   have HB4 := hiD (below_grown HBA.out HBA.out.size (Nat.le_succ _) HOA.out hg)
   have HA4 : Hid (Arr wn 26 w.heap.size [.slice (some ⟨db, do_, none⟩) l.length c]) := arr_grown hg HOA.out HAa.out (by decide)
   have HD4 : Hid (Arr wn 53 gd [.string (bstr dn), .slice qm1 dl.length cm1]) := arr_grown hg HOA.out HDa.out (by decide)
   obtain ⟨q4, c4, rfl⟩ := own_form hown
   obtain ⟨A4, hA⟩ : ∃ x, x = A3 ++ put dl.length := ⟨_, rfl⟩
   have hAL : A3.length + (put dl.length).length = A4.length := by rw [hA, List.length_append]
   have HO4 : Hid (wn.ownsRow (w.heap.size + 1) 5 1 (.slice q4 A4.length c4) A4.length (bvs A4)) := by show World.ownsRow _ _ _ _ _ _ _; rw [hA]; simpa using hown
   rw [hAL]
   have HQ4 : Hid (T = A4 ++ (((dl.drop 0).map putM).flatten ++ ((l.drop (i + 1)).map putD).flatten)) := by rw [hA, List.append_assoc]; exact HQ3.out
   clear hAL hown hg HOA HBA HAa HDa HRM HLN HWB hA HQ3
   generalize wn = w4 at HB4 HA4 HD4 HO4 ⊢
   obtain ⟨x0, y0, x1, y1⟩ := HD4.out.all2
   go_wp2_with fail
   clear x0 x1 y0 y1
   go_loopw [4, 37] (fun bv jv wr => ∃ (j : Nat) (A : List UInt8) (qb : Option Addr) (cb : Nat), j ≤ dl.length ∧ jv = .int .i64 (j : Nat) ∧ bv = .slice qb A.length cb ∧ Hid (wr.ownsRow (w.heap.size + 1) 5 1 (.slice qb A.length cb) A.length (bvs A)) ∧ Hid (Below w.heap.size w wr) ∧ Hid (Arr wr 26 w.heap.size [.slice (some ⟨db, do_, none⟩) l.length c]) ∧ Hid (Arr wr 53 gd [.string (bstr dn), .slice qm1 dl.length cm1]) ∧ Hid (T = A ++ (((dl.drop j).map putM).flatten ++ ((l.drop (i + 1)).map putD).flatten))) (fun _ jv _ => dl.length - (intOf jv).toNat)
   case atStart => exact ⟨0, A4, q4, c4, Nat.zero_le _, rfl, rfl, HO4.out, HB4.out, HA4.out, HD4.out, HQ4.out⟩
   case round =>
    obtain ⟨j, A5, q5, c5, hj, rfl, rfl, HO5x, HB5x, HA5x, HD5x, HQ5x⟩ := hrel
    by_cases hlj : j < dl.length
    ·have hlj' : (j : Int) < dl.length := by omega
     have hj0 : (0 : Int) ≤ j := by omega
     have hwj : wrap64 ((j : Int) + 1) = (j : Int) + 1 := by unfold wrap64; have := HML.out; omega
     have HLJ : Hid (j < dl.length) := hlj
     obtain ⟨x, hx⟩ : ∃ x, dl[j]? = some x := ⟨_, List.getElem?_eq_getElem hlj⟩
     obtain ⟨mb, mo, a, hq2, hPm, hrdm, hcell⟩ := RdK.at HRM0.out hx
     obtain ⟨mnm, mkk, mls, ek, ev, en, es⟩ := x
     have hrdm2 : rdMem P w (mnm, mkk, mls, .mk ek ev en es) a := hrdm
     obtain ⟨mqa, mca, eq4, ec4, rfl, _⟩ := rdMem_form hrdm2
     have HGX : Hid (GoodM (mnm, mkk, mls, .mk ek ev en es)) := HGM.out _ (List.mem_of_getElem? hx)
     have HB5 := HB5x
     have E0 := (HB5x.out.cell (p := ⟨mb, mo + j * 7 + 0, none⟩) (hP _ hPm)).trans (hcell 0 _ rfl)
     have E1 := (HB5x.out.cell (p := ⟨mb, mo + j * 7 + 1, none⟩) (hP _ hPm)).trans (hcell 1 _ rfl)
     have E2 := (HB5x.out.cell (p := ⟨mb, mo + j * 7 + 2, none⟩) (hP _ hPm)).trans (hcell 2 _ rfl)
     have E3 := (HB5x.out.cell (p := ⟨mb, mo + j * 7 + 3, none⟩) (hP _ hPm)).trans (hcell 3 _ rfl)
     have E4 := (HB5x.out.cell (p := ⟨mb, mo + j * 7 + 4, none⟩) (hP _ hPm)).trans (hcell 4 _ rfl)
     have E5 := (HB5x.out.cell (p := ⟨mb, mo + j * 7 + 5, none⟩) (hP _ hPm)).trans (hcell 5 _ rfl)
     have E6 := (HB5x.out.cell (p := ⟨mb, mo + j * 7 + 6, none⟩) (hP _ hPm)).trans (hcell 6 _ rfl)
     simp only [Nat.add_zero] at E0
     have HQ5 : Hid (T = A5 ++ (putM (mnm, mkk, mls, .mk ek ev en es) ++ (((dl.drop (j + 1)).map putM).flatten ++ ((l.drop (i + 1)).map putD).flatten))) := by
      show _ = _
      rw [HQ5x.out, drop_cons_of hx, List.map_cons, List.flatten_cons, List.append_assoc]
     subst hq2
     skip
     have hbm : Below wr.heap.size wr (wr.alloc (.cells #[.string (bstr mnm), .int .i64 mkk, .slice mqa mls.length mca, .int .i64 ek, .string (bstr ev), .string (bstr en), .slice eq4 es.length ec4] 66)) := (Below.refl _ _).alloc (Nat.le_refl _) _
     have HO5 := hiD (own_below HO5x.out hbm)
     have HB5 := hiD (HB5x.out.trans (hbm.mono HB5x.out.size))
     have HA5 := hiD (HA5x.out.later hbm)
     have HD5 := hiD (HD5x.out.later hbm)
     have HPM := hiD (putMem_any HGX.out (rdMem_below hrdm2 HB5.out hP) (fun b hb => Nat.lt_of_lt_of_le (hP b hb) HB5.out.size))
     clear hrdm hrdm2 hcell hx HO5x HB5x HA5x HD5x HQ5x hbm hlj HGX
     go_wp2_with fail
     refine (HPM.out).mono ?_
     rintro e wa ⟨vm, rfl, om, bm⟩
     have HOA := hiD (own_below HO5.out bm)
     have HBA := hiD (HB5.out.trans (bm.mono HB5.out.size))
     have HAa := hiD (HA5.out.later bm)
     have HDa := hiD (HD5.out.later bm)
     have HRM := hiD (Rd.of_own om)
     obtain ⟨qm, cm, rfl⟩ := own_form om
     have HLN := hiD (len_of2 HQ5.out HT.out)
     have HWB : Hid (w.heap.size + 1 ≤ wa.heap.size) := HAa.out.lt
     clear om bm HO5 HB5 HA5 HD5 E0 E1 E2 E3 E4 E5 E6 HPM
     go_wp2_with (at_builtin; refine app_bytes rfl _ _ rfl rfl HOA.out rfl HRM.out HLN.out HWB.out ?_)
     intro vn wn hown hg
     have HB6 := hiD (below_grown HBA.out HBA.out.size (Nat.le_succ _) HOA.out hg)
     have HA6 : Hid (Arr wn 26 w.heap.size [.slice (some ⟨db, do_, none⟩) l.length c]) := arr_grown hg HOA.out HAa.out (by decide)
     have HD6 : Hid (Arr wn 53 gd [.string (bstr dn), .slice (some ⟨mb, mo, none⟩) dl.length cm1]) := arr_grown hg HOA.out HDa.out (by decide)
     obtain ⟨q6, c6, rfl⟩ := own_form hown
     obtain ⟨A6, hA⟩ : ∃ x, x = A5 ++ putM (mnm, mkk, mls, .mk ek ev en es) := ⟨_, rfl⟩
     have hAL : A5.length + (putM (mnm, mkk, mls, .mk ek ev en es)).length = A6.length := by rw [hA, List.length_append]
     have HO6 : Hid (wn.ownsRow (w.heap.size + 1) 5 1 (.slice q6 A6.length c6) A6.length (bvs A6)) := by show World.ownsRow _ _ _ _ _ _ _; rw [hA]; simpa using hown
     rw [hAL]
     have HQ6 : Hid (T = A6 ++ (((dl.drop (j + 1)).map putM).flatten ++ ((l.drop (i + 1)).map putD).flatten)) := by rw [hA, List.append_assoc]; exact HQ5.out
     clear hAL hown hg HOA HBA HAa HDa HRM HLN HWB hA HQ5
     generalize wn = w6 at HB6 HA6 HD6 HO6 ⊢
     go_wp2_with fail
     go_roundw
     case rel => exact ⟨j + 1, A6, q6, c6, HLJ.out, by go_num, rfl, HO6.out, HB6.out, HA6.out, HD6.out, HQ6.out⟩
     case measure => first | exact meas HLJ.out (Nat.le_trans HML.out (by decide)) | exact meas' HLJ.out
    ·have hlj' : ¬ (j : Int) < dl.length := by omega
     have hdj : dl.drop j = [] := List.drop_eq_nil_of_le (by omega)
     rw [hdj] at HQ5x
     have HQ9 : Hid (T = A5 ++ ((l.drop (i + 1)).map putD).flatten) := by show _ = _; rw [HQ5x.out]; simp
     clear hdj HQ5x
     go_wp2_with fail
     go_roundw
     case rel => exact ⟨i + 1, A5, q5, c5, HLI.out, by go_num, rfl, HO5x.out, HB5x.out, HA5x.out, HQ9.out⟩
     case measure => first | exact meas HLI.out (Nat.le_trans HKL.out (by decide)) | exact meas' HLI.out
  ·have hlt' : ¬ (i : Int) < l.length := by omega
   have hdi : l.drop i = [] := List.drop_eq_nil_of_le (by omega)
   rw [hdi] at HQ2x
   have HQ9 : Hid (T = A2) := by show _ = _; rw [HQ2x.out]; simp
   clear hdi HQ2x
   go_wp2_with fail
   go_ret2
   rw [HQ9.out]
   exact ⟨_, rfl, own_le HO2x.out (Nat.le_succ _), HB2x.out⟩
set_option maxRecDepth 100000 in
set_option maxHeartbeats 2000000 in
theorem idxD1 {W : World} {g p : Nat} {b : Bool} {u0 u1 : Value} (hA : Arr W 53 g [u0, u1]) (HC : ∀ W', Below W.heap.size W W' → Calls Tryz.prog 82 #[.agg #[u0, u1], .pointer (some ⟨p, 0, none⟩)] W' fun r w' => r = .returned (.bool b) ∧ Below W'.heap.size W' w') :
  Calls Tryz.prog 98 #[.slice (some ⟨g, 0, none⟩) 1 1, .func (.func 82) #[] #[.pointer (some ⟨p, 0, none⟩)]] W fun r w' => r = .returned (.int .i64 (if b = true then 0 else -1)) ∧ Below W.heap.size W w' := by
 have HH := hiD HC
 have a0 := hA.cell 0
 have z0 := hA.free 0
 have a1 := hA.cell 1
 have z1 := hA.free 1
 simp only [List.getElem?_cons_zero, List.getElem?_cons_succ] at a0 a1
 clear HC hA
 go_enter Tryz.func98, Tryz.ntmps98
 go_wp2_with fail
 refine wp_loop_rounds 2 ?_
 rw [rounds_succ]
 go_wp2_with fail
 refine (HH.out W (Below.refl _ _)).mono ?_
 rintro r w1 ⟨rfl, b1⟩
 have HB := hiD b1
 clear b1
 cases b with
 | true =>
  go_wp2_with fail
  go_ret
  exact ⟨rfl, HB.out⟩
 | false =>
  go_wp2_with fail
  rw [rounds_succ]
  go_wp2_with fail
  go_ret
  exact ⟨rfl, HB.out⟩
set_option maxRecDepth 100000 in
set_option maxHeartbeats 2000000 in
theorem conD1 {W : World} {g p : Nat} {b : Bool} {u0 u1 : Value} (hA : Arr W 53 g [u0, u1]) (HC : ∀ W', Below W.heap.size W W' → Calls Tryz.prog 82 #[.agg #[u0, u1], .pointer (some ⟨p, 0, none⟩)] W' fun r w' => r = .returned (.bool b) ∧ Below W'.heap.size W' w') :
  Calls Tryz.prog 81 #[.slice (some ⟨g, 0, none⟩) 1 1, .func (.func 82) #[] #[.pointer (some ⟨p, 0, none⟩)]] W fun r w' => r = .returned (.bool b) ∧ Below W.heap.size W w' := by
 have HI := hiD (idxD1 hA HC)
 clear HC hA
 go_enter Tryz.func81, Tryz.ntmps81
 go_wp2_with fail
 refine HI.out.mono ?_
 rintro r w1 ⟨rfl, b1⟩
 have HB := hiD b1
 clear b1
 cases b with
 | true =>
  go_wp2_with fail
  go_ret
  exact ⟨rfl, HB.out⟩
 | false =>
  go_wp2_with fail
  go_ret
  exact ⟨rfl, HB.out⟩
set_option maxRecDepth 100000 in
set_option maxHeartbeats 2000000 in
theorem cloD1 {W : World} {p : Nat} {b : Bool} {u0 u1 : Value} (hp : W.cell? ⟨p, 0, none⟩ = some (.func (.func 59) #[] #[])) (HS : ∀ W', Below W.heap.size W W' → Calls Tryz.prog 59 #[.agg #[u0, u1]] W' fun r w' => r = .returned (.bool b) ∧ Below W'.heap.size W' w') :
  Calls Tryz.prog 82 #[.agg #[u0, u1], .pointer (some ⟨p, 0, none⟩)] W fun r w' => r = .returned (.bool (!b)) ∧ Below W.heap.size W w' := by
 have HB0 : Hid (Below W.heap.size W (W.alloc (.cells #[u0, u1] 53))) := (Below.refl _ _).alloc (Nat.le_refl _) _
 have HH := hiD (HS _ HB0.out)
 have hp1 := (HB0.out.cell (p := ⟨p, 0, none⟩) (World.block_lt_of_cell? W _ hp)).trans hp
 clear HS hp
 go_enter Tryz.func82, Tryz.ntmps82
 go_wp2_with fail
 refine HH.out.mono ?_
 rintro r w1 ⟨rfl, b1⟩
 have HB := hiD (HB0.out.trans (b1.mono HB0.out.size))
 clear b1
 go_wp2_with fail
 go_ret
 exact ⟨rfl, HB.out⟩
set_option maxRecDepth 100000 in
set_option maxHeartbeats 2000000 in
theorem allD1 {W : World} {g : Nat} {b : Bool} {u0 u1 : Value} (hA : Arr W 53 g [u0, u1]) (HS : ∀ W', Below W.heap.size W W' → Calls Tryz.prog 59 #[.agg #[u0, u1]] W' fun r w' => r = .returned (.bool b) ∧ Below W'.heap.size W' w') :
  Calls Tryz.prog 58 #[.slice (some ⟨g, 0, none⟩) 1 1, .func (.func 59) #[] #[]] W fun r w' => r = .returned (.bool b) ∧ Below W.heap.size W w' := by
 have HB0 : Hid (Below W.heap.size W (W.alloc (.cells #[.func (.func 59) #[] #[]] 110))) := (Below.refl _ _).alloc (Nat.le_refl _) _
 have hbox : Arr (W.alloc (.cells #[.func (.func 59) #[] #[]] 110)) 110 W.heap.size [.func (.func 59) #[] #[]] := Arr.new' _ _ _ _ rfl
 have HI := hiD (conD1 (p := W.heap.size) (b := !b) (hA.alloc _) fun W' hW => cloD1 (b := b) ((hW.cell (p := ⟨W.heap.size, 0, none⟩) hbox.lt).trans (hbox.cell 0)) fun W2 h2 => HS W2 (HB0.out.trans (((hW.trans (h2.mono hW.size))).mono HB0.out.size)))
 clear HS hA hbox
 go_enter Tryz.func58, Tryz.ntmps58
 go_wp2_with fail
 refine HI.out.mono ?_
 rintro r w1 ⟨rfl, b1⟩
 have HB := hiD (HB0.out.trans (b1.mono HB0.out.size))
 clear b1
 go_wp2_with fail
 go_ret
 exact ⟨rfl, HB.out⟩
set_option maxRecDepth 100000 in
set_option maxHeartbeats 2000000 in
theorem idxM1 {W : World} {g p : Nat} {b : Bool} {u0 u1 u2 u3 u4 u5 u6 : Value} (hA : Arr W 66 g [u0, u1, u2, u3, u4, u5, u6]) (HC : ∀ W', Below W.heap.size W W' → Calls Tryz.prog 100 #[.agg #[u0, u1, u2, u3, u4, u5, u6], .pointer (some ⟨p, 0, none⟩)] W' fun r w' => r = .returned (.bool b) ∧ Below W'.heap.size W' w') :
  Calls Tryz.prog 109 #[.slice (some ⟨g, 0, none⟩) 1 1, .func (.func 100) #[] #[.pointer (some ⟨p, 0, none⟩)]] W fun r w' => r = .returned (.int .i64 (if b = true then 0 else -1)) ∧ Below W.heap.size W w' := by
 have HH := hiD HC
 have a0 := hA.cell 0
 have z0 := hA.free 0
 have a1 := hA.cell 1
 have z1 := hA.free 1
 have a2 := hA.cell 2
 have z2 := hA.free 2
 have a3 := hA.cell 3
 have z3 := hA.free 3
 have a4 := hA.cell 4
 have z4 := hA.free 4
 have a5 := hA.cell 5
 have z5 := hA.free 5
 have a6 := hA.cell 6
 have z6 := hA.free 6
 simp only [List.getElem?_cons_zero, List.getElem?_cons_succ] at a0 a1 a2 a3 a4 a5 a6
 clear HC hA
 go_enter Tryz.func109, Tryz.ntmps109
 go_wp2_with fail
 refine wp_loop_rounds 2 ?_
 rw [rounds_succ]
 go_wp2_with fail
 refine (HH.out W (Below.refl _ _)).mono ?_
 rintro r w1 ⟨rfl, b1⟩
 have HB := hiD b1
 clear b1
 cases b with
 | true =>
  go_wp2_with fail
  go_ret
  exact ⟨rfl, HB.out⟩
 | false =>
  go_wp2_with fail
  rw [rounds_succ]
  go_wp2_with fail
  go_ret
  exact ⟨rfl, HB.out⟩
set_option maxRecDepth 100000 in
set_option maxHeartbeats 2000000 in
theorem conM1 {W : World} {g p : Nat} {b : Bool} {u0 u1 u2 u3 u4 u5 u6 : Value} (hA : Arr W 66 g [u0, u1, u2, u3, u4, u5, u6]) (HC : ∀ W', Below W.heap.size W W' → Calls Tryz.prog 100 #[.agg #[u0, u1, u2, u3, u4, u5, u6], .pointer (some ⟨p, 0, none⟩)] W' fun r w' => r = .returned (.bool b) ∧ Below W'.heap.size W' w') :
  Calls Tryz.prog 99 #[.slice (some ⟨g, 0, none⟩) 1 1, .func (.func 100) #[] #[.pointer (some ⟨p, 0, none⟩)]] W fun r w' => r = .returned (.bool b) ∧ Below W.heap.size W w' := by
 have HI := hiD (idxM1 hA HC)
 clear HC hA
 go_enter Tryz.func99, Tryz.ntmps99
 go_wp2_with fail
 refine HI.out.mono ?_
 rintro r w1 ⟨rfl, b1⟩
 have HB := hiD b1
 clear b1
 cases b with
 | true =>
  go_wp2_with fail
  go_ret
  exact ⟨rfl, HB.out⟩
 | false =>
  go_wp2_with fail
  go_ret
  exact ⟨rfl, HB.out⟩
set_option maxRecDepth 100000 in
set_option maxHeartbeats 2000000 in
theorem cloM1 {W : World} {p : Nat} {b : Bool} {u0 u1 u2 u3 u4 u5 u6 : Value} (hp : W.cell? ⟨p, 0, none⟩ = some (.func (.func 84) #[] #[])) (HS : ∀ W', Below W.heap.size W W' → Calls Tryz.prog 84 #[.agg #[u0, u1, u2, u3, u4, u5, u6]] W' fun r w' => r = .returned (.bool b) ∧ Below W'.heap.size W' w') :
  Calls Tryz.prog 100 #[.agg #[u0, u1, u2, u3, u4, u5, u6], .pointer (some ⟨p, 0, none⟩)] W fun r w' => r = .returned (.bool (!b)) ∧ Below W.heap.size W w' := by
 have HB0 : Hid (Below W.heap.size W (W.alloc (.cells #[u0, u1, u2, u3, u4, u5, u6] 66))) := (Below.refl _ _).alloc (Nat.le_refl _) _
 have HH := hiD (HS _ HB0.out)
 have hp1 := (HB0.out.cell (p := ⟨p, 0, none⟩) (World.block_lt_of_cell? W _ hp)).trans hp
 clear HS hp
 go_enter Tryz.func100, Tryz.ntmps100
 go_wp2_with fail
 refine HH.out.mono ?_
 rintro r w1 ⟨rfl, b1⟩
 have HB := hiD (HB0.out.trans (b1.mono HB0.out.size))
 clear b1
 go_wp2_with fail
 go_ret
 exact ⟨rfl, HB.out⟩
set_option maxRecDepth 100000 in
set_option maxHeartbeats 2000000 in
theorem allM1 {W : World} {g : Nat} {b : Bool} {u0 u1 u2 u3 u4 u5 u6 : Value} (hA : Arr W 66 g [u0, u1, u2, u3, u4, u5, u6]) (HS : ∀ W', Below W.heap.size W W' → Calls Tryz.prog 84 #[.agg #[u0, u1, u2, u3, u4, u5, u6]] W' fun r w' => r = .returned (.bool b) ∧ Below W'.heap.size W' w') :
  Calls Tryz.prog 83 #[.slice (some ⟨g, 0, none⟩) 1 1, .func (.func 84) #[] #[]] W fun r w' => r = .returned (.bool b) ∧ Below W.heap.size W w' := by
 have HB0 : Hid (Below W.heap.size W (W.alloc (.cells #[.func (.func 84) #[] #[]] 82))) := (Below.refl _ _).alloc (Nat.le_refl _) _
 have hbox : Arr (W.alloc (.cells #[.func (.func 84) #[] #[]] 82)) 82 W.heap.size [.func (.func 84) #[] #[]] := Arr.new' _ _ _ _ rfl
 have HI := hiD (conM1 (p := W.heap.size) (b := !b) (hA.alloc _) fun W' hW => cloM1 (b := b) ((hW.cell (p := ⟨W.heap.size, 0, none⟩) hbox.lt).trans (hbox.cell 0)) fun W2 h2 => HS W2 (HB0.out.trans (((hW.trans (h2.mono hW.size))).mono HB0.out.size)))
 clear HS hA hbox
 go_enter Tryz.func83, Tryz.ntmps83
 go_wp2_with fail
 refine HI.out.mono ?_
 rintro r w1 ⟨rfl, b1⟩
 have HB := hiD (HB0.out.trans (b1.mono HB0.out.size))
 clear b1
 go_wp2_with fail
 go_ret
 exact ⟨rfl, HB.out⟩
theorem isName_a : isName ⟨#[97]⟩ = true := by decide
set_option maxRecDepth 100000 in
set_option maxHeartbeats 2000000 in
theorem mhf1 {k : Int} {xv xn : List UInt8} {ks : List Ex} {q : Option Addr} {c : Nat} {P : Nat → Prop} {w : World} (h : RdE P w (.mk k xv xn ks) (.agg #[.int .i64 k, .string (bstr xv), .string (bstr xn), .slice q ks.length c])) (hP : ∀ b, P b → b < w.heap.size) (hm : sizeE (.mk k xv xn ks) ≤ 900000) (hr : ResT w) :
  Calls Tryz.prog 84 #[.agg #[.string ⟨#[97]⟩, .int .i64 2, .slice none 0 0, .int .i64 k, .string (bstr xv), .string (bstr xn), .slice q ks.length c]] w fun e w' => e = .returned (.bool (rightE (.mk k xv xn ks))) ∧ Below w.heap.size w w' := by
 have hb0 : Below w.heap.size w (w.alloc (.cells #[.string ⟨#[97]⟩, .int .i64 2, .slice none 0 0, .int .i64 k, .string (bstr xv), .string (bstr xn), .slice q ks.length c] 66)) := (Below.refl _ _).alloc (Nat.le_refl _) _
 have HB := hiD hb0
 have HX : Hid (Arr (w.alloc (.cells #[.string ⟨#[97]⟩, .int .i64 2, .slice none 0 0, .int .i64 k, .string (bstr xv), .string (bstr xn), .slice q ks.length c] 66)) 66 w.heap.size [.string ⟨#[97]⟩, .int .i64 2, .slice none 0 0, .int .i64 k, .string (bstr xv), .string (bstr xn), .slice q ks.length c]) := Arr.new' _ _ _ _ rfl
 have HR : Hid (ResT (w.alloc (.cells #[.string ⟨#[97]⟩, .int .i64 2, .slice none 0 0, .int .i64 k, .string (bstr xv), .string (bstr xn), .slice q ks.length c] 66))) := hr.below hb0 hr.lt
 have HN := hiD (isName_at ⟨#[97]⟩ isName_a _ HR.out)
 have H1 := hiD (h.below hb0 hP)
 have HP := hiD (lt_keep hb0 hP)
 have HZ := hiD hm
 obtain ⟨rb, hrb⟩ : ∃ x, x = rightE (.mk k xv xn ks) := ⟨_, rfl⟩
 have HRB := hiD hrb
 rw [← hrb]
 clear hb0 h hP hm hr hrb
 go_enter Tryz.func84, Tryz.ntmps84
 go_upto_region 1 with (fail)
 generalize w.alloc (.cells #[.string ⟨#[97]⟩, .int .i64 2, .slice none 0 0, .int .i64 k, .string (bstr xv), .string (bstr xn), .slice q ks.length c] 66) = w0 at HX HB HR HN H1 HP ⊢
 obtain ⟨x0, y0, x1, y1, x2, y2, x3, y3, x4, y4, x5, y5, x6, y6⟩ := HX.out.all7
 go_wp2_with fail
 refine HN.out.mono ?_
 rintro e w1 ⟨rfl, b1⟩
 have HB := hiD (HB.out.trans (b1.mono HB.out.size))
 have HX := hiD (HX.out.later b1)
 have HR : Hid (ResT w1) := HR.out.below b1 HR.out.lt
 have HS : Hid (Calls Tryz.prog 104 #[.agg #[.int .i64 k, .string (bstr xv), .string (bstr xn), .slice q ks.length c]] w1 fun r w' => r = .returned (.bool rb) ∧ Below w1.heap.size w1 w') := by
  have h := eright_any (.mk k xv xn ks) _ P w1 HZ.out (H1.out.below b1 HP.out) (lt_keep b1 HP.out) HR.out
  rw [← HRB.out] at h
  exact h
 clear b1 x0 x1 x2 x3 x4 x5 x6 y0 y1 y2 y3 y4 y5 y6
 obtain ⟨x0, y0, x1, y1, x2, y2, x3, y3, x4, y4, x5, y5, x6, y6⟩ := HX.out.all7
 go_wp2_with fail
 refine HS.out.mono ?_
 rintro r w3 ⟨rfl, b3⟩
 have HB := hiD (HB.out.trans (b3.mono HB.out.size))
 clear b3
 cases rb <;> (go_wp2_with fail; go_ret; exact ⟨rfl, HB.out⟩)
set_option maxRecDepth 100000 in
set_option maxHeartbeats 2000000 in
theorem hf1 {g : Nat} {b : Bool} {u0 u1 u2 u3 u4 u5 u6 : Value} {w : World} (hA : Arr w 66 g [u0, u1, u2, u3, u4, u5, u6]) (HS : ∀ W', Below w.heap.size w W' → Calls Tryz.prog 84 #[.agg #[u0, u1, u2, u3, u4, u5, u6]] W' fun r w' => r = .returned (.bool b) ∧ Below W'.heap.size W' w') (hr : ResT w) :
  Calls Tryz.prog 59 #[.agg #[.string ⟨#[97]⟩, .slice (some ⟨g, 0, none⟩) 1 1]] w fun e w' => e = .returned (.bool b) ∧ Below w.heap.size w w' := by
 have hb0 : Below w.heap.size w (w.alloc (.cells #[.string ⟨#[97]⟩, .slice (some ⟨g, 0, none⟩) 1 1] 53)) := (Below.refl _ _).alloc (Nat.le_refl _) _
 have HB := hiD hb0
 have HX : Hid (Arr (w.alloc (.cells #[.string ⟨#[97]⟩, .slice (some ⟨g, 0, none⟩) 1 1] 53)) 53 w.heap.size [.string ⟨#[97]⟩, .slice (some ⟨g, 0, none⟩) 1 1]) := Arr.new' _ _ _ _ rfl
 have HR : Hid (ResT (w.alloc (.cells #[.string ⟨#[97]⟩, .slice (some ⟨g, 0, none⟩) 1 1] 53))) := hr.below hb0 hr.lt
 have HN := hiD (isName_at ⟨#[97]⟩ isName_a _ HR.out)
 have HM := hiD (hA.later hb0)
 have HS := hiD HS
 clear hb0 hA hr
 go_enter Tryz.func59, Tryz.ntmps59
 go_upto_region 1 with (fail)
 generalize w.alloc (.cells #[.string ⟨#[97]⟩, .slice (some ⟨g, 0, none⟩) 1 1] 53) = w0 at HX HB HN HM HR ⊢
 obtain ⟨x0, y0, x1, y1⟩ := HX.out.all2
 go_wp2_with fail
 refine HN.out.mono ?_
 rintro e w1 ⟨rfl, b1⟩
 have HB := hiD (HB.out.trans (b1.mono HB.out.size))
 have HX := hiD (HX.out.later b1)
 have HA := hiD (allM1 (HM.out.later b1) fun W' hW => HS.out W' (HB.out.trans (hW.mono HB.out.size)))
 clear b1 x0 x1 y0 y1
 obtain ⟨x0, y0, x1, y1⟩ := HX.out.all2
 go_wp2_with fail
 refine HA.out.mono ?_
 rintro r w3 ⟨rfl, b3⟩
 have HB := hiD (HB.out.trans (b3.mono HB.out.size))
 clear b3
 cases b <;> (go_wp2_with fail; go_ret; exact ⟨rfl, HB.out⟩)
set_option maxRecDepth 100000 in
set_option maxHeartbeats 2000000 in
theorem form1 {g : Nat} {b : Bool} {u0 u1 : Value} {w : World} (hA : Arr w 53 g [u0, u1]) (HS : ∀ W', Below w.heap.size w W' → Calls Tryz.prog 59 #[.agg #[u0, u1]] W' fun r w' => r = .returned (.bool b) ∧ Below W'.heap.size W' w') :
  Calls Tryz.prog 32 #[.agg #[.slice (some ⟨g, 0, none⟩) 1 1]] w fun e w' => e = .returned (.bool b) ∧ Below w.heap.size w w' := by
 have hb0 : Below w.heap.size w (w.alloc (.cells #[.slice (some ⟨g, 0, none⟩) 1 1] 26)) := (Below.refl _ _).alloc (Nat.le_refl _) _
 have HB := hiD hb0
 have HX : Hid (Arr (w.alloc (.cells #[.slice (some ⟨g, 0, none⟩) 1 1] 26)) 26 w.heap.size [.slice (some ⟨g, 0, none⟩) 1 1]) := Arr.new' _ _ _ _ rfl
 have HA := hiD (allD1 (hA.later hb0) fun W' hW => HS W' (hb0.trans (hW.mono hb0.size)))
 clear hb0 hA HS
 go_enter Tryz.func32, Tryz.ntmps32
 go_upto_region 1 with (fail)
 generalize w.alloc (.cells #[.slice (some ⟨g, 0, none⟩) 1 1] 26) = w0 at HX HB HA ⊢
 obtain ⟨x0, y0⟩ := HX.out.all1
 go_wp2_with fail
 refine HA.out.mono ?_
 rintro r w3 ⟨rfl, b3⟩
 have HB := hiD (HB.out.trans (b3.mono HB.out.size))
 clear b3
 cases b <;> (go_wp2_with fail; go_ret; exact ⟨rfl, HB.out⟩)
def PutP (w : World) (e : Ex) (r : Ending) (w' : World) : Prop := if rightE e = true then Owned w (putE e) r w' else r = .returned (.slice none 0 0) ∧ Below w.heap.size w w'
set_option maxRecDepth 100000 in
set_option maxHeartbeats 4000000 in
theorem putExpr_any (e : Ex) (v : Value) (P : Nat → Prop) (w : World) (h : RdE P w e v) (hP : ∀ b, P b → b < w.heap.size) (hm : sizeE e ≤ 900000) (hr : ResT w) : Calls Tryz.prog 16 #[v] w (PutP w e) := by
 obtain ⟨q, c, rfl, hc, hk⟩ := h.form
 obtain ⟨k, xv, xn, ks⟩ := e
 unfold exv
 show Calls _ _ #[.agg #[.int .i64 k, .string (bstr xv), .string (bstr xn), .slice q ks.length c]] _ _
 have HK : Hid (0 < ks.length → ∃ b o, q = some ⟨b, o, none⟩ ∧ P b ∧ RdL P w ks b o) := hk
 have hR : RdE P w (.mk k xv xn ks) (.agg #[.int .i64 k, .string (bstr xv), .string (bstr xn), .slice q ks.length c]) := h
 have hb1 : Below w.heap.size w (w.alloc (.cells #[.int .i64 k, .string (bstr xv), .string (bstr xn), .slice q ks.length c] 42)) := (Below.refl _ _).alloc (Nat.le_refl _) _
 obtain ⟨w1, hw1⟩ : ∃ x, x = w.alloc (.cells #[.int .i64 k, .string (bstr xv), .string (bstr xn), .slice q ks.length c] 42) := ⟨_, rfl⟩
 have hA1 : Arr w1 42 w.heap.size [.int .i64 k, .string (bstr xv), .string (bstr xn), .slice q ks.length c] := by rw [hw1]; exact Arr.new' _ _ _ _ rfl
 rw [← hw1] at hb1
 have hb2 : Below w1.heap.size w1 (w1.alloc (.cells #[.string ⟨#[97]⟩, .int .i64 2, .slice none 0 0, .int .i64 k, .string (bstr xv), .string (bstr xn), .slice q ks.length c] 66)) := (Below.refl _ _).alloc (Nat.le_refl _) _
 obtain ⟨w2, hw2⟩ : ∃ x, x = w1.alloc (.cells #[.string ⟨#[97]⟩, .int .i64 2, .slice none 0 0, .int .i64 k, .string (bstr xv), .string (bstr xn), .slice q ks.length c] 66) := ⟨_, rfl⟩
 have hA2 : Arr w2 66 w1.heap.size [.string ⟨#[97]⟩, .int .i64 2, .slice none 0 0, .int .i64 k, .string (bstr xv), .string (bstr xn), .slice q ks.length c] := by rw [hw2]; exact Arr.new' _ _ _ _ rfl
 rw [← hw2] at hb2
 have hb3 : Below w2.heap.size w2 (w2.alloc (.cells #[.string ⟨#[97]⟩, .int .i64 2, .slice none 0 0, .int .i64 k, .string (bstr xv), .string (bstr xn), .slice q ks.length c] 66)) := (Below.refl _ _).alloc (Nat.le_refl _) _
 obtain ⟨w3, hw3⟩ : ∃ x, x = w2.alloc (.cells #[.string ⟨#[97]⟩, .int .i64 2, .slice none 0 0, .int .i64 k, .string (bstr xv), .string (bstr xn), .slice q ks.length c] 66) := ⟨_, rfl⟩
 have hA3 : Arr w3 66 w2.heap.size [.string ⟨#[97]⟩, .int .i64 2, .slice none 0 0, .int .i64 k, .string (bstr xv), .string (bstr xn), .slice q ks.length c] := by rw [hw3]; exact Arr.new' _ _ _ _ rfl
 rw [← hw3] at hb3
 have hb4 : Below w3.heap.size w3 (w3.alloc (.cells #[.string ⟨#[97]⟩, .slice (some ⟨w2.heap.size, 0, none⟩) 1 1] 53)) := (Below.refl _ _).alloc (Nat.le_refl _) _
 obtain ⟨w4, hw4⟩ : ∃ x, x = w3.alloc (.cells #[.string ⟨#[97]⟩, .slice (some ⟨w2.heap.size, 0, none⟩) 1 1] 53) := ⟨_, rfl⟩
 have hA4 : Arr w4 53 w3.heap.size [.string ⟨#[97]⟩, .slice (some ⟨w2.heap.size, 0, none⟩) 1 1] := by rw [hw4]; exact Arr.new' _ _ _ _ rfl
 rw [← hw4] at hb4
 have hb5 : Below w4.heap.size w4 (w4.alloc (.cells #[.string ⟨#[97]⟩, .slice (some ⟨w2.heap.size, 0, none⟩) 1 1] 53)) := (Below.refl _ _).alloc (Nat.le_refl _) _
 obtain ⟨w5, hw5⟩ : ∃ x, x = w4.alloc (.cells #[.string ⟨#[97]⟩, .slice (some ⟨w2.heap.size, 0, none⟩) 1 1] 53) := ⟨_, rfl⟩
 have hA5 : Arr w5 53 w4.heap.size [.string ⟨#[97]⟩, .slice (some ⟨w2.heap.size, 0, none⟩) 1 1] := by rw [hw5]; exact Arr.new' _ _ _ _ rfl
 rw [← hw5] at hb5
 have s12 := hb1.trans (hb2.mono hb1.size)
 have s13 := s12.trans (hb3.mono s12.size)
 have s14 := s13.trans (hb4.mono s13.size)
 have HB5 := hiD (s14.trans (hb5.mono s14.size))
 have HA1 := hiD hA1
 have HA15 := hiD ((((hA1.later hb2).later hb3).later hb4).later hb5)
 have HF := hiD (form1 hA5 (b := rightE (.mk k xv xn ks)) fun W' hW => hf1 (((hA3.later hb4).later hb5).later hW) (fun W2 h2 => mhf1 (hR.below (HB5.out.trans ((hW.trans (h2.mono hW.size)).mono HB5.out.size)) hP) (lt_keep (HB5.out.trans ((hW.trans (h2.mono hW.size)).mono HB5.out.size)) hP) hm (hr.below (HB5.out.trans ((hW.trans (h2.mono hW.size)).mono HB5.out.size)) hr.lt)) (hr.below (HB5.out.trans (hW.mono HB5.out.size)) hr.lt))
 have HRE := hiD hR
 obtain ⟨rb, hrb⟩ : ∃ x, x = rightE (.mk k xv xn ks) := ⟨_, rfl⟩
 rw [← hrb] at HF
 have HRB := hiD hrb
 have HA2 := hiD hA2
 have hs3 : w3.heap.size = w2.heap.size + 1 := by rw [hw3]; exact World.size_alloc _ _
 rw [hs3] at hA4
 have HA4 := hiD hA4
 unfold PutP
 rw [← hrb]
 clear h hR hm hr hb1 hb2 hb3 hb4 hb5 hs3 hA1 hA2 hA3 hA4 hA5 s12 s13 s14 hrb hc hk
 go_enter Tryz.func16, Tryz.ntmps16
 go_upto_region 1 with (fail)
 rw [← hw1]
 clear hw1
 obtain ⟨x0, y0, x1, y1, x2, y2, x3, y3⟩ := HA1.out.all4
 go_upto_region 2 with (fail)
 rw [← hw2]
 clear hw2 x0 x1 x2 x3 y0 y1 y2 y3
 obtain ⟨x0, y0, x1, y1, x2, y2, x3, y3, x4, y4, x5, y5, x6, y6⟩ := HA2.out.all7
 go_upto_region 3 with (fail)
 rw [← hw3, ← hw4]
 clear hw3 hw4 x0 x1 x2 x3 x4 x5 x6 y0 y1 y2 y3 y4 y5 y6
 obtain ⟨x0, y0, x1, y1⟩ := HA4.out.all2
 go_wp2_with fail
 rw [← hw5]
 refine HF.out.mono ?_
 rintro r w6 ⟨rfl, b6⟩
 have HB6 := hiD (HB5.out.trans (b6.mono HB5.out.size))
 have HA6 := hiD (HA15.out.later b6)
 clear b6 hw5 HF HB5 HA15 HA1 HA2 HA4 x0 x1 y0 y1
 cases rb with
 | false =>
  go_wp2_with fail
  go_ret
  exact ⟨rfl, HB6.out⟩
 | true =>
  have HE := right_all HRB.out.symm
  obtain ⟨g1, g2⟩ := form_small (.mk k xv xn ks) HE.1
  have HP := hiD (putX_any 64 (Nat.le_refl _) (.mk k xv xn ks) _ P w6 (by have := HE.2.2; omega) g1 HE.1 (HRE.out.below HB6.out hP) (lt_keep HB6.out hP))
  clear HE g1 g2
  obtain ⟨x0, y0, x1, y1, x2, y2, x3, y3⟩ := HA6.out.all4
  go_wp2_with fail
  refine HP.out.mono ?_
  rintro r w7 ⟨v7, rfl, o7, b7⟩
  have HO7 := hiD (own_le o7 HB6.out.size)
  have HB7 := hiD (HB6.out.trans (b7.mono HB6.out.size))
  clear o7 b7
  go_wp2_with fail
  go_ret
  exact ⟨v7, rfl, HO7.out, HB7.out⟩
def exA : Ex := .mk 1 [] [97] []
theorem pE1 : parseEx [1, 1, 97] = (exA, 0, 0) := by kernel_rfl
theorem pE2 : parseEx [9] = (ex0, 6, 0) := by kernel_rfl
theorem pS1 : putSc [([97], [])] = [1, 1, 97, 0] := by decide +kernel
theorem pX1 : putE exA = [1, 1, 97] := by decide +kernel
theorem good1 : GoodS [([97], [])] := by
 refine ⟨by decide, fun d hd => ?_⟩
 simp only [List.mem_cons, List.not_mem_nil, or_false] at hd
 subst hd
 exact ⟨by decide +kernel, by decide, fun m hm => by cases hm⟩
theorem aw1 (w : World) (hE : Env w) : Calls Tryz.prog 18 #[.slice (some ⟨w.heap.size, 0, none⟩) 3 3] (w.alloc (.cells #[.int .u8 1, .int .u8 1, .int .u8 97] 5)) fun r w' => ∃ q c, r = .returned (.tuple #[.agg #[.int .i64 1, .string ⟨#[]⟩, .string ⟨#[97]⟩, .slice q 0 c], .nilIface]) ∧ RdE (fun b => b < w'.heap.size) w' exA (.agg #[.int .i64 1, .string ⟨#[]⟩, .string ⟨#[97]⟩, .slice q 0 c]) ∧ Below w.heap.size w w' := by
 have hb := (Below.refl w.heap.size w).alloc (Nat.le_refl _) (.cells #[.int .u8 1, .int .u8 1, .int .u8 97] 5)
 refine (cParseExpr_any (W := w.alloc (.cells #[.int .u8 1, .int .u8 1, .int .u8 97] 5)) (b := [1, 1, 97]) ?_ (by decide) (hE.below hb)).mono ?_
 ·rw [World.size_alloc]; exact rd_lit w [1, 1, 97] _ rfl 3 rfl (by show 3 ≤ maxLen; unfold maxLen; omega)
 rintro r w' ⟨v, rfl, hv, b⟩
 rw [pE1] at hv ⊢
 obtain ⟨q, c, rfl, _⟩ := hv.form
 exact ⟨q, c, rfl, hv.imp fun b hb => hb.2, hb.trans (b.mono hb.size)⟩
theorem aw2 (w : World) (hE : Env w) : Calls Tryz.prog 18 #[.slice (some ⟨w.heap.size, 0, none⟩) 1 1] (w.alloc (.cells #[.int .u8 9] 5)) fun r w' => ∃ q c, r = .returned (.tuple #[.agg #[.int .i64 0, .string ⟨#[]⟩, .string ⟨#[]⟩, .slice q 0 c], errF 6 0]) ∧ Below w.heap.size w w' := by
 have hb := (Below.refl w.heap.size w).alloc (Nat.le_refl _) (.cells #[.int .u8 9] 5)
 refine (cParseExpr_any (W := w.alloc (.cells #[.int .u8 9] 5)) (b := [9]) ?_ (by decide) (hE.below hb)).mono ?_
 ·rw [World.size_alloc]; exact rd_lit w [9] _ rfl 1 rfl (by show 1 ≤ maxLen; unfold maxLen; omega)
 rintro r w' ⟨v, rfl, hv, b⟩
 rw [pE2] at hv ⊢
 obtain ⟨q, c, rfl, _⟩ := hv.form
 exact ⟨q, c, rfl, hb.trans (b.mono hb.size)⟩
theorem aw3 (w : World) (hE : Env w) : Calls Tryz.prog 12 #[.agg #[.slice (some ⟨w.heap.size, 0, none⟩) 1 1]] (w.alloc (.cells #[.string ⟨#[97]⟩, .slice none 0 0] 53)) fun r w' => ∃ q c, r = .returned (.tuple #[.slice q 4 c, .bool true]) ∧ Rd w'.heap.size w' (.slice q 4 c) [1, 1, 97, 0] ∧ Below w.heap.size w w' := by
 have hb := (Below.refl w.heap.size w).alloc (Nat.le_refl _) (.cells #[.string ⟨#[97]⟩, .slice none 0 0] 53)
 have hA := Arr.new' w 53 #[.string ⟨#[97]⟩, .slice none 0 0] _ rfl
 refine (cPut_any [([97], [])] (some ⟨w.heap.size, 0, none⟩) 1 (fun b => b < (w.alloc (.cells #[.string ⟨#[97]⟩, .slice none 0 0] 53)).heap.size) _ ?_ (fun _ h => h) good1 (hE.below hb).1).mono ?_
 ·refine ⟨_, _, rfl, by decide, fun _ => ⟨w.heap.size, 0, rfl, hA.lt, [.string ⟨#[97]⟩, .slice none 0 0], ⟨[.string ⟨#[97]⟩, .slice none 0 0], [], rfl, ⟨.slice none 0 0, rfl, none, 0, rfl, Nat.le_refl _, fun h => absurd h (by decide)⟩, rfl⟩, fun j u hj => ?_⟩⟩
  rw [Nat.zero_add, hA.cell j]
  exact hj
 rintro r w' ⟨v, rfl, ho, b⟩
 rw [pS1] at ho
 obtain ⟨q, c, rfl⟩ := own_form ho
 exact ⟨q, c, rfl, (Rd.of_own ho), hb.trans (b.mono hb.size)⟩
theorem aw4 {w : World} {q : Option Addr} {c : Nat} (hr : Rd w.heap.size w (.slice q 4 c) [1, 1, 97, 0]) (hE : Env w) : Calls Tryz.prog 8 #[.slice q 4 c] w fun r w' => ∃ q c, r = .returned (.tuple #[.agg #[.slice q 1 c], .nilIface]) ∧ Below w.heap.size w w' := by
 refine (cParse_any hr (by decide) hE).mono ?_
 rintro r w' ⟨v, rfl, ⟨u, rfl, hu⟩, b⟩
 have e : parseSc [1, 1, 97, 0] = ([([97], [])], 0, 0) := by rw [← pS1]; exact parseSc_put good1
 rw [e] at hu ⊢
 obtain ⟨q, c, rfl, _⟩ := hu
 exact ⟨q, c, rfl, b⟩
theorem mk1 (w : World) : (Instr.makeSlice 24 (.int .i64 1) (.int .i64 1)).run Tryz.prog w = .ok (.slice (some ⟨w.heap.size, 0, none⟩) 1 1) (w.alloc (.cells #[.string ByteArray.empty, .slice none 0 0] 53)) := by kernel_rfl
set_option maxRecDepth 100000 in
set_option maxHeartbeats 2000000 in
theorem cons0 (fn : Fn) (q1 q2 : Array Value) (W : World) : Calls Tryz.prog 90 #[.string ByteArray.empty, .int .i64 64, .func fn q1 q2] W fun r w' => r = .returned (.bool false) ∧ Below W.heap.size W w' := by
 go_enter Tryz.func90, Tryz.ntmps90
 go_wp2_with fail
 go_ret
 exact ⟨rfl, Below.refl _ _⟩
set_option maxRecDepth 100000 in
set_option maxHeartbeats 2000000 in
theorem is0 (W : World) : Calls Tryz.prog 73 #[.string ByteArray.empty] W fun r w' => r = .returned (.bool false) ∧ Below W.heap.size W w' := by
 go_enter Tryz.func73, Tryz.ntmps73
 go_wp2_with fail
 refine (cons0 _ _ _ _).mono ?_
 rintro r w1 ⟨rfl, b1⟩
 go_wp2_with fail
 go_ret
 exact ⟨rfl, b1⟩
set_option maxRecDepth 100000 in
set_option maxHeartbeats 2000000 in
theorem hf0 (W : World) : Calls Tryz.prog 59 #[.agg #[.string ByteArray.empty, .slice none 0 0]] W fun r w' => r = .returned (.bool false) ∧ Below W.heap.size W w' := by
 have hb := (Below.refl W.heap.size W).alloc (Nat.le_refl _) (.cells #[.string ByteArray.empty, .slice none 0 0] 53)
 go_enter Tryz.func59, Tryz.ntmps59
 go_wp2_with fail
 refine (is0 _).mono ?_
 rintro r w1 ⟨rfl, b1⟩
 go_wp2_with fail
 go_ret
 exact ⟨rfl, hb.trans (b1.mono hb.size)⟩
set_option maxRecDepth 100000 in
set_option maxHeartbeats 2000000 in
theorem aw5 (w : World) : Calls Tryz.prog 12 #[.agg #[.slice (some ⟨w.heap.size, 0, none⟩) 1 1]] (w.alloc (.cells #[.string ByteArray.empty, .slice none 0 0] 53)) fun r w' => r = .returned (.tuple #[.slice none 0 0, .bool false]) ∧ Below w.heap.size w w' := by
 have hb := (Below.refl w.heap.size w).alloc (Nat.le_refl _) (.cells #[.string ByteArray.empty, .slice none 0 0] 53)
 have hA := Arr.new' w 53 #[.string ByteArray.empty, .slice none 0 0] _ rfl
 obtain ⟨w1, hw1⟩ : ∃ x, x = w.alloc (.cells #[.string ByteArray.empty, .slice none 0 0] 53) := ⟨_, rfl⟩
 rw [← hw1] at hA hb ⊢
 have hb1 := (Below.refl w1.heap.size w1).alloc (Nat.le_refl _) (.cells #[.slice (some ⟨w.heap.size, 0, none⟩) 1 1] 26)
 have HF := hiD (form1 (b := false) (hA.later hb1) fun W' _ => hf0 W')
 have HB := hiD (hb.trans (hb1.mono hb.size))
 clear hb hb1 hA hw1
 go_enter Tryz.func12, Tryz.ntmps12
 go_wp2_with fail
 refine HF.out.mono ?_
 rintro r w2 ⟨rfl, b2⟩
 have HB2 := hiD (HB.out.trans (b2.mono HB.out.size))
 clear b2 HB HF
 go_wp2_with fail
 go_ret2
 exact ⟨rfl, HB2.out⟩
set_option maxRecDepth 100000 in
set_option maxHeartbeats 4000000 in
theorem awake_any (W : World) (hE : Env W) : Calls Tryz.prog 7 #[] W fun r w' => r = .returned (.bool true) ∧ Below W.heap.size W w' := by
 have hm := mk1
 have HA1 := hiD (aw1 W hE)
 have HE := hiD hE
 clear hE
 go_enter Tryz.func7, Tryz.ntmps7
 go_upto_region 1 with (fail)
 go_wp2_with fail
 refine HA1.out.mono ?_
 rintro r w1 ⟨q1, c1, rfl, hR1, b1⟩
 have HR1 := hiD hR1
 have HB1 := hiD b1
 clear hR1 b1 HA1
 go_upto_region 2 with (fail)
 have hb1 := (Below.refl w1.heap.size w1).alloc (Nat.le_refl _) (.cells #[.int .i64 1, .string ⟨#[]⟩, .string ⟨#[97]⟩, .slice q1 0 c1] 42)
 have HA1 : Hid (Arr (w1.alloc (.cells #[.int .i64 1, .string ⟨#[]⟩, .string ⟨#[97]⟩, .slice q1 0 c1] 42)) 42 w1.heap.size [.int .i64 1, .string ⟨#[]⟩, .string ⟨#[97]⟩, .slice q1 0 c1]) := Arr.new' _ _ _ _ rfl
 have HR2 : Hid (RdE (fun b => b < w1.heap.size) (w1.alloc (.cells #[.int .i64 1, .string ⟨#[]⟩, .string ⟨#[97]⟩, .slice q1 0 c1] 42)) exA (.agg #[.int .i64 1, .string ⟨#[]⟩, .string ⟨#[97]⟩, .slice q1 0 c1])) := HR1.out.below hb1 fun _ h => h
 have HB2 := hiD (HB1.out.trans (hb1.mono HB1.out.size))
 have HLT : Hid (w1.heap.size < (w1.alloc (.cells #[.int .i64 1, .string ⟨#[]⟩, .string ⟨#[97]⟩, .slice q1 0 c1] 42)).heap.size) := HA1.out.lt
 obtain ⟨g1, hg1⟩ : ∃ g, g = w1.heap.size := ⟨_, rfl⟩
 rw [← hg1] at HA1 HR2 HLT ⊢
 clear hb1 HR1 HB1
 generalize w1.alloc (.cells #[.int .i64 1, .string ⟨#[]⟩, .string ⟨#[97]⟩, .slice q1 0 c1] 42) = w2 at HA1 HR2 HB2 HLT ⊢
 clear hg1
 have HC := hiD (aw2 w2 (HE.out.below HB2.out))
 go_wp2_with fail
 refine HC.out.mono ?_
 rintro r w3 ⟨q2, c2, rfl, b3⟩
 have HB3 := hiD (HB2.out.trans (b3.mono HB2.out.size))
 have HA3 := hiD (HA1.out.later b3)
 have HR3 : Hid (RdE (fun b => b < g1) w3 exA (.agg #[.int .i64 1, .string ⟨#[]⟩, .string ⟨#[97]⟩, .slice q1 0 c1])) := HR2.out.below b3 fun b hb => Nat.lt_trans hb HLT.out
 have HL3 : Hid (g1 < w3.heap.size) := HA3.out.lt
 clear b3 HC HA1 HR2 HB2 HLT
 obtain ⟨er, her⟩ : ∃ v, v = errF 6 0 := ⟨_, rfl⟩
 rw [← her]
 have HER := hiD her
 clear her
 go_upto_region 3 with (fail)
 have hb1 := (Below.refl w3.heap.size w3).alloc (Nat.le_refl _) (.cells #[.int .i64 0, .string ⟨#[]⟩, .string ⟨#[]⟩, .slice q2 0 c2] 42)
 have HB4 := hiD (HB3.out.trans (hb1.mono HB3.out.size))
 have HA4 := hiD (HA3.out.later hb1)
 have HR4 : Hid (RdE (fun b => b < g1) _ exA (.agg #[.int .i64 1, .string ⟨#[]⟩, .string ⟨#[97]⟩, .slice q1 0 c1])) := HR3.out.below hb1 fun b hb => Nat.lt_trans hb HL3.out
 clear hb1 HB3 HA3 HR3 HL3
 generalize w3.alloc (.cells #[.int .i64 0, .string ⟨#[]⟩, .string ⟨#[]⟩, .slice q2 0 c2] 42) = w4 at HB4 HA4 HR4 ⊢
 have HC := hiD (aw3 w4 (HE.out.below HB4.out))
 go_wp2_with fail
 refine HC.out.mono ?_
 rintro r w5 ⟨q3, c3, rfl, hR5, b5⟩
 have HB5 := hiD (HB4.out.trans (b5.mono HB4.out.size))
 have HA5 := hiD (HA4.out.later b5)
 have HR5 : Hid (RdE (fun b => b < g1) w5 exA (.agg #[.int .i64 1, .string ⟨#[]⟩, .string ⟨#[97]⟩, .slice q1 0 c1])) := HR4.out.below b5 fun b hb => Nat.lt_trans hb HA4.out.lt
 have HP5 := hiD hR5
 clear b5 hR5 HC HA4 HR4 HB4
 have HC := hiD (aw4 HP5.out (HE.out.below HB5.out))
 go_wp2_with fail
 refine HC.out.mono ?_
 rintro r w6 ⟨q4, c4, rfl, b6⟩
 have HB6 := hiD (HB5.out.trans (b6.mono HB5.out.size))
 have HA6 := hiD (HA5.out.later b6)
 have HR6 : Hid (RdE (fun b => b < g1) w6 exA (.agg #[.int .i64 1, .string ⟨#[]⟩, .string ⟨#[97]⟩, .slice q1 0 c1])) := HR5.out.below b6 fun b hb => Nat.lt_trans hb HA5.out.lt
 have HP6 := hiD ((HP5.out.below b6 (Nat.le_refl _)).mono b6.size)
 clear b6 HC HA5 HR5 HB5 HP5
 go_upto_region 5 with (fail)
 have hb1 := (Below.refl w6.heap.size w6).alloc (Nat.le_refl _) (.cells #[.slice q4 1 c4] 26)
 have HS7 : Hid (Arr (w6.alloc (.cells #[.slice q4 1 c4] 26)) 26 w6.heap.size [.slice q4 1 c4]) := Arr.new' _ _ _ _ rfl
 have HB7 := hiD (HB6.out.trans (hb1.mono HB6.out.size))
 have HA7 := hiD (HA6.out.later hb1)
 have HR7 : Hid (RdE (fun b => b < g1) _ exA (.agg #[.int .i64 1, .string ⟨#[]⟩, .string ⟨#[97]⟩, .slice q1 0 c1])) := HR6.out.below hb1 fun b hb => Nat.lt_trans hb HA6.out.lt
 have HP7 := hiD ((HP6.out.below hb1 (Nat.le_refl _)).mono hb1.size)
 obtain ⟨g2, hg2⟩ : ∃ g, g = w6.heap.size := ⟨_, rfl⟩
 rw [← hg2] at HS7 ⊢
 clear hb1 HB6 HA6 HR6 HP6
 generalize w6.alloc (.cells #[.slice q4 1 c4] 26) = w7 at HS7 HB7 HA7 HR7 HP7 ⊢
 clear hg2
 have HC := hiD (aw5 w7)
 go_wp2_with fail
 refine HC.out.mono ?_
 rintro r w8 ⟨rfl, b8⟩
 have HB8 := hiD (HB7.out.trans (b8.mono HB7.out.size))
 have HA8 := hiD (HA7.out.later b8)
 have HS8 := hiD (HS7.out.later b8)
 have HR8 : Hid (RdE (fun b => b < g1) w8 exA (.agg #[.int .i64 1, .string ⟨#[]⟩, .string ⟨#[97]⟩, .slice q1 0 c1])) := HR7.out.below b8 fun b hb => Nat.lt_trans hb HA7.out.lt
 have HP8 := hiD ((HP7.out.below b8 (Nat.le_refl _)).mono b8.size)
 clear b8 HC HA7 HS7 HR7 HB7 HP7
 have x0 := HA8.out.cell 0
 have x1 := HA8.out.cell 1
 have x2 := HA8.out.cell 2
 have x3 := HA8.out.cell 3
 simp only [List.getElem?_cons_zero, List.getElem?_cons_succ] at x0 x1 x2 x3
 have HT := hiD (told_any 6 0 w8 (HE.out.below HB8.out).2)
 rw [← HER.out] at HT
 go_wp2_with fail
 refine HT.out.mono ?_
 rintro r w9 ⟨rfl, b9⟩
 have HB9 := hiD (HB8.out.trans (b9.mono HB8.out.size))
 have HA9 := hiD (HA8.out.later b9)
 have HS9 := hiD (HS8.out.later b9)
 have HR9 : Hid (RdE (fun b => b < g1) w9 exA (.agg #[.int .i64 1, .string ⟨#[]⟩, .string ⟨#[97]⟩, .slice q1 0 c1])) := HR8.out.below b9 fun b hb => Nat.lt_trans hb HA8.out.lt
 have HP9 := hiD ((HP8.out.below b9 (Nat.le_refl _)).mono b9.size)
 clear b9 HT HA8 HS8 HR8 HB8 HP8 x0 x1 x2 x3
 go_wp2_with fail
 have hb1 := (Below.refl w9.heap.size w9).alloc (Nat.le_refl _) (.cells #[.int .u8 1, .int .u8 1, .int .u8 97, .int .u8 0] 5)
 refine (same_any (HP9.out.below hb1 (Nat.le_refl _)) (rd_lit w9 [1, 1, 97, 0] #[.int .u8 1, .int .u8 1, .int .u8 97, .int .u8 0] rfl 4 rfl (by show 4 ≤ maxLen; unfold maxLen; omega))).mono ?_
 rintro r wa ⟨rfl, na, rfl⟩
 have ea : eqB [1, 1, 97, 0] [1, 1, 97, 0] = true := by decide +kernel
 rw [ea]
 have hb2 := hb1.trans ((Joins.below_draws _ _ na).mono hb1.size)
 have HBa := hiD (HB9.out.trans (hb2.mono HB9.out.size))
 have HAa := hiD (HA9.out.later hb2)
 have HSa := hiD (HS9.out.later hb2)
 have HRa : Hid (RdE (fun b => b < g1) _ exA (.agg #[.int .i64 1, .string ⟨#[]⟩, .string ⟨#[97]⟩, .slice q1 0 c1])) := HR9.out.below hb2 fun b hb => Nat.lt_trans hb HA9.out.lt
 clear hb1 hb2 ea HA9 HS9 HR9 HB9 HP9
 generalize (World.drewN (w9.alloc (.cells #[.int .u8 1, .int .u8 1, .int .u8 97, .int .u8 0] 5)) na) = wa at HBa HAa HSa HRa ⊢
 have x0 := HAa.out.cell 0
 have x1 := HAa.out.cell 1
 have x2 := HAa.out.cell 2
 have x3 := HAa.out.cell 3
 have z0 := HSa.out.cell 0
 simp only [List.getElem?_cons_zero, List.getElem?_cons_succ] at x0 x1 x2 x3 z0
 have HC : Hid (Calls Tryz.prog 16 #[.agg #[.int .i64 1, .string ⟨#[]⟩, .string ⟨#[97]⟩, .slice q1 0 c1]] wa (Owned wa [1, 1, 97])) := by
  have h := putExpr_any exA _ (fun b => b < g1) wa HRa.out (fun b hb => Nat.lt_trans hb HAa.out.lt) (by decide +kernel) (HE.out.below HBa.out).1
  refine h.mono fun r w' h1 => ?_
  have e1 : rightE exA = true := by decide +kernel
  unfold PutP at h1
  rw [if_pos e1, pX1] at h1
  exact h1
 go_wp2_with fail
 refine HC.out.mono ?_
 rintro r wb ⟨vb, rfl, ob, bb⟩
 have HBb := hiD (HBa.out.trans (bb.mono HBa.out.size))
 have HPb := hiD (Rd.of_own ob)
 obtain ⟨qb, cb, rfl⟩ := own_form ob
 clear ob bb HC HAa HSa HRa HBa x0 x1 x2 x3 z0
 go_wp2_with fail
 have hb1 := (Below.refl wb.heap.size wb).alloc (Nat.le_refl _) (.cells #[.int .u8 1, .int .u8 1, .int .u8 97] 5)
 refine (same_any (HPb.out.below hb1 (Nat.le_refl _)) (rd_lit wb [1, 1, 97] #[.int .u8 1, .int .u8 1, .int .u8 97] rfl 3 rfl (by show 3 ≤ maxLen; unfold maxLen; omega))).mono ?_
 rintro r wc ⟨rfl, nc, rfl⟩
 have ea : eqB [1, 1, 97] [1, 1, 97] = true := by decide +kernel
 rw [ea]
 have hb2 := hb1.trans ((Joins.below_draws _ _ nc).mono hb1.size)
 have HBc := hiD (HBb.out.trans (hb2.mono HBb.out.size))
 clear hb1 hb2 ea
 generalize (World.drewN (wb.alloc (.cells #[.int .u8 1, .int .u8 1, .int .u8 97] 5)) nc) = wc at HBc ⊢
 go_wp2_with fail
 go_ret
 exact ⟨rfl, HBc.out⟩
def LvRow (P : Nat → Prop) (base : Nat) (w : World) (v : Value) (ks : List Ex) : Prop := ∃ cs, w.ownsRow base 42 4 v ks.length cs ∧ CellsL P w ks cs
theorem LvRow.nil (P : Nat → Prop) (base : Nat) (w : World) : LvRow P base w (.slice none 0 0) [] := ⟨[], World.ownsRow_nil _ _ _ _, trivial⟩
theorem LvRow.form {P : Nat → Prop} {base : Nat} {w : World} {v : Value} {ks : List Ex} (h : LvRow P base w v ks) : ∃ q c, v = .slice q ks.length c := by
 obtain ⟨cs, h1, _⟩ := h
 rcases h1.2 with ⟨h, hn⟩ | ⟨g, cap, cur, hv, _⟩
 ·exact ⟨none, 0, by rw [hn]; exact h⟩
 ·exact ⟨_, _, hv⟩
theorem LvRow.later {P : Nat → Prop} {base : Nat} {w w' : World} {v : Value} {ks : List Ex} (h : LvRow P base w v ks) (hb : Below w.heap.size w w') (hP : ∀ b, P b → b < w.heap.size) : LvRow P base w' v ks := by
 obtain ⟨cs, h1, h2⟩ := h
 refine ⟨cs, ⟨h1.1, ?_⟩, h2.keep (cells_below hb hP)⟩
 rcases h1.2 with h | ⟨g, cap, cur, rfl, h0, hg, r⟩
 ·exact .inl h
 ·exact .inr ⟨g, cap, cur, rfl, h0, (hb.block g (Array.getElem?_eq_some_iff.1 hg).1).trans hg, r⟩
theorem CellsL.app {P : Nat → Prop} {w : World} : ∀ {ks : List Ex} {cs : List Value} {ls : List Ex} {ds : List Value}, CellsL P w ks cs → CellsL P w ls ds → CellsL P w (ks ++ ls) (cs ++ ds)
 | [], [], _, _, _, h2 => h2
 | e :: r, v0 :: v1 :: v2 :: v3 :: cs, _, _, h, h2 => ⟨h.1, CellsL.app h.2 h2⟩
 | [], _ :: _, _, _, h, _ => h.elim
 | _ :: _, [], _, _, h, _ => h.elim
 | _ :: _, [_], _, _, h, _ => h.elim
 | _ :: _, [_, _], _, _, h, _ => h.elim
 | _ :: _, [_, _, _], _, _, h, _ => h.elim
theorem LvRow.rdL {P : Nat → Prop} {base : Nat} {w : World} {q : Option Addr} {n c : Nat} {ks : List Ex} (h : LvRow P base w (.slice q n c) ks) : n = ks.length ∧ ks.length ≤ c ∧ (0 < ks.length → ∃ b, q = some ⟨b, 0, none⟩ ∧ base ≤ b ∧ b < w.heap.size ∧ RdL P w ks b 0) := by
 obtain ⟨cs, h1, h2⟩ := h
 rcases h1.2 with ⟨hv, hn⟩ | ⟨g, cap, cur, hv, h0, hg, hcap, _, hcz, htk⟩
 ·simp only [Value.slice.injEq] at hv
  obtain ⟨rfl, rfl, rfl⟩ := hv
  exact ⟨hn.symm, by omega, fun h => by omega⟩
 ·simp only [Value.slice.injEq] at hv
  obtain ⟨rfl, rfl, rfl⟩ := hv
  refine ⟨rfl, hcap, fun _ => ⟨g, rfl, h0, (Array.getElem?_eq_some_iff.1 hg).1, ?_⟩⟩
  refine h2.rdL fun j u hj => ?_
  rw [Nat.zero_add]
  have hjl : j < cs.length := (List.getElem?_eq_some_iff.1 hj).1
  rw [cell_of_row w g _ cur _ (0, 0) hg, ← Array.getElem?_toList]
  rw [← htk, List.getElem?_take, if_pos (by rw [h1.1] at hjl; exact hjl)] at hj
  exact hj
theorem app_lv {ops : Array Oper} {rest : List Oper} {o : Oper} {a : Act} {Q : Exit → Act → World → Prop} {w : World} (hgd : o.guard = none) (s x : Operand) (ho : o.op = .call { callee := .builtin .append, args := #[s, x], argTypes := #[40, 40] })
  {P : Nat → Prop} {base base2 : Nat} {v vx : Value} {ks ls : List Ex} (hs : a.eval s = v) (hown : LvRow P base w v ks) (hx : a.eval x = vx) (h2 : LvRow P base2 w vx ls) (hP : ∀ b, P b → b < base)
  (hlen : ks.length + ls.length ≤ 1000000) (hbase : base ≤ w.heap.size)
  (h : ∀ v' w', LvRow P base w' v' (ks ++ ls) → Below base w w' → wpList Tryz.prog ops Q rest (a.put o.dst v') w') : wpList Tryz.prog ops Q (o :: rest) a w := by
 obtain ⟨i0, hi, hz0, hz1, hz2⟩ := info_parts Tryz.infoEx
 obtain ⟨cs, h1, hc1⟩ := hown
 obtain ⟨ds, h3, hc3⟩ := h2
 rcases h3.2 with ⟨hv, hn⟩ | ⟨g, cap, cur, hv, h0, hg, hcap, _, hcz, htk⟩
 ·obtain rfl : ls = [] := List.eq_nil_of_length_eq_zero hn
  rw [hv] at hx
  refine wpList_append_own_none hgd s x 40 ho base 42 i0 4 Tryz.underlying40 hi v ks.length cs hs h1 hx ?_
  refine h v w ⟨cs, by rw [List.append_nil]; exact h1, by rw [List.append_nil]; exact hc1⟩ (Below.refl _ _)
 ·rw [hv] at hx
  refine wpList_append_own w hgd s x 40 ho base 42 i0 _ 4 64 Tryz.underlying40 hi hz0 hz1 hz2 rfl (by decide) v ks.length cs hs h1 ⟨g, 0, none⟩ ls.length cap ds hx h3.1 ?_ hc3.ones (by unfold maxLen; omega) (by omega) hbase ?_
  ·intro j u hj
   have hjl : j < ds.length := (List.getElem?_eq_some_iff.1 hj).1
   rw [show (Addr.add ⟨g, 0, none⟩ j) = ⟨g, j, none⟩ by cases j <;> simp [Addr.add], cell_of_row w g _ cur _ (0, 0) hg, ← Array.getElem?_toList]
   rw [← htk, List.getElem?_take, if_pos (by rw [h3.1] at hjl; exact hjl)] at hj
   exact hj
  ·intro v' w' r1 r2 _
   have hb : Below base w w' := (Below.refl _ _).grown r2 hbase (fun k hk => (h1.lt k hk).1)
   exact h v' w' ⟨cs ++ ds, by rw [List.length_append]; exact r1, (hc1.app hc3).keep (cells_below hb hP)⟩ hb

set_option maxRecDepth 100000 in
set_option maxHeartbeats 4000000 in
theorem rleaves_any : ∀ (n : Nat) (e : Ex) (v : Value) (P : Nat → Prop) (w : World), sizeE e ≤ n → sizeE e ≤ 900000 → RdE P w e v → (∀ b, P b → b < w.heap.size) → Calls Tryz.prog 41 #[v] w fun r w' => ∃ v', r = .returned v' ∧ LvRow P w.heap.size w' v' (leavesE e) ∧ Below w.heap.size w w' := by
 intro n
 induction n with
 | zero => intro e v P w h; have := sizeE_pos e; omega
 | succ n ih =>
  intro e v P w hn hm h hP
  have H := hiD h
  obtain ⟨q, c, rfl, hc, hk⟩ := h.form
  obtain ⟨k, xv, xn, ks⟩ := e
  unfold exv
  show Calls _ _ #[.agg #[.int .i64 k, .string (bstr xv), .string (bstr xn), .slice q ks.length c]] _ _
  have HK : Hid (0 < ks.length → ∃ b o, q = some ⟨b, o, none⟩ ∧ P b ∧ RdL P w ks b o) := hk
  have hks : sizeL ks ≤ n := by unfold sizeE at hn; omega
  have hkm : sizeL ks ≤ 900000 := by unfold sizeE at hm; omega
  have hlen := sizeL_len ks
  have HIH := hiD ih
  have HP := hiD hP
  have HB0 : Hid (Below w.heap.size w (w.alloc (.cells #[.int .i64 k, .string (bstr xv), .string (bstr xn), .slice q ks.length c] 42))) := (Below.refl _ _).alloc (Nat.le_refl _) _
  have HA0 : Hid (Arr (w.alloc (.cells #[.int .i64 k, .string (bstr xv), .string (bstr xn), .slice q ks.length c] 42)) 42 w.heap.size [.int .i64 k, .string (bstr xv), .string (bstr xn), .slice q ks.length c]) := Arr.new' _ _ _ _ rfl
  have HP0 : Hid (∀ b, P b → b < (w.alloc (.cells #[.int .i64 k, .string (bstr xv), .string (bstr xn), .slice q ks.length c] 42)).heap.size) := fun b hb => Nat.lt_of_lt_of_le (hP b hb) HB0.out.size
  have HLF : Hid (Calls Tryz.prog 66 #[.agg #[.int .i64 k, .string (bstr xv), .string (bstr xn), .slice q ks.length c]] (w.alloc (.cells #[.int .i64 k, .string (bstr xv), .string (bstr xn), .slice q ks.length c] 42)) fun r w' => r = .returned (.bool (leafK k)) ∧ Below (w.alloc (.cells #[.int .i64 k, .string (bstr xv), .string (bstr xn), .slice q ks.length c] 42)).heap.size (w.alloc (.cells #[.int .i64 k, .string (bstr xv), .string (bstr xn), .slice q ks.length c] 42)) w') := rleaf_any (e := .mk k xv xn ks) (H.out.below HB0.out hP)
  obtain ⟨lf, hlf⟩ : ∃ lf, lf = leafK k := ⟨_, rfl⟩
  rw [← hlf] at HLF
  have HLK := hiD hlf
  clear h ih hc hk hn hm hlf hP
  go_enter Tryz.func41, Tryz.ntmps41
  go_wp2_with fail
  refine HLF.out.mono ?_
  rintro r w2 ⟨rfl, b2⟩
  have HA2 := hiD (HA0.out.later b2)
  have HB2 := hiD (HB0.out.trans (b2.mono HB0.out.size))
  clear b2 HA0 HB0 HLF HP0
  have a0 := HA2.out.cell 0
  have a1 := HA2.out.cell 1
  have a2 := HA2.out.cell 2
  have a3 := HA2.out.cell 3
  simp only [List.getElem?_cons_zero, List.getElem?_cons_succ] at a0 a1 a2 a3
  cases lf with
  | true =>
   have HL : Hid (leavesE (.mk k xv xn ks) = [.mk k xv xn ks]) := leaves_leaf HLK.out.symm
   go_wp2_with fail
   go_ret
   have hB : Below w.heap.size w (w2.alloc (.cells #[.int .i64 k, .string (bstr xv), .string (bstr xn), .slice q ks.length c] 42)) := HB2.out.alloc HB2.out.size _
   refine ⟨_, rfl, ⟨[.int .i64 k, .string (bstr xv), .string (bstr xn), .slice q ks.length c], ?_, ?_⟩, hB⟩
   ·rw [HL.out]
    exact World.ownsRow_lit w2 #[.int .i64 k, .string (bstr xv), .string (bstr xn), .slice q ks.length c] 1 HB2.out.size (by decide) rfl
   ·rw [HL.out]
    exact ⟨H.out.below hB HP.out, trivial⟩
  | false =>
   have HL : Hid (leavesE (.mk k xv xn ks) = leavesL ks) := leaves_kids (by rw [← HLK.out]; exact Bool.false_ne_true)
   have HSZ : Hid (w.heap.size + 1 ≤ w2.heap.size) := HA2.out.lt
   go_wp2_with fail
   go_loopw [3, 4] (fun ov iv wr => ∃ i : Nat, i ≤ ks.length ∧ iv = .int .i64 i ∧ Hid (LvRow P (w.heap.size + 1) wr ov (leavesL (ks.take i)) ∧ Below w.heap.size w wr ∧ Arr wr 42 w.heap.size [.int .i64 k, .string (bstr xv), .string (bstr xn), .slice q ks.length c] ∧ w.heap.size + 1 ≤ wr.heap.size)) (fun _ iv _ => ks.length - (intOf iv).toNat)
   case atStart => exact ⟨0, Nat.zero_le _, rfl, LvRow.nil _ _ _, HB2.out, HA2.out, HSZ.out⟩
   case round =>
    obtain ⟨i, hi, rfl, HI2⟩ := hrel
    clear a0 a1 a2 a3
    have HI := hiD HI2.out.2.1
    have HAI := hiD HI2.out.2.2.1
    have HS := hiD HI2.out.2.2.2
    have HRW := hiD HI2.out.1
    obtain ⟨qv, cv, rfl⟩ := HI2.out.1.form
    clear HI2
    have hi0 : (0 : Int) ≤ i := by omega
    have a0 := HAI.out.cell 0
    have a1 := HAI.out.cell 1
    have a2 := HAI.out.cell 2
    have a3 := HAI.out.cell 3
    simp only [List.getElem?_cons_zero, List.getElem?_cons_succ] at a0 a1 a2 a3
    by_cases hlt : i < ks.length
    ·have hi1 : (i : Int) < ks.length := by omega
     have hP := HP.out
     obtain ⟨ba, oa, rfl, hba, hl⟩ := HK.out (by omega)
     obtain ⟨x, hx⟩ : ∃ x, x = ks.getD i ex0 := ⟨_, rfl⟩
     obtain ⟨q2, c2, x0, x1, x2, x3, hr⟩ := hl.at hlt
     have hxs := sizeL_get ks i hlt
     have hxd := depthL_get ks i hlt
     rw [← hx] at x0 x1 x2 x3 hr hxs hxd
     have HX := hiD hx
     obtain ⟨xk, xv2, xn2, xs⟩ := x
     have cc : ∀ n, wr.cell? ⟨ba, n, none⟩ = w.cell? ⟨ba, n, none⟩ := fun n => (HI.out).cell (p := ⟨ba, n, none⟩) (hP _ hba)
     have X0 : wr.cell? ⟨ba, oa + i * 4, none⟩ = some (.int .i64 xk) := (cc _).trans x0
     have X1 : wr.cell? ⟨ba, oa + i * 4 + 1, none⟩ = some (.string (bstr xv2)) := (cc _).trans x1
     have X2 : wr.cell? ⟨ba, oa + i * 4 + 2, none⟩ = some (.string (bstr xn2)) := (cc _).trans x2
     have X3 : wr.cell? ⟨ba, oa + i * 4 + 3, none⟩ = some (.slice q2 xs.length c2) := (cc _).trans x3
     clear x0 x1 x2 x3 cc hx
     have HR : Hid (RdE P wr (.mk xk xv2 xn2 xs) (.agg #[.int .i64 xk, .string (bstr xv2), .string (bstr xn2), .slice q2 xs.length c2])) := hr.below (HI.out) hP
     have HC := hiD (HIH.out (.mk xk xv2 xn2 xs) _ P _ (by omega) (by omega) HR.out (fun b hb => Nat.lt_of_lt_of_le (hP b hb) HI.out.size))
     have HTK : Hid (leavesL (ks.take (i + 1)) = leavesL (ks.take i) ++ leavesE (.mk xk xv2 xn2 xs)) := by show _ = _; rw [take_snocE hlt, ← HX.out, leavesL_snoc]
     have HLN : Hid ((leavesL (ks.take i)).length + (leavesE (.mk xk xv2 xn2 xs)).length ≤ 1000000) := by
      show _ ≤ _
      have h2 := (leavesL_take ks i hlt).length_le
      rw [← HX.out, List.length_append] at h2
      have := leavesL_size ks
      omega
     clear hl hr hxs hxd hba hP
     go_wp2_with fail
     refine HC.out.mono ?_
     rintro r w5 ⟨v5, rfl, r5, b5⟩
     have HR5 := hiD r5
     have HW5 := hiD (HRW.out.later b5 (fun b hb => Nat.lt_of_lt_of_le (HP.out b hb) HI.out.size))
     have HB5 := hiD (HI.out.trans (b5.mono HI.out.size))
     have HA5 := hiD (HAI.out.later b5)
     have HS5 : Hid (w.heap.size + 1 ≤ w5.heap.size) := Nat.le_trans HS.out b5.size
     have HPS : Hid (∀ b, P b → b < w.heap.size + 1) := fun b hb => Nat.lt_succ_of_lt (HP.out b hb)
     obtain ⟨q5, c5, rfl⟩ := r5.form
     clear r5 b5 HC
     go_wp2_with (at_builtin; refine app_lv rfl _ _ rfl rfl HW5.out rfl HR5.out HPS.out HLN.out HS5.out ?_; intro v7 w7 h7 b7)
     go_roundw
     case rel => exact ⟨i + 1, by omega, by go_num, by rw [HTK.out]; exact h7, HB5.out.trans (b7.mono (by omega)), HA5.out.below b7 (by omega), Nat.le_trans HS5.out b7.size⟩
     case measure => simp [intOf]; omega
    ·have hi1 : ¬ (i : Int) < ks.length := by omega
     have HK2 : Hid (ks.take i = ks) := List.take_of_length_le (by omega)
     rw [HK2.out] at HRW
     go_wp2_with fail
     go_ret
     obtain ⟨cs, h1, h2⟩ := HRW.out
     refine ⟨_, rfl, ⟨cs, ?_, ?_⟩, HI.out⟩
     ·rw [HL.out, HK2.out]
      refine ⟨h1.1, ?_⟩
      rcases h1.2 with h | ⟨g, cap, cur, hv, h0, r⟩
      ·exact .inl h
      ·exact .inr ⟨g, cap, cur, hv, by omega, r⟩
     ·rw [HL.out]; exact h2
set_option maxRecDepth 100000 in
set_option maxHeartbeats 4000000 in
theorem rRight_any (e : Ex) (v : Value) (P : Nat → Prop) (w : World) (hok : okE 100000 e) (hm : sizeE e ≤ 900000) (h : RdE P w e v) (hP : ∀ b, P b → b < w.heap.size) : Calls Tryz.prog 17 #[v] w fun r w' => r = .returned (.bool (rightE e)) ∧ Below w.heap.size w w' := by
 have H := hiD h
 have HP := hiD hP
 have HM := hiD hm
 obtain ⟨q, c, rfl, hc, hk⟩ := h.form
 obtain ⟨k, xv, xn, ks⟩ := e
 unfold exv
 show Calls _ _ #[.agg #[.int .i64 k, .string (bstr xv), .string (bstr xn), .slice q ks.length c]] _ _
 have HB0 : Hid (Below w.heap.size w (w.alloc (.cells #[.int .i64 k, .string (bstr xv), .string (bstr xn), .slice q ks.length c] 42))) := (Below.refl _ _).alloc (Nat.le_refl _) _
 have HA0 : Hid (Arr (w.alloc (.cells #[.int .i64 k, .string (bstr xv), .string (bstr xn), .slice q ks.length c] 42)) 42 w.heap.size [.int .i64 k, .string (bstr xv), .string (bstr xn), .slice q ks.length c]) := Arr.new' _ _ _ _ rfl
 have HP0 : Hid (∀ b, P b → b < (w.alloc (.cells #[.int .i64 k, .string (bstr xv), .string (bstr xn), .slice q ks.length c] 42)).heap.size) := fun b hb => Nat.lt_of_lt_of_le (hP b hb) HB0.out.size
 have HRC : Hid (Calls Tryz.prog 40 #[.agg #[.int .i64 k, .string (bstr xv), .string (bstr xn), .slice q ks.length c], .int .i64 16] (w.alloc (.cells #[.int .i64 k, .string (bstr xv), .string (bstr xn), .slice q ks.length c] 42)) fun r w' => r = .returned (.bool (decide (depthE (.mk k xv xn ks) ≤ 16) && formE (.mk k xv xn ks))) ∧ Below (w.alloc (.cells #[.int .i64 k, .string (bstr xv), .string (bstr xn), .slice q ks.length c] 42)).heap.size (w.alloc (.cells #[.int .i64 k, .string (bstr xv), .string (bstr xn), .slice q ks.length c] 42)) w') := rright_any 16 (.mk k xv xn ks) _ P (w.alloc (.cells #[.int .i64 k, .string (bstr xv), .string (bstr xn), .slice q ks.length c] 42)) (by omega) hok hm (H.out.below HB0.out hP) HP0.out
 have HLC : Hid (∀ W, Below (w.alloc (.cells #[.int .i64 k, .string (bstr xv), .string (bstr xn), .slice q ks.length c] 42)).heap.size (w.alloc (.cells #[.int .i64 k, .string (bstr xv), .string (bstr xn), .slice q ks.length c] 42)) W → Calls Tryz.prog 41 #[.agg #[.int .i64 k, .string (bstr xv), .string (bstr xn), .slice q ks.length c]] W fun r w' => ∃ q2 c2, r = .returned (.slice q2 (leavesE (.mk k xv xn ks)).length c2) ∧ Below W.heap.size W w') :=
  fun W hW => (rleaves_any _ (.mk k xv xn ks) _ P W (Nat.le_refl _) hm ((H.out.below HB0.out hP).below hW HP0.out) (fun b hb => Nat.lt_of_lt_of_le (HP0.out b hb) hW.size)).mono fun r w' ⟨v', h1, h2, h3⟩ => by
   obtain ⟨q2, c2, rfl⟩ := h2.form
   exact ⟨q2, c2, h1, h3⟩
 have hsz := leaves_size (.mk k xv xn ks)
 obtain ⟨F, hF⟩ : ∃ F, F = (decide (depthE (.mk k xv xn ks) ≤ 16) && formE (.mk k xv xn ks)) := ⟨_, rfl⟩
 obtain ⟨N, hN⟩ : ∃ N, N = (leavesE (.mk k xv xn ks)).length := ⟨_, rfl⟩
 have HRE : Hid (rightE (.mk k xv xn ks) = (decide (N ≤ 32) && F)) := by show _ = _; unfold rightE; rw [hF, hN]
 rw [← hF] at HRC
 rw [← hN] at HLC hsz
 rw [HRE.out]
 have hn1 : N ≤ 900000 := by omega
 clear h hc hk hm hP hok hF hN hsz
 go_enter Tryz.func17, Tryz.ntmps17
 go_wp2_with fail
 refine HRC.out.mono ?_
 rintro r w5 ⟨rfl, b5⟩
 have HB5 := hiD (HB0.out.trans (b5.mono HB0.out.size))
 have HC5 := hiD (HLC.out w5 b5)
 have HA5 := hiD (HA0.out.later b5)
 have z0 := HA5.out.cell 0
 have z1 := HA5.out.cell 1
 have z2 := HA5.out.cell 2
 have z3 := HA5.out.cell 3
 simp only [List.getElem?_cons_zero, List.getElem?_cons_succ] at z0 z1 z2 z3
 clear b5
 cases F with
 | true =>
  go_wp2_with fail
  refine HC5.out.mono ?_
  rintro r w6 ⟨q2, c2, rfl, b6⟩
  have HB6 := hiD (HB5.out.trans (b6.mono HB5.out.size))
  clear b6
  go_wp2_with fail
  go_ret
  exact ⟨by rw [show decide (N ≤ 32) = decide ((N : Int) ≤ 32) from decide_eq_decide.2 (by omega), Bool.and_true]; rfl, HB6.out⟩
 | false =>
  go_wp2_with fail
  go_ret
  exact ⟨by rw [Bool.and_false]; rfl, HB5.out⟩
end Go.Proofs.YtdnmgemjhpkekaaGreatDoor
namespace Go.Proofs.YtdnmgemjhpkekaaGreatDoor
open Go.ChangeShapes Go.WideShapes Go.ChangeAt Go.RowKit Go.Deep
set_option linter.unusedVariables false

theorem RdL.mk {P : Nat → Prop} {w : World} {b : Nat} : ∀ {ks : List Ex} {o : Nat}, (∀ i, i < ks.length → ∃ v0 v1 v2 v3, w.cell? ⟨b, o + i * 4, none⟩ = some v0 ∧ w.cell? ⟨b, o + i * 4 + 1, none⟩ = some v1 ∧ w.cell? ⟨b, o + i * 4 + 2, none⟩ = some v2 ∧ w.cell? ⟨b, o + i * 4 + 3, none⟩ = some v3 ∧ RdE P w (ks.getD i ex0) (.agg #[v0, v1, v2, v3])) → RdL P w ks b o
 | [], _, _ => by unfold RdL; trivial
 | e :: r, o, h => by
  unfold RdL
  refine ⟨?_, RdL.mk fun i hi => ?_⟩
  ·have := h 0 (by simp)
   simpa using this
  ·have := h (i + 1) (by simpa using hi)
   rw [show o + (i + 1) * 4 = o + 4 + i * 4 by omega] at this
   simpa using this
theorem okL_mk {M : Nat} : ∀ {ks : List Ex}, (∀ i, i < ks.length → okE M (ks.getD i ex0)) → okL M ks
 | [], _ => by unfold okL; trivial
 | e :: r, h => by
  unfold okL
  exact ⟨by simpa using h 0 (by simp), okL_mk fun i hi => by simpa using h (i + 1) (by simpa using hi)⟩
section
variable {H : Type} {enc : TypeId × Value → H}
theorem weightsAll_mem {P : Program} {e : TypeId} : ∀ {l : List (DataW H)} {d : DataW H}, d ∈ l → ∀ n ∈ d.weights P e, n ∈ DataW.weightsAll P e l
 | [], _, h, _, _ => by cases h
 | d0 :: l, d, h, n, hn => by
  simp only [DataW.weightsAll, List.mem_append]
  rcases List.mem_cons.1 h with rfl | h
  ·exact .inl hn
  ·exact .inr (weightsAll_mem h n hn)
theorem ex_weights (d0 d1 d2 d3 : DataW H) : DataW.weights Tryz.prog 42 (.agg [d0, d1, d2, d3]) = d0.weights Tryz.prog 3 ++ (d1.weights Tryz.prog 9 ++ (d2.weights Tryz.prog 9 ++ (d3.weights Tryz.prog 40 ++ []))) := by
 conv => lhs; unfold DataW.weights
 rw [Tryz.underlying42]
 rfl
theorem exs_weights (l r : List (DataW H)) : ∀ d ∈ l, ∀ n ∈ d.weights Tryz.prog 42, n ∈ DataW.weights Tryz.prog 40 (.slice l r) := fun d hd n hn => by
 have e : DataW.weights Tryz.prog 40 (.slice l r) = (l.length + r.length) * Tryz.prog.bytesOf 42 :: (DataW.weightsAll Tryz.prog 42 l ++ DataW.weightsAll Tryz.prog 42 r) := by
  conv => lhs; unfold DataW.weights
  rw [Tryz.underlying40]
 rw [e]
 exact List.mem_cons_of_mem _ (List.mem_append_left _ (weightsAll_mem hd n hn))
theorem list4 {α : Type} {l : List α} (h : l.length = 4) : ∃ a b c d, l = [a, b, c, d] := by
 match l, h with
 | [a, b, c, d], _ => exact ⟨a, b, c, d, rfl⟩
theorem cellsEx : Tryz.prog.cellsOf 42 = 4 := by kernel_rfl
set_option maxRecDepth 100000 in
theorem rdE_open {w : World} : ∀ (fuel : Nat) (cs : List Value) (d : DataW H) (p : List MemPlace), DataW.trod enc Tryz.prog w 0 (fun _ => true) true fuel 42 cs = some (d, p) →
  ∃ e : Ex, RdE (fun b => b < w.heap.size) w e (.agg cs.toArray) ∧ ((∀ n ∈ d.weights Tryz.prog 42, n ≤ reachBytes) → okE bigM e) := by
 intro fuel
 induction fuel using Nat.strongRecOn with
 | ind fuel ih =>
  intro cs d p hf
  obtain ⟨xs, n, rfl, hx, hcl, hlen, hel⟩ := DataW.trod_struct Tryz.underlying42 hf
  obtain ⟨c0, c1, c2, c3, rfl⟩ := list4 (hcl.trans cellsEx)
  obtain ⟨x0, x1, x2, x3, rfl⟩ := list4 (show xs.length = 4 from hlen)
  simp only [Prod.mk.injEq, List.map_cons, List.map_nil] at hx
  obtain ⟨rfl, _⟩ := hx
  have k0 := hel 0 _ rfl
  have k1 := hel 1 _ rfl
  have k2 := hel 2 _ rfl
  have k3 := hel 3 _ rfl
  obtain ⟨k, e0, y0, _⟩ := DataW.trod_int Tryz.underlying3 (show DataW.trod enc Tryz.prog w 0 (fun _ => true) true n 3 [c0] = some x0 from k0)
  obtain ⟨s1, e1, y1, _⟩ := DataW.trod_string Tryz.underlying9 (show DataW.trod enc Tryz.prog w 0 (fun _ => true) true n 9 [c1] = some x1 from k1)
  obtain ⟨s2, e2, y2, _⟩ := DataW.trod_string Tryz.underlying9 (show DataW.trod enc Tryz.prog w 0 (fun _ => true) true n 9 [c2] = some x2 from k2)
  obtain rfl : c0 = .int .i64 k := by simpa using e0
  obtain rfl : c1 = .string s1 := by simpa using e1
  obtain rfl : c2 = .string s2 := by simpa using e2
  subst y0; subst y1; subst y2
  have k3' : DataW.trod enc Tryz.prog w 0 (fun _ => true) true n 40 [c3] = some x3 := k3
  rcases DataW.trod_slice Tryz.underlying40 k3' with ⟨hc, hx3⟩ | ⟨a, len, cap, elems, rest, m, hnm, hc, hx3, _, hlc, _, hel3, hat, _, _⟩
  ·obtain rfl : c3 = .slice none 0 0 := by simpa using hc
   refine ⟨.mk k s1.data.toList s2.data.toList [], ?_, fun hw => ?_⟩
   ·unfold RdE
    rw [bstr_back, bstr_back]
    exact ⟨none, 0, rfl, Nat.le_refl _, fun h => by simp at h⟩
   ·unfold okE
    rw [ex_weights] at hw
    exact ⟨Nat.le_trans (hw _ (by simp [DataW.weights])) (by decide), Nat.le_trans (hw _ (by simp [DataW.weights])) (by decide), by unfold okL; trivial⟩
  ·obtain rfl : c3 = .slice (some a) len cap := by simpa using hc
   subst hnm hx3
   have key : ∀ i, ∃ e : Ex, i < len → (∃ v0 v1 v2 v3, w.cell? ((a.add (i * 4)).add 0) = some v0 ∧ w.cell? ((a.add (i * 4)).add 1) = some v1 ∧ w.cell? ((a.add (i * 4)).add 2) = some v2 ∧ w.cell? ((a.add (i * 4)).add 3) = some v3 ∧ RdE (fun b => b < w.heap.size) w e (.agg #[v0, v1, v2, v3])) ∧
     ∃ y : DataW H × List MemPlace, elems[i]? = some y ∧ ((∀ n ∈ y.1.weights Tryz.prog 42, n ≤ reachBytes) → okE bigM e) := by
    intro i
    by_cases hil : i < len
    ·have h1 := hat i hil
     have hy : elems[i]? = some (elems[i]'(by omega)) := List.getElem?_eq_getElem (by omega)
     rw [hy, cellsEx] at h1
     obtain ⟨cs', hc1, hc2⟩ := Option.bind_eq_some_iff.1 h1
     obtain ⟨_, hcl4, hcat⟩ := World.cells?_some hc1
     obtain ⟨v0, v1, v2, v3, rfl⟩ := list4 hcl4
     obtain ⟨e, he1, he2⟩ := ih m (by omega) _ (elems[i]'(by omega)).1 (elems[i]'(by omega)).2 hc2
     exact ⟨e, fun _ => ⟨⟨v0, v1, v2, v3, hcat 0 (by omega), hcat 1 (by omega), hcat 2 (by omega), hcat 3 (by omega), he1⟩, _, hy, he2⟩⟩
    ·exact ⟨ex0, fun h => absurd h hil⟩
   obtain ⟨f, hf2⟩ := Classical.axiomOfChoice key
   have hlenf : ((List.range len).map f).length = len := by simp
   have hget : ∀ i, i < len → ((List.range len).map f).getD i ex0 = f i := fun i h => by
    rw [List.getD_eq_getElem?_getD, List.getElem?_map, List.getElem?_range h]; rfl
   refine ⟨.mk k s1.data.toList s2.data.toList ((List.range len).map f), ?_, fun hw => ?_⟩
   ·unfold RdE
    rw [bstr_back, bstr_back, hlenf]
    refine ⟨some a, cap, rfl, hlc, fun h0 => ?_⟩
    obtain ⟨b, off, spot⟩ := a
    obtain ⟨v0, _, _, _, hc0, _⟩ := (hf2 0 h0).1
    have hspot : spot = none := by simpa [Addr.add] using World.cell?_spot hc0
    subst hspot
    have hb := World.block_lt_of_cell? w _ hc0
    refine ⟨b, off, rfl, by simpa [Addr.add] using hb, RdL.mk fun i hi => ?_⟩
    rw [hlenf] at hi
    rw [hget i hi]
    obtain ⟨v0, v1, v2, v3, g0, g1, g2, g3, g4⟩ := (hf2 i hi).1
    have ea : ∀ j, (((⟨b, off, none⟩ : Addr).add (i * 4)).add j) = ⟨b, off + i * 4 + j, none⟩ := fun j => by
     unfold Addr.add; split <;> split <;> simp_all
    rw [ea] at g0 g1 g2 g3
    exact ⟨v0, v1, v2, v3, g0, g1, g2, g3, g4⟩
   ·unfold okE
    rw [ex_weights] at hw
    refine ⟨Nat.le_trans (hw _ (by simp [DataW.weights])) (by decide), Nat.le_trans (hw _ (by simp [DataW.weights])) (by decide), okL_mk fun i hi => ?_⟩
    rw [hlenf] at hi
    rw [hget i hi]
    obtain ⟨_, y, hy, hok⟩ := hf2 i hi
    refine hok fun n hn => hw n ?_
    have hm : y.1 ∈ elems.map (·.1) := List.mem_map.2 ⟨y, List.mem_of_getElem? hy, rfl⟩
    have := exs_weights (elems.map (·.1)) (rest.map (·.1)) y.1 hm n hn
    simp only [List.mem_append]
    exact .inr (.inr (.inr (.inl this)))
set_option maxRecDepth 100000 in
theorem expr_open {w : World} {base : Nat} {v : Value} {d : DataW H} {p : List MemPlace} (hv : Value.okWide Tryz.prog w .any base 42 v) (h : DataW.Trod enc Tryz.prog w 0 (fun _ => true) true 42 v d p) :
  ∃ e : Ex, RdE (fun b => b < w.heap.size) w e v ∧ ((∀ n ∈ d.weights Tryz.prog 42, n ≤ reachBytes) → okE bigM e) := by
 obtain ⟨cs, rfl, hsz⟩ := okWide_struct Tryz.underlying42 hv
 obtain ⟨fuel, hf⟩ := h
 obtain ⟨e, h1, h2⟩ := rdE_open fuel _ d p hf
 exact ⟨e, h1, h2⟩
end
end Go.Proofs.YtdnmgemjhpkekaaGreatDoor
namespace Go.Proofs.YtdnmgemjhpkekaaGreatDoor
open Go.ChangeShapes Go.WideShapes Go.ChangeAt Go.RowKit
set_option linter.unusedVariables false

def InE (w : World) (g : Nat) (k : Int) (xv xn : List UInt8) (ks : List Ex) (q : Option Addr) (c : Nat) (W : World) : Prop :=
 Arr W 42 g [.int .i64 k, .string (bstr xv), .string (bstr xn), .slice q ks.length c] ∧ RdE (fun b => b < w.heap.size) W (.mk k xv xn ks) (.agg #[.int .i64 k, .string (bstr xv), .string (bstr xn), .slice q ks.length c])
theorem InE.later {w : World} {g : Nat} {k : Int} {xv xn : List UInt8} {ks : List Ex} {q : Option Addr} {c : Nat} {W W' : World} (h : InE w g k xv xn ks q c W) (hw : w.heap.size ≤ W.heap.size) (hb : Below W.heap.size W W') : InE w g k xv xn ks q c W' :=
 ⟨h.1.later hb, h.2.below hb fun b hb => Nat.lt_of_lt_of_le hb hw⟩
def SE (w : World) (k : Int) (xv xn : List UInt8) (ks : List Ex) (q : Option Addr) (c : Nat) (W : World) : Prop := InE w w.heap.size k xv xn ks q c W ∧ Env W ∧ Below w.heap.size w W
theorem SE.later {w : World} {k : Int} {xv xn : List UInt8} {ks : List Ex} {q : Option Addr} {c : Nat} {W W' : World} (h : SE w k xv xn ks q c W) (hb : Below W.heap.size W W') : SE w k xv xn ks q c W' :=
 ⟨h.1.later h.2.2.size hb, h.2.1.below hb, h.2.2.trans (hb.mono h.2.2.size)⟩
def FewE (e : Ex) : Prop := sizeE e ≤ 900000 ∧ okE 100000 e
theorem few_of {e : Ex} (h : cntE 31 e ≤ 150) : FewE e := by
 obtain ⟨h1, h2, _⟩ := cntE_few 31 e (by omega)
 exact ⟨by omega, h2⟩
theorem right_fine {e : Ex} (h : rightE e = true) : okE 64 e ∧ sizeE e ≤ 64 ∧ (putE e).length ≤ 1000000 := by
 obtain ⟨h1, _, h3⟩ := right_all h
 obtain ⟨h4, h5⟩ := form_small e h1
 have h6 : sizeE e ≤ 64 := by omega
 exact ⟨h4, h6, Nat.le_trans (putE_len e h4 h1 h6) (by omega)⟩
theorem SE.start {w : World} {k : Int} {xv xn : List UInt8} {ks : List Ex} {q : Option Addr} {c : Nat} (hr : Env w) (h : RdE (fun b => b < w.heap.size) w (.mk k xv xn ks) (.agg #[.int .i64 k, .string (bstr xv), .string (bstr xn), .slice q ks.length c])) : SE w k xv xn ks q c (w.alloc (.cells #[.int .i64 k, .string (bstr xv), .string (bstr xn), .slice q ks.length c] 42)) := by
 have hb : Below w.heap.size w (w.alloc (.cells #[.int .i64 k, .string (bstr xv), .string (bstr xn), .slice q ks.length c] 42)) := (Below.refl _ _).alloc (Nat.le_refl _) _
 exact ⟨⟨Arr.new' _ _ _ _ rfl, h.below hb fun _ h => h⟩, hr.below hb, hb⟩
section
variable {w W : World} {k : Int} {xv xn : List UInt8} {ks : List Ex} {q : Option Addr} {c : Nat}
theorem SE.lt (h : SE w k xv xn ks q c W) : ∀ b, b < w.heap.size → b < W.heap.size := fun b hb => Nat.lt_of_lt_of_le hb h.2.2.size
theorem cAwake (h : SE w k xv xn ks q c W) : Calls Tryz.prog 7 #[] W fun e w' => e = .returned (.bool true) ∧ SE w k xv xn ks q c w' :=
 (awake_any W h.2.1).mono fun e w' ⟨h1, h2⟩ => ⟨h1, h.later h2⟩
theorem cFew (ho : okE bigM (.mk k xv xn ks)) (h : SE w k xv xn ks q c W) : Calls Tryz.prog 15 #[.agg #[.int .i64 k, .string (bstr xv), .string (bstr xn), .slice q ks.length c]] W fun e w' => e = .returned (.bool (decide (cntE 31 (.mk k xv xn ks) ≤ 150))) ∧ SE w k xv xn ks q c w' :=
 (few_any _ _ _ W ho h.1.2 h.lt).mono fun e w' ⟨h1, h2⟩ => ⟨h1, h.later h2⟩
theorem crRight (hf : FewE (.mk k xv xn ks)) (h : SE w k xv xn ks q c W) : Calls Tryz.prog 17 #[.agg #[.int .i64 k, .string (bstr xv), .string (bstr xn), .slice q ks.length c]] W fun e w' => e = .returned (.bool (rightE (.mk k xv xn ks))) ∧ SE w k xv xn ks q c w' :=
 (rRight_any _ _ _ W hf.2 hf.1 h.1.2 h.lt).mono fun e w' ⟨h1, h2⟩ => ⟨h1, h.later h2⟩
theorem cPutX (hf : FewE (.mk k xv xn ks)) (h : SE w k xv xn ks q c W) (hr : rightE (.mk k xv xn ks) = true) : Calls Tryz.prog 16 #[.agg #[.int .i64 k, .string (bstr xv), .string (bstr xn), .slice q ks.length c]] W fun e w' => ∃ q' c', e = .returned (.slice q' (putE (.mk k xv xn ks)).length c') ∧ Rd w'.heap.size w' (.slice q' (putE (.mk k xv xn ks)).length c') (putE (.mk k xv xn ks)) ∧ SE w k xv xn ks q c w' := by
 refine (putExpr_any _ _ _ W h.1.2 h.lt hf.1 h.2.1.1).mono fun e w' h1 => ?_
 unfold PutP at h1
 rw [if_pos hr] at h1
 obtain ⟨v, rfl, ho, b⟩ := h1
 obtain ⟨q', c', rfl⟩ := own_form ho
 exact ⟨q', c', rfl, Rd.of_own ho, h.later b⟩
theorem cPutX0 (hf : FewE (.mk k xv xn ks)) (h : SE w k xv xn ks q c W) (hr : rightE (.mk k xv xn ks) = false) : Calls Tryz.prog 16 #[.agg #[.int .i64 k, .string (bstr xv), .string (bstr xn), .slice q ks.length c]] W fun e w' => e = .returned (.slice none 0 0) ∧ SE w k xv xn ks q c w' := by
 refine (putExpr_any _ _ _ W h.1.2 h.lt hf.1 h.2.1.1).mono fun e w' h1 => ?_
 unfold PutP at h1
 rw [if_neg (by rw [hr]; decide)] at h1
 exact ⟨h1.1, h.later h1.2⟩
theorem cParseX {T : List UInt8} {vb : Value} (h : SE w k xv xn ks q c W) (hr : rightE (.mk k xv xn ks) = true) (hT : T = putE (.mk k xv xn ks)) (ht : Rd W.heap.size W vb T) : Calls Tryz.prog 18 #[vb] W fun e w' => ∃ q' c', e = .returned (.tuple #[.agg #[.int .i64 k, .string (bstr xv), .string (bstr xn), .slice q' ks.length c'], .nilIface]) ∧ RdE (fun b => b < w'.heap.size) w' (.mk k xv xn ks) (.agg #[.int .i64 k, .string (bstr xv), .string (bstr xn), .slice q' ks.length c']) ∧ SE w k xv xn ks q c w' ∧ Below W.heap.size W w' := by
 subst hT
 refine (cParseExpr_any ht (right_fine hr).2.2 h.2.1).mono ?_
 rintro r w' ⟨v, rfl, hv, b⟩
 rw [parseEx_put hr] at hv ⊢
 obtain ⟨q', c', rfl, _⟩ := hv.form
 exact ⟨q', c', rfl, hv.imp fun b hb => hb.2, h.later b, b⟩
theorem crPutX (h : SE w k xv xn ks q c W) (hr : rightE (.mk k xv xn ks) = true) : Calls Tryz.prog 19 #[.agg #[.int .i64 k, .string (bstr xv), .string (bstr xn), .slice q ks.length c]] W fun e w' => ∃ q' c', e = .returned (.slice q' (putE (.mk k xv xn ks)).length c') ∧ Rd w'.heap.size w' (.slice q' (putE (.mk k xv xn ks)).length c') (putE (.mk k xv xn ks)) ∧ Below W.heap.size W w' := by
 refine (rputX_any 64 (Nat.le_refl _) _ _ _ W (right_fine hr).2.1 (right_fine hr).1 (right_all hr).1 h.1.2 h.lt).mono fun e w' h1 => ?_
 obtain ⟨v, rfl, ho, b⟩ := h1
 obtain ⟨q', c', rfl⟩ := own_form ho
 exact ⟨q', c', rfl, Rd.of_own ho, b⟩
end
set_option maxRecDepth 100000 in
set_option maxHeartbeats 4000000 in
theorem cexprs_any (e : Ex) (v : Value) (w : World) (ho : okE bigM e) (h : RdE (fun b => b < w.heap.size) w e v) (hr : Env w) : Calls Tryz.prog 4 #[v] w fun r w' => r = .returned (.bool true) ∧ Below w.heap.size w w' := by
 obtain ⟨q, c, rfl, _, _⟩ := h.form
 obtain ⟨k, xv, xn, ks⟩ := e
 unfold exv at h ⊢
 show Calls _ _ #[.agg #[.int .i64 k, .string (bstr xv), .string (bstr xn), .slice q ks.length c]] _ _
 have HS : Hid (SE w k xv xn ks q c (w.alloc (.cells #[.int .i64 k, .string (bstr xv), .string (bstr xn), .slice q ks.length c] 42))) := SE.start hr h
 have HO := hiD ho
 clear ho h hr
 go_enter Tryz.func4, Tryz.ntmps4
 go_wp2_with fail
 generalize w.alloc (.cells #[.int .i64 k, .string (bstr xv), .string (bstr xn), .slice q ks.length c] 42) = w0 at HS ⊢
 refine (cAwake HS.out).mono ?_
 rintro r w1 ⟨rfl, s1⟩
 have HS1 := hiD s1
 have z0 := HS1.out.1.1.cell 0
 have z1 := HS1.out.1.1.cell 1
 have z2 := HS1.out.1.1.cell 2
 have z3 := HS1.out.1.1.cell 3
 simp only [List.getElem?_cons_zero, List.getElem?_cons_succ] at z0 z1 z2 z3
 have HFC := hiD (cFew HO.out s1)
 obtain ⟨fw, hfw⟩ : ∃ f, f = decide (cntE 31 (.mk k xv xn ks) ≤ 150) := ⟨_, rfl⟩
 rw [← hfw] at HFC
 have HFW := hiD hfw
 clear s1 HS hfw
 go_wp2_with fail
 refine HFC.out.mono ?_
 rintro r w2 ⟨rfl, s2⟩
 have HS2 := hiD s2
 clear s2 HFC HS1 z0 z1 z2 z3
 cases fw with
 | false =>
  go_wp2_with fail
  refine (cAwake HS2.out).mono ?_
  rintro r w3 ⟨rfl, s3⟩
  have HB := hiD s3.2.2
  clear s3
  go_wp2_with fail
  go_ret
  exact ⟨rfl, HB.out⟩
 | true =>
  have HF := hiD (few_of (of_decide_eq_true HFW.out.symm))
  clear HFW
  obtain ⟨R, hR⟩ : ∃ R, R = rightE (.mk k xv xn ks) := ⟨_, rfl⟩
  have HR := hiD hR
  clear hR
  have z0 := HS2.out.1.1.cell 0
  have z1 := HS2.out.1.1.cell 1
  have z2 := HS2.out.1.1.cell 2
  have z3 := HS2.out.1.1.cell 3
  simp only [List.getElem?_cons_zero, List.getElem?_cons_succ] at z0 z1 z2 z3
  cases R with
  | false =>
   have HC := hiD (cPutX0 HF.out HS2.out HR.out.symm)
   go_wp2_with fail
   refine HC.out.mono ?_
   rintro r w3 ⟨rfl, s3⟩
   have HS3 := hiD s3
   clear s3 HC HS2
   clear z0 z1 z2 z3
   have z0 := HS3.out.1.1.cell 0
   have z1 := HS3.out.1.1.cell 1
   have z2 := HS3.out.1.1.cell 2
   have z3 := HS3.out.1.1.cell 3
   simp only [List.getElem?_cons_zero, List.getElem?_cons_succ] at z0 z1 z2 z3
   have HC := hiD (crRight HF.out HS3.out)
   rw [← HR.out] at HC
   go_wp2_with fail
   refine HC.out.mono ?_
   rintro r w4 ⟨rfl, s4⟩
   have HB := hiD s4.2.2
   clear s4 HC HS3
   go_wp2_with fail
   go_ret
   exact ⟨rfl, HB.out⟩
  | true =>
   obtain ⟨T, hT⟩ : ∃ T, T = putE (.mk k xv xn ks) := ⟨_, rfl⟩
   have HT := hiD hT
   clear hT
   have HC := hiD (cPutX HF.out HS2.out HR.out.symm)
   rw [← HT.out] at HC
   go_wp2_with fail
   refine HC.out.mono ?_
   rintro r w3 ⟨q1, c1, rfl, r3, s3⟩
   have HS3 := hiD s3
   have HT3 := hiD r3
   clear s3 r3 HC HS2
   clear z0 z1 z2 z3
   have z0 := HS3.out.1.1.cell 0
   have z1 := HS3.out.1.1.cell 1
   have z2 := HS3.out.1.1.cell 2
   have z3 := HS3.out.1.1.cell 3
   simp only [List.getElem?_cons_zero, List.getElem?_cons_succ] at z0 z1 z2 z3
   have HC := hiD (crRight HF.out HS3.out)
   rw [← HR.out] at HC
   have HBB := hiD (rRight_any _ _ _ _ HF.out.2 HF.out.1 HS3.out.1.2 HS3.out.lt)
   rw [← HR.out] at HBB
   go_wp2_with fail
   refine HBB.out.mono ?_
   rintro r w4 ⟨rfl, b4⟩
   have HS4 := hiD (HS3.out.later b4)
   have HT4 := hiD ((HT3.out.below b4 (Nat.le_refl _)).mono b4.size)
   clear b4 HC HBB HS3 HT3
   clear z0 z1 z2 z3
   have HC := hiD (cParseX HS4.out HR.out.symm HT.out HT4.out)
   go_wp2_with fail
   refine HC.out.mono ?_
   rintro r w5 ⟨q2, c2, rfl, r5, s5, b5⟩
   have HS5 := hiD s5
   have HR5 := hiD r5
   have HT5 := hiD ((HT4.out.below b5 (Nat.le_refl _)).mono b5.size)
   clear s5 r5 b5 HC HS4 HT4
   go_upto_region 7 with (fail)
   have hb1 := (Below.refl w5.heap.size w5).alloc (Nat.le_refl _) (.cells #[.int .i64 k, .string (bstr xv), .string (bstr xn), .slice q2 ks.length c2] 42)
   have HA6 : Hid (Arr (w5.alloc (.cells #[.int .i64 k, .string (bstr xv), .string (bstr xn), .slice q2 ks.length c2] 42)) 42 w5.heap.size [.int .i64 k, .string (bstr xv), .string (bstr xn), .slice q2 ks.length c2]) := Arr.new' _ _ _ _ rfl
   have HS6 := hiD (HS5.out.later hb1)
   have HR6 : Hid (RdE (fun b => b < w5.heap.size) _ (.mk k xv xn ks) (.agg #[.int .i64 k, .string (bstr xv), .string (bstr xn), .slice q2 ks.length c2])) := HR5.out.below hb1 fun _ h => h
   have HT6 := hiD ((HT5.out.below hb1 (Nat.le_refl _)).mono hb1.size)
   obtain ⟨g2, hg2⟩ : ∃ g, g = w5.heap.size := ⟨_, rfl⟩
   rw [← hg2] at HA6 HR6 ⊢
   clear hb1 HS5 HR5 HT5
   generalize w5.alloc (.cells #[.int .i64 k, .string (bstr xv), .string (bstr xn), .slice q2 ks.length c2] 42) = w6 at HA6 HS6 HR6 HT6 ⊢
   clear hg2
   have z0 := HS6.out.1.1.cell 0
   have z1 := HS6.out.1.1.cell 1
   have z2 := HS6.out.1.1.cell 2
   have z3 := HS6.out.1.1.cell 3
   simp only [List.getElem?_cons_zero, List.getElem?_cons_succ] at z0 z1 z2 z3
   have HC := hiD (crPutX HS6.out HR.out.symm)
   rw [← HT.out] at HC
   go_wp2_with fail
   refine HC.out.mono ?_
   rintro r w7 ⟨q3, c3, rfl, r7, b7⟩
   have HS7 := hiD (HS6.out.later b7)
   have HA7 := hiD (HA6.out.later b7)
   have HR7 : Hid (RdE (fun b => b < g2) w7 (.mk k xv xn ks) (.agg #[.int .i64 k, .string (bstr xv), .string (bstr xn), .slice q2 ks.length c2])) := HR6.out.below b7 fun b hb => Nat.lt_trans hb HA6.out.lt
   have HT7 := hiD ((HT6.out.below b7 (Nat.le_refl _)).mono b7.size)
   have HU7 := hiD r7
   clear r7 b7 HC HS6 HA6 HR6 HT6
   clear z0 z1 z2 z3
   have HC := hiD (same_any HT7.out HU7.out)
   rw [show eqB T T = true from by unfold eqB; exact beq_self_eq_true T] at HC
   go_wp2_with fail
   refine HC.out.mono ?_
   rintro r w8 ⟨rfl, n8, rfl⟩
   have b8 := Joins.below_draws w7.heap.size w7 n8
   have HS8 := hiD (HS7.out.later b8)
   have HA8 := hiD (HA7.out.later b8)
   have HR8 : Hid (RdE (fun b => b < g2) _ (.mk k xv xn ks) (.agg #[.int .i64 k, .string (bstr xv), .string (bstr xn), .slice q2 ks.length c2])) := HR7.out.below b8 fun b hb => Nat.lt_trans hb HA7.out.lt
   clear b8 HC HS7 HA7 HR7 HT7 HU7
   generalize World.drewN w7 n8 = w8 at HS8 HA8 HR8 ⊢
   have z0 := HS8.out.1.1.cell 0
   have z1 := HS8.out.1.1.cell 1
   have z2 := HS8.out.1.1.cell 2
   have z3 := HS8.out.1.1.cell 3
   simp only [List.getElem?_cons_zero, List.getElem?_cons_succ] at z0 z1 z2 z3
   have y0 := HA8.out.cell 0
   have y1 := HA8.out.cell 1
   have y2 := HA8.out.cell 2
   have y3 := HA8.out.cell 3
   simp only [List.getElem?_cons_zero, List.getElem?_cons_succ] at y0 y1 y2 y3
   have HC := hiD (rcompare_any _ (.mk k xv xn ks) (.mk k xv xn ks) _ _ _ _ w8 (Nat.le_refl _) HF.out.1 HF.out.1 HF.out.2 HF.out.2 HR8.out HS8.out.1.2 (fun b hb => Nat.lt_trans hb HA8.out.lt) HS8.out.lt)
   rw [cmpE_self] at HC
   go_wp2_with fail
   refine HC.out.mono ?_
   rintro r w9 ⟨rfl, b9⟩
   have HB := hiD (HS8.out.later b9).2.2
   clear b9 HC HS8 HA8 HR8
   clear z0 z1 z2 z3 y0 y1 y2 y3
   go_wp2_with fail
   go_ret
   exact ⟨rfl, HB.out⟩
end Go.Proofs.YtdnmgemjhpkekaaGreatDoor
