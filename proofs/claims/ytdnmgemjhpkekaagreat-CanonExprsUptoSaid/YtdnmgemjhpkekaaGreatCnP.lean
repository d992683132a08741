/-
  The reference's put.
-/
import Derived.Test.YtdnmgemjhpkekaaGreatCnK
import Derived.Test.YtdnmgemjhpkekaaGreatCnD
import Derived.Test.YtdnmgemjhpkekaaGreatExT
import Derived.Test.YtdnmgemjhpkekaaGreatCaB
namespace Go.Proofs.YtdnmgemjhpkekaaGreat
open Go.ChangeShapes Go.WideShapes Go.ChangeAt Go.RowKit
set_option linter.unusedVariables false

/-- A slice of expressions that is read. -/
def RdV (P : Nat → Prop) (w : World) (v : Value) (l : List Ex) : Prop := ∃ q c, v = .slice q l.length c ∧ l.length ≤ c ∧ (0 < l.length → ∃ b o, q = some ⟨b, o, none⟩ ∧ P b ∧ RdL P w l b o)
theorem one_rdL {P : Nat → Prop} {W : World} {e : Ex} {a b c d : Value} (h : RdE P W e (.agg #[a, b, c, d])) (hP : ∀ b, P b → b < W.heap.size) : RdL P (W.alloc (.cells #[a, b, c, d] 24)) [e] W.heap.size 0 :=
  CellsL.rdL (cs := [a, b, c, d]) ⟨h.below ((Below.refl _ _).alloc (Nat.le_refl _) _) hP, trivial⟩ fun j u hj => by rw [Nat.zero_add, ← hj]; exact (Arr.new' W 24 _ _ rfl).cell j
theorem LR.mono {P : Nat → Prop} {b b' : Nat} {w : World} {v : Value} {ks : List Ex} (h : LR P b w v ks) (hb : b' ≤ b) : LR P b' w v ks := by
  obtain ⟨cs, h1, h2⟩ := h
  refine ⟨cs, ⟨h1.1, ?_⟩, h2⟩
  rcases h1.2 with h | ⟨g, cap, cur, e, h0, r⟩
  · exact .inl h
  · exact .inr ⟨g, cap, cur, e, Nat.le_trans hb h0, r⟩
theorem rputE_gt {e a : Ex} {p : Bool} {r : List Ex} (h : 0 < cmpE e a) : rputO cmpE e p (a :: r) = a :: rputO cmpE e p r := by
  have h0 : ¬ cmpE e a = 0 := by omega
  rw [rputO, if_neg (by omega), if_neg h0, show decide (¬ 0 < cmpE e a) = false from by simp; omega, Bool.or_false]; rfl
theorem rputE_eq {e a : Ex} {p : Bool} {r : List Ex} (h : cmpE e a = 0) : rputO cmpE e p (a :: r) = (if p = false then [e] else []) ++ rputO cmpE e true r := by
  rw [rputO, if_pos h, show decide (¬ 0 < cmpE e a) = true from by simp; omega, Bool.or_true]
  cases p
  · rw [if_pos ⟨by omega, rfl⟩, if_pos rfl]; rfl
  · rw [if_neg (by simp), if_neg (by simp)]; rfl
theorem rputE_lt {e a : Ex} {p : Bool} {r : List Ex} (h : cmpE e a < 0) : rputO cmpE e p (a :: r) = (if p = false then [e] else []) ++ (a :: rputO cmpE e true r) := by
  have h0 : ¬ cmpE e a = 0 := by omega
  rw [rputO, if_neg h0, show decide (¬ 0 < cmpE e a) = true from by simp; omega, Bool.or_true]
  cases p
  · rw [if_pos ⟨by omega, rfl⟩, if_pos rfl]; rfl
  · rw [if_neg (by simp), if_neg (by simp)]; rfl
/-- What the walk keeps: the parameter in its cell, the row. -/
def PX (w : World) (P : Nat → Prop) (A : List Value) (v : Value) (N : List Ex) (W : World) : Prop :=
  Arr W 24 w.heap.size A ∧ LR P (w.heap.size + 1) W v N ∧ Below w.heap.size w W ∧ w.heap.size + 1 ≤ W.heap.size
theorem PX.later {w W W' : World} {P : Nat → Prop} {A : List Value} {v : Value} {L : List Ex} (h : PX w P A v L W) (hP : ∀ b, P b → b < w.heap.size) (hb : Below W.heap.size W W') : PX w P A v L W' :=
  ⟨h.1.later hb, h.2.1.later (fun b hb => Nat.lt_of_lt_of_le (hP b hb) h.2.2.1.size) hb, h.2.2.1.trans (hb.mono h.2.2.1.size), Nat.le_trans h.2.2.2 hb.size⟩
theorem PX.row {w W W' : World} {P : Nat → Prop} {A : List Value} {v v' : Value} {L L' : List Ex} (h : PX w P A v L W) (hT : LR P (w.heap.size + 1) W' v' L') (hb : Below (w.heap.size + 1) W W') : PX w P A v' L' W' :=
  ⟨h.1.below hb (by omega), hT, h.2.2.1.trans (hb.mono (by omega)), Nat.le_trans h.2.2.2 hb.size⟩
set_option maxRecDepth 100000 in
set_option maxHeartbeats 8000000 in
theorem rput_any {P : Nat → Prop} {w : World} {l : List Ex} {e : Ex} {v0 ve : Value} (h : RdV P w v0 l) (he : RdE P w e ve) (hP : ∀ b, P b → b < w.heap.size) (hl : sizeL l ≤ 400000) (hee : sizeE e ≤ 900000) (hok : ∀ x ∈ l, okE 100000 x) (hoe : okE 100000 e) (hr : RisO cmpE l) :
    Calls Tryz.prog 21 #[v0, ve] w fun r w' => ∃ v', r = .returned v' ∧ LR P w.heap.size w' v' (put1O cmpE e l) ∧ Below w.heap.size w w' := by
  have HE0 := Lib.hid he
  obtain ⟨q0, c0, rfl, _, hk0⟩ := h
  obtain ⟨q, c, rfl, hc, hk⟩ := he.form
  obtain ⟨k, xv, xn, ks⟩ := e
  unfold exv at HE0 ⊢
  show Calls _ _ #[.slice q0 l.length c0, .agg #[.int .i64 k, .string (bstr xv), .string (bstr xn), .slice q ks.length c]] _ _
  dsimp only [Ex.kind, Ex.via, Ex.nm, Ex.kids] at HE0
  have HK : Hid (0 < l.length → ∃ b o, q0 = some ⟨b, o, none⟩ ∧ P b ∧ RdL P w l b o) := hk0
  have hlen := sizeL_len l
  have HLS := Lib.hid hl
  have HES := Lib.hid hee
  have HOK := Lib.hid hok
  have HOE := Lib.hid hoe
  have HRI := Lib.hid hr
  have H0 : Hid (PX w P [.int .i64 k, .string (bstr xv), .string (bstr xn), .slice q ks.length c] (.slice none 0 0) [] (w.alloc (.cells #[.int .i64 k, .string (bstr xv), .string (bstr xn), .slice q ks.length c] 24))) :=
    ⟨Arr.new' w _ _ _ rfl, LR.nil _ _ _, (Below.refl _ _).alloc (Nat.le_refl _) _, by simp⟩
  clear hk0 hc hk hl hee hok hoe hr he
  go_enter Tryz.func21, Tryz.ntmps21
  go_wp2_with fail
  go_loopg [5, 6, 7] l.length (fun g s5 s6 s7 wr => ∃ (i : Nat) (N : List Ex) (pl : Bool), i ≤ l.length ∧ l.length - i ≤ g ∧ s7 = .int .i64 i ∧ s6 = .bool pl ∧ PX w P [.int .i64 k, .string (bstr xv), .string (bstr xn), .slice q ks.length c] s5 N wr ∧ N.length ≤ 2 * i ∧ N ++ rputO cmpE (Ex.mk k xv xn ks) pl (l.drop i) = put1O cmpE (Ex.mk k xv xn ks) l)
  case atStart => exact ⟨0, [], false, Nat.zero_le _, by omega, rfl, rfl, H0.out, by simp, by rw [List.nil_append]; exact rput_eq ordX _ l HRI.out⟩
  case round =>
    obtain ⟨i, N, pl, hi, hg, rfl, rfl, hQ, hN, hE⟩ := hrel
    have HC := Lib.hid hQ
    have HNL := Lib.hid hN
    have HE := Lib.hid hE
    obtain ⟨qs, cs, rfl⟩ := HC.out.2.1.form
    clear hQ hN hE H0
    by_cases hlt : i < l.length
    · have hi1 : (i : Int) < l.length := by omega
      obtain ⟨ba, oa, rfl, hba, hl⟩ := HK.out (by omega)
      have hmem := getD_mem hlt
      have hdr : l.drop i = l.getD i ex0 :: l.drop (i + 1) := by rw [List.drop_eq_getElem_cons hlt]; congr 1; simp [List.getD, hlt]
      obtain ⟨x, hx⟩ : ∃ x, x = l.getD i ex0 := ⟨_, rfl⟩
      obtain ⟨q2, c2, x0, x1, x2, x3, hr⟩ := hl.at hlt
      have hxs := sizeL_get l i hlt
      rw [← hx] at x0 x1 x2 x3 hr hxs hmem hdr
      obtain ⟨xk, xv2, xn2, xs⟩ := x
      unfold exv at hr
      dsimp only [Ex.kind, Ex.via, Ex.nm, Ex.kids] at x0 x1 x2 x3 hr
      have HX0 := Lib.hid x0
      have HX1 := Lib.hid x1
      have HX2 := Lib.hid x2
      have HX3 := Lib.hid x3
      have HR2 := Lib.hid hr
      have HBL := Lib.hid (hP _ hba)
      have HDR := Lib.hid hdr
      have hwk : wrap64 ((i : Int) + 1) = (i : Int) + 1 := by unfold wrap64; have := HLS.out; omega
      have HCP : Hid (∀ W, Below w.heap.size w W → Calls Tryz.prog 8 #[.agg #[.int .i64 k, .string (bstr xv), .string (bstr xn), .slice q ks.length c], .agg #[.int .i64 xk, .string (bstr xv2), .string (bstr xn2), .slice q2 xs.length c2]] W fun r w' => r = .returned (.int .i64 (cmpE (Ex.mk k xv xn ks) (Ex.mk xk xv2 xn2 xs))) ∧ Below W.heap.size W w') :=
        fun W hW => rcompare_any _ (Ex.mk k xv xn ks) (Ex.mk xk xv2 xn2 xs) _ _ P P W (Nat.le_refl _) HES.out (Nat.le_trans hxs (Nat.le_trans HLS.out (by decide))) HOE.out (HOK.out _ hmem) (HE0.out.below hW hP) (HR2.out.below hW hP) (fun b hb => Nat.lt_of_lt_of_le (hP b hb) hW.size) (fun b hb => Nat.lt_of_lt_of_le (hP b hb) hW.size)
      obtain ⟨E, hE⟩ : ∃ E, E = cmpE (Ex.mk k xv xn ks) (Ex.mk xk xv2 xn2 xs) := ⟨_, rfl⟩
      rw [← hE] at HCP
      have HQE : Hid (cmpE (Ex.mk k xv xn ks) (Ex.mk xk xv2 xn2 xs) = E) := hE.symm
      clear x0 x1 x2 x3 hr hx hdr hmem hxs hba hl hE
      have HNL2 : Hid (N.length + 2 ≤ 1000000) := by have := HNL.out; have := HLS.out; show _ ≤ _; omega
      have e0 := HC.out.1.cell 0
      have e1 := HC.out.1.cell 1
      have e2 := HC.out.1.cell 2
      have e3 := HC.out.1.cell 3
      simp only [List.getElem?_cons_zero, List.getElem?_cons_succ] at e0 e1 e2 e3
      have cc : ∀ n, wr.cell? ⟨ba, n, none⟩ = w.cell? ⟨ba, n, none⟩ := fun n => (HC.out.2.2.1).cell (p := ⟨ba, n, none⟩) HBL.out
      have X0 : wr.cell? ⟨ba, oa + i * 4, none⟩ = some (.int .i64 xk) := (cc _).trans HX0.out
      have X1 : wr.cell? ⟨ba, oa + i * 4 + 1, none⟩ = some (.string (bstr xv2)) := (cc _).trans HX1.out
      have X2 : wr.cell? ⟨ba, oa + i * 4 + 2, none⟩ = some (.string (bstr xn2)) := (cc _).trans HX2.out
      have X3 : wr.cell? ⟨ba, oa + i * 4 + 3, none⟩ = some (.slice q2 xs.length c2) := (cc _).trans HX3.out
      clear cc
      go_upto_region 6 with fail
      refine wp_region_still_tail 5 (by kernel_rfl) (by kernel_rfl) ?_
      simp only [List.take_succ_cons, List.take_zero, List.drop_succ_cons, List.drop_zero]
      repeat still_step
      refine wpStill_nil ?_
      change wpList _ _ _ _ _ wr.drew
      have HBd : Hid (Below wr.heap.size wr wr.drew) := (Below.refl _ _).drew
      have HCd := Lib.hid (HC.out.later hP HBd.out)
      have HCC := Lib.hid (HCP.out _ HCd.out.2.2.1)
      clear X0 X1 X2 X3 e0 e1 e2 e3 HC HCP HBd
      generalize wr.drew = wd at HCd HCC ⊢
      go_wp2_with fail
      refine HCC.out.mono ?_
      rintro r w3 ⟨rfl, b3⟩
      have HC3 := Lib.hid (HCd.out.later hP b3)
      clear b3 HCC HCd
      rcases pl with _ | _
      · by_cases hle : 0 < E
        · have hz : ¬ E = 0 := by omega
          have hb0 : (E != 0) = true := bne_iff_ne.2 hz
          have hb1 : ¬ E ≤ 0 := by omega
          have HNX : Hid (N ++ [(Ex.mk xk xv2 xn2 xs)] ++ rputO cmpE (Ex.mk k xv xn ks) false (l.drop (i + 1)) = put1O cmpE (Ex.mk k xv xn ks) l) := by
            have h := HE.out
            show _ = _
            rw [HDR.out, rputE_gt (by rw [HQE.out]; exact hle)] at h
            rw [← h]
            first | rfl | simp [List.append_assoc] | simp
          have cc : ∀ n, w3.cell? ⟨ba, n, none⟩ = w.cell? ⟨ba, n, none⟩ := fun n => (HC3.out.2.2.1).cell (p := ⟨ba, n, none⟩) HBL.out
          have X0 : w3.cell? ⟨ba, oa + i * 4, none⟩ = some (.int .i64 xk) := (cc _).trans HX0.out
          have X1 : w3.cell? ⟨ba, oa + i * 4 + 1, none⟩ = some (.string (bstr xv2)) := (cc _).trans HX1.out
          have X2 : w3.cell? ⟨ba, oa + i * 4 + 2, none⟩ = some (.string (bstr xn2)) := (cc _).trans HX2.out
          have X3 : w3.cell? ⟨ba, oa + i * 4 + 3, none⟩ = some (.slice q2 xs.length c2) := (cc _).trans HX3.out
          clear cc
          have HBa : Hid (Below w3.heap.size w3 (w3.alloc (.cells #[.int .i64 xk, .string (bstr xv2), .string (bstr xn2), .slice q2 xs.length c2] 24))) := (Below.refl _ _).alloc (Nat.le_refl _) _
          have HCa := Lib.hid (HC3.out.later hP HBa.out)
          have HRa : Hid (RdL P (w3.alloc (.cells #[.int .i64 xk, .string (bstr xv2), .string (bstr xn2), .slice q2 xs.length c2] 24)) [(Ex.mk xk xv2 xn2 xs)] w3.heap.size 0) := one_rdL (HR2.out.below HC3.out.2.2.1 hP) fun b hb => Nat.lt_of_lt_of_le (hP b hb) HC3.out.2.2.1.size
          have HLa : Hid ((N).length + 1 ≤ 1000000) := by have := HNL2.out; show _ ≤ _; omega
          go_wp2_with (at_builtin; refine app_lr rfl _ _ rfl (P := P) (base := w.heap.size + 1) (xs := [(Ex.mk xk xv2 xn2 xs)]) rfl HCa.out.2.1 rfl rfl HRa.out (fun b hb => Nat.lt_of_lt_of_le (hP b hb) (by omega)) HLa.out HCa.out.2.2.2 ?_; intro v6 w6 h6 b6)
          have HC6 := Lib.hid (HCa.out.row h6 b6)
          obtain ⟨qs6, cs6, rfl⟩ := HC6.out.2.1.form
          clear h6 b6 HCa HRa HLa HBa X0 X1 X2 X3
          go_roundg (l.length - (i + 1))
          case measure => omega
          case rel => exact ⟨i + 1, N ++ [(Ex.mk xk xv2 xn2 xs)], false, by omega, Nat.le_refl _, by go_num, rfl, HC6.out, by have := HNL.out; (try simp only [List.length_append, List.length_cons, List.length_nil]); omega, HNX.out⟩
        · by_cases hz : E = 0
          · have hb0 : (E != 0) = false := by rw [hz]; rfl
            have hb1 : E ≤ 0 := by omega
            have HNX : Hid ((N ++ [(Ex.mk k xv xn ks)]) ++ rputO cmpE (Ex.mk k xv xn ks) true (l.drop (i + 1)) = put1O cmpE (Ex.mk k xv xn ks) l) := by
              have h := HE.out
              show _ = _
              rw [HDR.out, rputE_eq (by rw [HQE.out]; exact hz)] at h
              rw [← h]
              first | rfl | simp [List.append_assoc] | simp
            have e0 := HC3.out.1.cell 0
            have e1 := HC3.out.1.cell 1
            have e2 := HC3.out.1.cell 2
            have e3 := HC3.out.1.cell 3
            simp only [List.getElem?_cons_zero, List.getElem?_cons_succ] at e0 e1 e2 e3
            have HBa : Hid (Below w3.heap.size w3 (w3.alloc (.cells #[.int .i64 k, .string (bstr xv), .string (bstr xn), .slice q ks.length c] 24))) := (Below.refl _ _).alloc (Nat.le_refl _) _
            have HCa := Lib.hid (HC3.out.later hP HBa.out)
            have HRa : Hid (RdL P (w3.alloc (.cells #[.int .i64 k, .string (bstr xv), .string (bstr xn), .slice q ks.length c] 24)) [(Ex.mk k xv xn ks)] w3.heap.size 0) := one_rdL (HE0.out.below HC3.out.2.2.1 hP) fun b hb => Nat.lt_of_lt_of_le (hP b hb) HC3.out.2.2.1.size
            have HLa : Hid ((N).length + 1 ≤ 1000000) := by have := HNL2.out; show _ ≤ _; omega
            go_upto_region 10 with (at_builtin; refine app_lr rfl _ _ rfl (P := P) (base := w.heap.size + 1) (xs := [(Ex.mk k xv xn ks)]) rfl HCa.out.2.1 rfl rfl HRa.out (fun b hb => Nat.lt_of_lt_of_le (hP b hb) (by omega)) HLa.out HCa.out.2.2.2 ?_; intro v4 w4 h4 b4)
            have HC4 := Lib.hid (HCa.out.row h4 b4)
            obtain ⟨qs4, cs4, rfl⟩ := HC4.out.2.1.form
            clear h4 b4 HCa HRa HLa HBa e0 e1 e2 e3
            go_wp2_with fail
            go_roundg (l.length - (i + 1))
            case measure => omega
            case rel => exact ⟨i + 1, N ++ [(Ex.mk k xv xn ks)], true, by omega, Nat.le_refl _, by go_num, rfl, HC4.out, by have := HNL.out; (try simp only [List.length_append, List.length_cons, List.length_nil]); omega, HNX.out⟩
          · have hb0 : (E != 0) = true := bne_iff_ne.2 hz
            have hb1 : E ≤ 0 := by omega
            have HNX : Hid ((N ++ [(Ex.mk k xv xn ks)]) ++ [(Ex.mk xk xv2 xn2 xs)] ++ rputO cmpE (Ex.mk k xv xn ks) true (l.drop (i + 1)) = put1O cmpE (Ex.mk k xv xn ks) l) := by
              have h := HE.out
              show _ = _
              rw [HDR.out, rputE_lt (by rw [HQE.out]; omega)] at h
              rw [← h]
              first | rfl | simp [List.append_assoc] | simp
            have e0 := HC3.out.1.cell 0
            have e1 := HC3.out.1.cell 1
            have e2 := HC3.out.1.cell 2
            have e3 := HC3.out.1.cell 3
            simp only [List.getElem?_cons_zero, List.getElem?_cons_succ] at e0 e1 e2 e3
            have HBa : Hid (Below w3.heap.size w3 (w3.alloc (.cells #[.int .i64 k, .string (bstr xv), .string (bstr xn), .slice q ks.length c] 24))) := (Below.refl _ _).alloc (Nat.le_refl _) _
            have HCa := Lib.hid (HC3.out.later hP HBa.out)
            have HRa : Hid (RdL P (w3.alloc (.cells #[.int .i64 k, .string (bstr xv), .string (bstr xn), .slice q ks.length c] 24)) [(Ex.mk k xv xn ks)] w3.heap.size 0) := one_rdL (HE0.out.below HC3.out.2.2.1 hP) fun b hb => Nat.lt_of_lt_of_le (hP b hb) HC3.out.2.2.1.size
            have HLa : Hid ((N).length + 1 ≤ 1000000) := by have := HNL2.out; show _ ≤ _; omega
            go_upto_region 10 with (at_builtin; refine app_lr rfl _ _ rfl (P := P) (base := w.heap.size + 1) (xs := [(Ex.mk k xv xn ks)]) rfl HCa.out.2.1 rfl rfl HRa.out (fun b hb => Nat.lt_of_lt_of_le (hP b hb) (by omega)) HLa.out HCa.out.2.2.2 ?_; intro v4 w4 h4 b4)
            have HC4 := Lib.hid (HCa.out.row h4 b4)
            obtain ⟨qs4, cs4, rfl⟩ := HC4.out.2.1.form
            clear h4 b4 HCa HRa HLa HBa e0 e1 e2 e3
            have cc : ∀ n, w4.cell? ⟨ba, n, none⟩ = w.cell? ⟨ba, n, none⟩ := fun n => (HC4.out.2.2.1).cell (p := ⟨ba, n, none⟩) HBL.out
            have X0 : w4.cell? ⟨ba, oa + i * 4, none⟩ = some (.int .i64 xk) := (cc _).trans HX0.out
            have X1 : w4.cell? ⟨ba, oa + i * 4 + 1, none⟩ = some (.string (bstr xv2)) := (cc _).trans HX1.out
            have X2 : w4.cell? ⟨ba, oa + i * 4 + 2, none⟩ = some (.string (bstr xn2)) := (cc _).trans HX2.out
            have X3 : w4.cell? ⟨ba, oa + i * 4 + 3, none⟩ = some (.slice q2 xs.length c2) := (cc _).trans HX3.out
            clear cc
            have HBa : Hid (Below w4.heap.size w4 (w4.alloc (.cells #[.int .i64 xk, .string (bstr xv2), .string (bstr xn2), .slice q2 xs.length c2] 24))) := (Below.refl _ _).alloc (Nat.le_refl _) _
            have HCa := Lib.hid (HC4.out.later hP HBa.out)
            have HRa : Hid (RdL P (w4.alloc (.cells #[.int .i64 xk, .string (bstr xv2), .string (bstr xn2), .slice q2 xs.length c2] 24)) [(Ex.mk xk xv2 xn2 xs)] w4.heap.size 0) := one_rdL (HR2.out.below HC4.out.2.2.1 hP) fun b hb => Nat.lt_of_lt_of_le (hP b hb) HC4.out.2.2.1.size
            have HLa : Hid ((N ++ [(Ex.mk k xv xn ks)]).length + 1 ≤ 1000000) := by have := HNL2.out; show (N ++ [(Ex.mk k xv xn ks)]).length + 1 ≤ _; simp only [List.length_append, List.length_cons, List.length_nil]; omega
            go_wp2_with (at_builtin; refine app_lr rfl _ _ rfl (P := P) (base := w.heap.size + 1) (xs := [(Ex.mk xk xv2 xn2 xs)]) rfl HCa.out.2.1 rfl rfl HRa.out (fun b hb => Nat.lt_of_lt_of_le (hP b hb) (by omega)) HLa.out HCa.out.2.2.2 ?_; intro v6 w6 h6 b6)
            have HC6 := Lib.hid (HCa.out.row h6 b6)
            obtain ⟨qs6, cs6, rfl⟩ := HC6.out.2.1.form
            clear h6 b6 HCa HRa HLa HBa X0 X1 X2 X3
            go_roundg (l.length - (i + 1))
            case measure => omega
            case rel => exact ⟨i + 1, (N ++ [(Ex.mk k xv xn ks)]) ++ [(Ex.mk xk xv2 xn2 xs)], true, by omega, Nat.le_refl _, by go_num, rfl, HC6.out, by have := HNL.out; (try simp only [List.length_append, List.length_cons, List.length_nil]); omega, HNX.out⟩
      · by_cases hle : 0 < E
        · have hz : ¬ E = 0 := by omega
          have hb0 : (E != 0) = true := bne_iff_ne.2 hz
          have hb1 : ¬ E ≤ 0 := by omega
          have HNX : Hid (N ++ [(Ex.mk xk xv2 xn2 xs)] ++ rputO cmpE (Ex.mk k xv xn ks) true (l.drop (i + 1)) = put1O cmpE (Ex.mk k xv xn ks) l) := by
            have h := HE.out
            show _ = _
            rw [HDR.out, rputE_gt (by rw [HQE.out]; exact hle)] at h
            rw [← h]
            first | rfl | simp [List.append_assoc] | simp
          have cc : ∀ n, w3.cell? ⟨ba, n, none⟩ = w.cell? ⟨ba, n, none⟩ := fun n => (HC3.out.2.2.1).cell (p := ⟨ba, n, none⟩) HBL.out
          have X0 : w3.cell? ⟨ba, oa + i * 4, none⟩ = some (.int .i64 xk) := (cc _).trans HX0.out
          have X1 : w3.cell? ⟨ba, oa + i * 4 + 1, none⟩ = some (.string (bstr xv2)) := (cc _).trans HX1.out
          have X2 : w3.cell? ⟨ba, oa + i * 4 + 2, none⟩ = some (.string (bstr xn2)) := (cc _).trans HX2.out
          have X3 : w3.cell? ⟨ba, oa + i * 4 + 3, none⟩ = some (.slice q2 xs.length c2) := (cc _).trans HX3.out
          clear cc
          have HBa : Hid (Below w3.heap.size w3 (w3.alloc (.cells #[.int .i64 xk, .string (bstr xv2), .string (bstr xn2), .slice q2 xs.length c2] 24))) := (Below.refl _ _).alloc (Nat.le_refl _) _
          have HCa := Lib.hid (HC3.out.later hP HBa.out)
          have HRa : Hid (RdL P (w3.alloc (.cells #[.int .i64 xk, .string (bstr xv2), .string (bstr xn2), .slice q2 xs.length c2] 24)) [(Ex.mk xk xv2 xn2 xs)] w3.heap.size 0) := one_rdL (HR2.out.below HC3.out.2.2.1 hP) fun b hb => Nat.lt_of_lt_of_le (hP b hb) HC3.out.2.2.1.size
          have HLa : Hid ((N).length + 1 ≤ 1000000) := by have := HNL2.out; show _ ≤ _; omega
          go_wp2_with (at_builtin; refine app_lr rfl _ _ rfl (P := P) (base := w.heap.size + 1) (xs := [(Ex.mk xk xv2 xn2 xs)]) rfl HCa.out.2.1 rfl rfl HRa.out (fun b hb => Nat.lt_of_lt_of_le (hP b hb) (by omega)) HLa.out HCa.out.2.2.2 ?_; intro v6 w6 h6 b6)
          have HC6 := Lib.hid (HCa.out.row h6 b6)
          obtain ⟨qs6, cs6, rfl⟩ := HC6.out.2.1.form
          clear h6 b6 HCa HRa HLa HBa X0 X1 X2 X3
          go_roundg (l.length - (i + 1))
          case measure => omega
          case rel => exact ⟨i + 1, N ++ [(Ex.mk xk xv2 xn2 xs)], true, by omega, Nat.le_refl _, by go_num, rfl, HC6.out, by have := HNL.out; (try simp only [List.length_append, List.length_cons, List.length_nil]); omega, HNX.out⟩
        · by_cases hz : E = 0
          · have hb0 : (E != 0) = false := by rw [hz]; rfl
            have hb1 : E ≤ 0 := by omega
            have HNX : Hid (N ++ rputO cmpE (Ex.mk k xv xn ks) true (l.drop (i + 1)) = put1O cmpE (Ex.mk k xv xn ks) l) := by
              have h := HE.out
              show _ = _
              rw [HDR.out, rputE_eq (by rw [HQE.out]; exact hz)] at h
              rw [← h]
              first | rfl | simp [List.append_assoc] | simp
            go_wp2_with fail
            go_roundg (l.length - (i + 1))
            case measure => omega
            case rel => exact ⟨i + 1, N, true, by omega, Nat.le_refl _, by go_num, rfl, HC3.out, by have := HNL.out; (try simp only [List.length_append, List.length_cons, List.length_nil]); omega, HNX.out⟩
          · have hb0 : (E != 0) = true := bne_iff_ne.2 hz
            have hb1 : E ≤ 0 := by omega
            have HNX : Hid (N ++ [(Ex.mk xk xv2 xn2 xs)] ++ rputO cmpE (Ex.mk k xv xn ks) true (l.drop (i + 1)) = put1O cmpE (Ex.mk k xv xn ks) l) := by
              have h := HE.out
              show _ = _
              rw [HDR.out, rputE_lt (by rw [HQE.out]; omega)] at h
              rw [← h]
              first | rfl | simp [List.append_assoc] | simp
            have cc : ∀ n, w3.cell? ⟨ba, n, none⟩ = w.cell? ⟨ba, n, none⟩ := fun n => (HC3.out.2.2.1).cell (p := ⟨ba, n, none⟩) HBL.out
            have X0 : w3.cell? ⟨ba, oa + i * 4, none⟩ = some (.int .i64 xk) := (cc _).trans HX0.out
            have X1 : w3.cell? ⟨ba, oa + i * 4 + 1, none⟩ = some (.string (bstr xv2)) := (cc _).trans HX1.out
            have X2 : w3.cell? ⟨ba, oa + i * 4 + 2, none⟩ = some (.string (bstr xn2)) := (cc _).trans HX2.out
            have X3 : w3.cell? ⟨ba, oa + i * 4 + 3, none⟩ = some (.slice q2 xs.length c2) := (cc _).trans HX3.out
            clear cc
            have HBa : Hid (Below w3.heap.size w3 (w3.alloc (.cells #[.int .i64 xk, .string (bstr xv2), .string (bstr xn2), .slice q2 xs.length c2] 24))) := (Below.refl _ _).alloc (Nat.le_refl _) _
            have HCa := Lib.hid (HC3.out.later hP HBa.out)
            have HRa : Hid (RdL P (w3.alloc (.cells #[.int .i64 xk, .string (bstr xv2), .string (bstr xn2), .slice q2 xs.length c2] 24)) [(Ex.mk xk xv2 xn2 xs)] w3.heap.size 0) := one_rdL (HR2.out.below HC3.out.2.2.1 hP) fun b hb => Nat.lt_of_lt_of_le (hP b hb) HC3.out.2.2.1.size
            have HLa : Hid ((N).length + 1 ≤ 1000000) := by have := HNL2.out; show _ ≤ _; omega
            go_wp2_with (at_builtin; refine app_lr rfl _ _ rfl (P := P) (base := w.heap.size + 1) (xs := [(Ex.mk xk xv2 xn2 xs)]) rfl HCa.out.2.1 rfl rfl HRa.out (fun b hb => Nat.lt_of_lt_of_le (hP b hb) (by omega)) HLa.out HCa.out.2.2.2 ?_; intro v6 w6 h6 b6)
            have HC6 := Lib.hid (HCa.out.row h6 b6)
            obtain ⟨qs6, cs6, rfl⟩ := HC6.out.2.1.form
            clear h6 b6 HCa HRa HLa HBa X0 X1 X2 X3
            go_roundg (l.length - (i + 1))
            case measure => omega
            case rel => exact ⟨i + 1, N ++ [(Ex.mk xk xv2 xn2 xs)], true, by omega, Nat.le_refl _, by go_num, rfl, HC6.out, by have := HNL.out; (try simp only [List.length_append, List.length_cons, List.length_nil]); omega, HNX.out⟩
    · have hi1 : ¬ (i : Int) < l.length := by omega
      have HNL2 : Hid (N.length + 2 ≤ 1000000) := by have := HNL.out; have := HLS.out; show _ ≤ _; omega
      rcases pl with _ | _
      · have HNE : Hid (N ++ [(Ex.mk k xv xn ks)] = put1O cmpE (Ex.mk k xv xn ks) l) := by
          have h := HE.out
          rw [List.drop_of_length_le (by omega), rputO, if_neg (by simp)] at h
          exact h
        have e0 := HC.out.1.cell 0
        have e1 := HC.out.1.cell 1
        have e2 := HC.out.1.cell 2
        have e3 := HC.out.1.cell 3
        simp only [List.getElem?_cons_zero, List.getElem?_cons_succ] at e0 e1 e2 e3
        have HBa : Hid (Below wr.heap.size wr (wr.alloc (.cells #[.int .i64 k, .string (bstr xv), .string (bstr xn), .slice q ks.length c] 24))) := (Below.refl _ _).alloc (Nat.le_refl _) _
        have HCa := Lib.hid (HC.out.later hP HBa.out)
        have HRa : Hid (RdL P (wr.alloc (.cells #[.int .i64 k, .string (bstr xv), .string (bstr xn), .slice q ks.length c] 24)) [(Ex.mk k xv xn ks)] wr.heap.size 0) := one_rdL (HE0.out.below HC.out.2.2.1 hP) fun b hb => Nat.lt_of_lt_of_le (hP b hb) HC.out.2.2.1.size
        have HLa : Hid ((N).length + 1 ≤ 1000000) := by have := HNL2.out; show _ ≤ _; omega
        go_wp2_with (at_builtin; refine app_lr rfl _ _ rfl (P := P) (base := w.heap.size + 1) (xs := [(Ex.mk k xv xn ks)]) rfl HCa.out.2.1 rfl rfl HRa.out (fun b hb => Nat.lt_of_lt_of_le (hP b hb) (by omega)) HLa.out HCa.out.2.2.2 ?_; intro v7 w7 h7 b7)
        have HC7 := Lib.hid (HCa.out.row h7 b7)
        obtain ⟨qs7, cs7, rfl⟩ := HC7.out.2.1.form
        clear h7 b7 HCa HRa HLa HBa e0 e1 e2 e3
        go_ret
        exact ⟨_, rfl, by rw [← HNE.out]; exact HC7.out.2.1.mono (Nat.le_succ _), HC7.out.2.2.1⟩
      · have HNE : Hid (N = put1O cmpE (Ex.mk k xv xn ks) l) := by
          have h := HE.out
          rw [List.drop_of_length_le (by omega), rputO, if_pos rfl, List.append_nil] at h
          exact h
        go_wp2_with fail
        go_ret
        exact ⟨_, rfl, by rw [← HNE.out]; exact HC.out.2.1.mono (Nat.le_succ _), HC.out.2.2.1⟩
end Go.Proofs.YtdnmgemjhpkekaaGreat
