/-
  vestrylaw10.ExprMaps.
-/
import Derived.Test.YtigphejoekfclaaDoorExMd
import Derived.Test.YtigphejoekfclaaDoorExX
import Derived.Test.YtigphejoekfclaaDoorExT
import Derived.Test.YtigphejoekfclaaDoorStepC
namespace Go.Proofs.YtigphejoekfclaaDoor
open Go.ChangeShapes Go.WideShapes Go.ChangeAt Go.RowKit
set_option linter.unusedVariables false

/-- What the law holds: the expression, its clone in rows of its own, what was mapped, the other clone. -/
def MX (w : World) (k : Int) (xv xn : List UInt8) (ks : List Ex) (q : Option Addr) (c A B S : Nat) (qo : Option Addr) (co O1 : Nat) (mk : Int) (mv mn : List UInt8) (ms : List Ex) (qm : Option Addr) (cm O2 : Nat) (qc : Option Addr) (cc O3 : Nat) (W : World) : Prop :=
  SE w k xv xn ks q c W ∧ (Arr W 24 O1 [.int .i64 k, .string (bstr xv), .string (bstr xn), .slice qo ks.length co] ∧ RdO (Bt A B) W (.mk k xv xn ks) (.agg #[.int .i64 k, .string (bstr xv), .string (bstr xn), .slice qo ks.length co])) ∧ (Arr W 24 O2 [.int .i64 mk, .string (bstr mv), .string (bstr mn), .slice qm ms.length cm] ∧ RdE (Bt B S) W (.mk mk mv mn ms) (.agg #[.int .i64 mk, .string (bstr mv), .string (bstr mn), .slice qm ms.length cm])) ∧ (Arr W 24 O3 [.int .i64 k, .string (bstr xv), .string (bstr xn), .slice qc ks.length cc] ∧ RdE (Bt B S) W (.mk k xv xn ks) (.agg #[.int .i64 k, .string (bstr xv), .string (bstr xn), .slice qc ks.length cc])) ∧
  (w.heap.size < A ∧ A ≤ B ∧ B ≤ O1 ∧ B ≤ O2 ∧ B ≤ O3 ∧ S ≤ W.heap.size ∧ B ≤ S)
theorem MX.later {w : World} {k : Int} {xv xn : List UInt8} {ks : List Ex} {q : Option Addr} {c A B S : Nat} {qo : Option Addr} {co O1 : Nat} {mk : Int} {mv mn : List UInt8} {ms : List Ex} {qm : Option Addr} {cm O2 : Nat} {qc : Option Addr} {cc O3 : Nat} {W W' : World} (h : MX w k xv xn ks q c A B S qo co O1 mk mv mn ms qm cm O2 qc cc O3 W) (hb : Below W.heap.size W W') : MX w k xv xn ks q c A B S qo co O1 mk mv mn ms qm cm O2 qc cc O3 W' := by
  obtain ⟨h1, ⟨h2, h3⟩, ⟨h4, h5⟩, ⟨h6, h7⟩, g1, g2, g3, g4, g5, g6, g7⟩ := h
  exact ⟨h1.later hb, ⟨h2.later hb, h3.below hb fun b hb => by have := hb.2; omega⟩, ⟨h4.later hb, h5.below hb fun b hb => by have := hb.2; omega⟩, ⟨h6.later hb, h7.below hb fun b hb => by have := hb.2; omega⟩, g1, g2, g3, g4, g5, Nat.le_trans g6 hb.size, g7⟩
section
variable {w : World} {k : Int} {xv xn : List UInt8} {ks : List Ex} {q : Option Addr} {c A B S : Nat} {qo : Option Addr} {co O1 : Nat} {mk : Int} {mv mn : List UInt8} {ms : List Ex} {qm : Option Addr} {cm O2 : Nat} {qc : Option Addr} {cc O3 : Nat} {W : World}
theorem mMarked (hf : FewE (.mk k xv xn ks)) (h : MX w k xv xn ks q c A B S qo co O1 mk mv mn ms qm cm O2 qc cc O3 W) : Calls Tryd.prog 25 #[.agg #[.int .i64 k, .string (bstr xv), .string (bstr xn), .slice q ks.length c]] W fun e w' => ∃ v, e = .returned v ∧ ((∃ P, RdE P w' (mapE (.mk k xv xn ks)) v ∧ ∀ b, P b → b < w'.heap.size) ∧ MX w k xv xn ks q c A B S qo co O1 mk mv mn ms qm cm O2 qc cc O3 w') :=
  (marked_any _ _ _ _ W (Nat.le_refl _) hf.1 hf.2.2 h.1.1.2 h.1.lt).mono fun e w' ⟨v', h1, h2, h3⟩ => ⟨v', h1, ⟨_, h2, fun b hb => hb.2⟩, h.later h3⟩
theorem mCompare {x y : Ex} {vx vy : Value} {P Q : Nat → Prop} (hx : FewE x) (hy : FewE y) (h1 : RdE P W x vx) (h2 : RdE Q W y vy) (hP : ∀ b, P b → b < W.heap.size) (hQ : ∀ b, Q b → b < W.heap.size) (e : x = y) (h : MX w k xv xn ks q c A B S qo co O1 mk mv mn ms qm cm O2 qc cc O3 W) :
    Calls Tryd.prog 17 #[vx, vy] W fun e w' => ∃ v, e = .returned v ∧ (v = .int .i64 0 ∧ MX w k xv xn ks q c A B S qo co O1 mk mv mn ms qm cm O2 qc cc O3 w') := by
  subst e
  exact (rcompare_any _ _ _ _ _ _ _ W (Nat.le_refl _) hx.1 hy.1 hx.2.1 hy.2.1 h1 h2 hP hQ).mono fun e w' ⟨h3, h4⟩ => ⟨_, h3, by rw [cmpE_self], h.later h4⟩
theorem MX.ltS (h : MX w k xv xn ks q c A B S qo co O1 mk mv mn ms qm cm O2 qc cc O3 W) : ∀ b, Bt B S b → b < W.heap.size := fun b hb => Nat.lt_of_lt_of_le hb.2 h.2.2.2.2.2.2.2.2.2.1
theorem MX.ltO (h : MX w k xv xn ks q c A B S qo co O1 mk mv mn ms qm cm O2 qc cc O3 W) : ∀ b, Bt A B b → b < W.heap.size := fun b hb => by have := hb.2; have := h.2.2.2.2; omega
end
set_option maxRecDepth 100000 in
set_option maxHeartbeats 8000000 in
theorem maps_any (e : Ex) (v : Value) (w : World) (ho : okE bigM e) (h : RdE (fun b => b < w.heap.size) w e v) (hr : ResT w) : Calls Tryd.prog 7 #[v] w fun r w' => r = .returned (.bool true) ∧ Below w.heap.size w w' := by
  obtain ⟨q, c, rfl, _, _⟩ := h.form
  obtain ⟨k, xv, xn, ks⟩ := e
  unfold exv at h ⊢
  show Calls _ _ #[.agg #[.int .i64 k, .string (bstr xv), .string (bstr xn), .slice q ks.length c]] _ _
  have HS : Hid (SE w k xv xn ks q c (w.alloc (.cells #[.int .i64 k, .string (bstr xv), .string (bstr xn), .slice q ks.length c] 24))) := SE.start hr h
  have HO := Lib.hid ho
  clear ho h hr
  go_enter Tryd.func7, Tryd.ntmps7
  go_wp2_with fail
  generalize w.alloc (.cells #[.int .i64 k, .string (bstr xv), .string (bstr xn), .slice q ks.length c] 24) = w0 at HS ⊢
  refine (cAwake HS.out).mono ?_
  rintro r w1 ⟨rfl, s1⟩
  have HS1 := Lib.hid s1
  have z0 := s1.1.1.cell 0
  have z1 := s1.1.1.cell 1
  have z2 := s1.1.1.cell 2
  have z3 := s1.1.1.cell 3
  simp only [List.getElem?_cons_zero, List.getElem?_cons_succ] at z0 z1 z2 z3
  have HFC := Lib.hid (cFew HO.out s1)
  obtain ⟨fw, hfw⟩ : ∃ f, f = decide (cntE 31 (.mk k xv xn ks) ≤ 150) := ⟨_, rfl⟩
  rw [← hfw] at HFC
  have HFW := Lib.hid hfw
  clear s1 HS hfw
  go_wp2_with fail
  refine HFC.out.mono ?_
  rintro r w2 ⟨rfl, s2⟩
  have HS2 := Lib.hid s2
  clear s2 HFC HS1 z0 z1 z2 z3
  cases fw
  case false =>
    go_wp2_with fail
    refine (cAwake HS2.out).mono ?_
    rintro r w3 ⟨rfl, s3⟩
    have HB := Lib.hid s3.2.2
    clear s3
    go_wp2_with fail
    go_ret
    exact ⟨rfl, HB.out⟩
  have HF := Lib.hid (few_of (of_decide_eq_true HFW.out.symm))
  have HFM := Lib.hid (few_map (of_decide_eq_true HFW.out.symm))
  have z0 := HS2.out.1.1.cell 0
  have z1 := HS2.out.1.1.cell 1
  have z2 := HS2.out.1.1.cell 2
  have z3 := HS2.out.1.1.cell 3
  simp only [List.getElem?_cons_zero, List.getElem?_cons_succ] at z0 z1 z2 z3
  have HCL := Lib.hid (rcloneO_any _ _ _ _ w2 (Nat.le_refl _) HF.out.1 HS2.out.1.2 HS2.out.lt)
  have HA2 : Hid (w.heap.size < w2.heap.size) := HS2.out.1.1.lt
  go_wp2_with fail
  refine HCL.out.mono ?_
  rintro r w3 ⟨v3, rfl, r3, b3⟩
  have HS3 := Lib.hid (HS2.out.later b3)
  have HR3 := Lib.hid r3
  have HAB : Hid (w2.heap.size ≤ w3.heap.size) := b3.size
  obtain ⟨qo, co, rfl, _, _⟩ := r3.form
  unfold exv at HR3 ⊢
  dsimp only [Ex.kind, Ex.via, Ex.nm, Ex.kids] at HR3 ⊢
  clear r3 b3 HCL HS2 z0 z1 z2 z3
  generalize w2.heap.size = A at HR3 HAB HA2
  -- Map
  have hb4 : Below w3.heap.size w3 (w3.alloc (.cells #[.int .i64 k, .string (bstr xv), .string (bstr xn), .slice qo ks.length co] 24)) := (Below.refl _ _).alloc (Nat.le_refl _) _
  have HS4 := Lib.hid (HS3.out.later hb4)
  have HR4 := Lib.hid (HR3.out.below hb4 fun b hb => hb.2)
  have HO1 : Hid (Arr (w3.alloc (.cells #[.int .i64 k, .string (bstr xv), .string (bstr xn), .slice qo ks.length co] 24)) 24 w3.heap.size [.int .i64 k, .string (bstr xv), .string (bstr xn), .slice qo ks.length co]) := Arr.new' _ _ _ _ rfl
  have HSZ4 : Hid (w3.heap.size < (w3.alloc (.cells #[.int .i64 k, .string (bstr xv), .string (bstr xn), .slice qo ks.length co] 24)).heap.size) := by show _ < _; simp
  have HMC := Lib.hid (map_any _ _ _ (w3.alloc (.cells #[.int .i64 k, .string (bstr xv), .string (bstr xn), .slice qo ks.length co] 24)) HF.out.1 HF.out.2.2 HR4.out.rdE (fun b hb => Nat.lt_of_lt_of_le hb.2 hb4.size))
  clear hb4 HS3 HR3
  go_wp2_with fail
  refine HMC.out.mono ?_
  rintro r w5 ⟨v5, rfl, r5, b5⟩
  have HS5 := Lib.hid (HS4.out.later b5)
  have HR5 := Lib.hid (HR4.out.below b5 fun b hb => Nat.lt_trans hb.2 HSZ4.out)
  have HO5 := Lib.hid (HO1.out.later b5)
  obtain ⟨me, hme⟩ : ∃ e, e = mapE (.mk k xv xn ks) := ⟨_, rfl⟩
  have HFM2 : Hid (FewE me) := by rw [hme]; exact HFM.out
  have HME := Lib.hid hme
  rw [← hme] at r5
  obtain ⟨mk, mv, mn, ms⟩ := me
  have HM5 : Hid (RdE (Bt w3.heap.size w5.heap.size) w5 (.mk mk mv mn ms) v5) := r5.imp fun b hb => ⟨by have := HSZ4.out; have := hb.1; omega, hb.2⟩
  obtain ⟨qm, cm, rfl, _, _⟩ := r5.form
  unfold exv at HM5 ⊢
  dsimp only [Ex.kind, Ex.via, Ex.nm, Ex.kids] at HM5 ⊢
  have HB35 : Hid (w3.heap.size ≤ w5.heap.size) := Nat.le_of_lt (Nat.lt_of_lt_of_le HSZ4.out b5.size)
  clear r5 b5 HMC HS4 HR4 HO1 HSZ4 hme
  generalize w3.heap.size = B at HR5 HAB HO5 HM5 HB35 ⊢
  -- the clone
  have hb6 : Below w5.heap.size w5 (w5.alloc (.cells #[.int .i64 mk, .string (bstr mv), .string (bstr mn), .slice qm ms.length cm] 24)) := (Below.refl _ _).alloc (Nat.le_refl _) _
  have HS6 := Lib.hid (HS5.out.later hb6)
  have HR6 := Lib.hid (HR5.out.below hb6 fun b hb => Nat.lt_of_lt_of_le hb.2 HB35.out)
  have HO6 := Lib.hid (HO5.out.later hb6)
  have HM6 := Lib.hid (HM5.out.below hb6 fun b hb => hb.2)
  have HO2 : Hid (Arr (w5.alloc (.cells #[.int .i64 mk, .string (bstr mv), .string (bstr mn), .slice qm ms.length cm] 24)) 24 w5.heap.size [.int .i64 mk, .string (bstr mv), .string (bstr mn), .slice qm ms.length cm]) := Arr.new' _ _ _ _ rfl
  have HSZ6 : Hid (w5.heap.size < (w5.alloc (.cells #[.int .i64 mk, .string (bstr mv), .string (bstr mn), .slice qm ms.length cm] 24)).heap.size) := by show _ < _; simp
  have o0 := HO6.out.cell 0
  have o1 := HO6.out.cell 1
  have o2 := HO6.out.cell 2
  have o3 := HO6.out.cell 3
  simp only [List.getElem?_cons_zero, List.getElem?_cons_succ] at o0 o1 o2 o3
  have HCC := Lib.hid (clone_any _ _ _ _ (w5.alloc (.cells #[.int .i64 mk, .string (bstr mv), .string (bstr mn), .slice qm ms.length cm] 24)) (Nat.le_refl _) HF.out.1 HR6.out.rdE (fun b hb => Nat.lt_of_lt_of_le hb.2 (Nat.le_trans HB35.out hb6.size)))
  clear hb6 HS5 HR5 HO5 HM5
  go_wp2_with fail
  refine HCC.out.mono ?_
  rintro r w7 ⟨v7, rfl, r7, b7⟩
  have HC7 : Hid (RdE (Bt B w7.heap.size) w7 (.mk k xv xn ks) v7) := r7.imp fun b hb => ⟨by have := hb.1; have := HSZ6.out; have := HB35.out; omega, hb.2⟩
  obtain ⟨qc, cc, rfl, _, _⟩ := r7.form
  unfold exv at HC7 ⊢
  dsimp only [Ex.kind, Ex.via, Ex.nm, Ex.kids] at HC7 ⊢
  have hb8 : Below w7.heap.size w7 (w7.alloc (.cells #[.int .i64 k, .string (bstr xv), .string (bstr xn), .slice qc ks.length cc] 24)) := (Below.refl _ _).alloc (Nat.le_refl _) _
  have hb68 : Below (w5.alloc (.cells #[.int .i64 mk, .string (bstr mv), .string (bstr mn), .slice qm ms.length cm] 24)).heap.size (w5.alloc (.cells #[.int .i64 mk, .string (bstr mv), .string (bstr mn), .slice qm ms.length cm] 24)) (w7.alloc (.cells #[.int .i64 k, .string (bstr xv), .string (bstr xn), .slice qc ks.length cc] 24)) := b7.trans (hb8.mono b7.size)
  have HMX : Hid (MX w k xv xn ks q c A B w7.heap.size qo co B mk mv mn ms qm cm w5.heap.size qc cc w7.heap.size (w7.alloc (.cells #[.int .i64 k, .string (bstr xv), .string (bstr xn), .slice qc ks.length cc] 24))) :=
    ⟨HS6.out.later hb68, ⟨HO6.out.later hb68, HR6.out.below hb68 fun b hb => by have := hb.2; have := HB35.out; have := HSZ6.out; omega⟩,
     ⟨HO2.out.later hb68, (HM6.out.below hb68 fun b hb => Nat.lt_trans hb.2 HSZ6.out).imp fun b hb => ⟨hb.1, Nat.lt_of_lt_of_le hb.2 (Nat.le_trans (Nat.le_of_lt HSZ6.out) b7.size)⟩⟩,
     ⟨Arr.new' _ _ _ _ rfl, HC7.out.below hb8 fun b hb => hb.2⟩, HA2.out, HAB.out, Nat.le_refl _, HB35.out, by have := HB35.out; have := HSZ6.out; have := b7.size; omega, hb8.size, by have := HB35.out; have := HSZ6.out; have := b7.size; omega⟩
  clear hb8 hb68 r7 b7 HCC HS6 HR6 HO6 HM6 HO2 HSZ6 HC7 o0 o1 o2 o3
  go_upto_region 6 with (fail)
  generalize w7.alloc (.cells #[.int .i64 k, .string (bstr xv), .string (bstr xn), .slice qc ks.length cc] 24) = w8 at HMX ⊢
  generalize w7.heap.size = S at HMX ⊢
  generalize hO2 : w5.heap.size = O2 at HMX ⊢
  clear hO2
  generalize hO1 : B = O1 at HMX ⊢
  subst hO1
  refine wp_region_noPanic ?_
  refine wp_region_held_drew (S := MX w k xv xn ks q c A B S qo co B mk mv mn ms qm cm O2 qc cc S) (by kernel_rfl) (HMX.out.later (Below.refl _ _).drew) (fun hHeld => ?_)
  try simp only [Act.put]
  generalize w8.drew = wd at hHeld ⊢
  clear HMX
  refine wpAnyH_take (i := 0) (oi := ⟨some 21, _, _, _, _, _⟩) (v := .agg #[.int .i64 mk, .string (bstr mv), .string (bstr mn), .slice qm ms.length cm]) rfl (by kernel_rfl) (by kernel_rfl) (by kernel_rfl) (fun _ _ _ h => h) (.inl ⟨by rfl, fun w' hSw => ?_⟩) hHeld ?_
  focus (have q0 := hSw.2.2.1.1.cell 0; have q1 := hSw.2.2.1.1.cell 1; have q2 := hSw.2.2.1.1.cell 2; have q3 := hSw.2.2.1.1.cell 3; simp only [List.getElem?_cons_zero, List.getElem?_cons_succ] at q0 q1 q2 q3; clear hHeld; go_simp)
  try simp only [Act.put, List.setIfInBounds_toArray, List.set_cons_zero, List.set_cons_succ]
  refine wpAnyH_take (i := 1) (oi := ⟨some 22, _, _, _, _, _⟩) (v := .agg #[.int .i64 k, .string (bstr xv), .string (bstr xn), .slice q ks.length c]) rfl (by kernel_rfl) (by kernel_rfl) (by kernel_rfl) (fun _ _ _ h => h) (.inl ⟨by rfl, fun w' hSw => ?_⟩) hHeld ?_
  focus (have q0 := hSw.1.1.1.cell 0; have q1 := hSw.1.1.1.cell 1; have q2 := hSw.1.1.1.cell 2; have q3 := hSw.1.1.1.cell 3; simp only [List.getElem?_cons_zero, List.getElem?_cons_succ] at q0 q1 q2 q3; clear hHeld; go_simp)
  try simp only [Act.put, List.setIfInBounds_toArray, List.set_cons_zero, List.set_cons_succ]
  refine wpAnyH_ready (rs := [2]) (by kernel_rfl) (by simp) ?_
  refine AllReadyH.cons (o := ⟨some 23, _, _, _, _, _⟩) rfl (fun K' hK' => ?_) AllReadyH.nil
  refine stepw_call (R := fun v w'' => (∃ P, RdE P w'' (mapE (.mk k xv xn ks)) v ∧ ∀ b, P b → b < w''.heap.size) ∧ MX w k xv xn ks q c A B S qo co B mk mv mn ms qm cm O2 qc cc S w'') (by rfl) ?_ (mMarked HF.out hHeld) ?_
  focus go_simp
  rintro v u1 ⟨R1, hkn⟩
  refine hK'.out _ _ hkn (fun _ => ?_)
  clear hK' K' hHeld
  have hHeld := hkn
  clear hkn
  try simp only [Act.put, List.setIfInBounds_toArray, List.set_cons_zero, List.set_cons_succ]
  obtain ⟨PM, RM1, RM2⟩ := R1
  refine wpAnyH_ready (rs := [3]) (by kernel_rfl) (by simp) ?_
  refine AllReadyH.cons (o := ⟨some 24, _, _, _, _, _⟩) rfl (fun K' hK' => ?_) AllReadyH.nil
  refine stepw_call (R := fun v w'' => v = .int .i64 0 ∧ MX w k xv xn ks q c A B S qo co B mk mv mn ms qm cm O2 qc cc S w'') (by rfl) ?_ (mCompare HFM2.out HFM.out hHeld.2.2.1.2 RM1 hHeld.ltS RM2 HME.out hHeld) ?_
  focus go_simp
  rintro v u2 ⟨rfl, hkn⟩
  refine hK'.out _ _ hkn (fun _ => ?_)
  clear hK' K' hHeld
  have hHeld := hkn
  clear hkn
  try simp only [Act.put, List.setIfInBounds_toArray, List.set_cons_zero, List.set_cons_succ]
  clear RM1 RM2
  refine wpAnyH_take (i := 4) (oi := ⟨some 25, _, _, _, _, _⟩) (v := .bool true) rfl (by kernel_rfl) (by kernel_rfl) (by kernel_rfl) (fun _ _ _ h => h) (.inl ⟨by rfl, fun w' hSw => ?_⟩) hHeld ?_
  focus (skip; clear hHeld; go_simp)
  try simp only [Act.put, List.setIfInBounds_toArray, List.set_cons_zero, List.set_cons_succ]
  refine wpAnyH_take (i := 5) (oi := ⟨some 26, _, _, _, _, _⟩) (v := .bool true) rfl (by kernel_rfl) (by kernel_rfl) (by kernel_rfl) (fun _ _ _ h => h) (.inl ⟨by rfl, fun w' hSw => ?_⟩) hHeld ?_
  focus (skip; clear hHeld; go_simp)
  try simp only [Act.put, List.setIfInBounds_toArray, List.set_cons_zero, List.set_cons_succ]
  refine wpAnyH_take (i := 6) (oi := ⟨some 27, _, _, _, _, _⟩) (v := .agg #[.int .i64 k, .string (bstr xv), .string (bstr xn), .slice qo ks.length co]) rfl (by kernel_rfl) (by kernel_rfl) (by kernel_rfl) (fun _ _ _ h => h) (.inl ⟨by rfl, fun w' hSw => ?_⟩) hHeld ?_
  focus (have q0 := hSw.2.1.1.cell 0; have q1 := hSw.2.1.1.cell 1; have q2 := hSw.2.1.1.cell 2; have q3 := hSw.2.1.1.cell 3; simp only [List.getElem?_cons_zero, List.getElem?_cons_succ] at q0 q1 q2 q3; clear hHeld; go_simp)
  try simp only [Act.put, List.setIfInBounds_toArray, List.set_cons_zero, List.set_cons_succ]
  refine wpAnyH_take (i := 7) (oi := ⟨some 28, _, _, _, _, _⟩) (v := .agg #[.int .i64 k, .string (bstr xv), .string (bstr xn), .slice q ks.length c]) rfl (by kernel_rfl) (by kernel_rfl) (by kernel_rfl) (fun _ _ _ h => h) (.inl ⟨by rfl, fun w' hSw => ?_⟩) hHeld ?_
  focus (have q0 := hSw.1.1.1.cell 0; have q1 := hSw.1.1.1.cell 1; have q2 := hSw.1.1.1.cell 2; have q3 := hSw.1.1.1.cell 3; simp only [List.getElem?_cons_zero, List.getElem?_cons_succ] at q0 q1 q2 q3; clear hHeld; go_simp)
  try simp only [Act.put, List.setIfInBounds_toArray, List.set_cons_zero, List.set_cons_succ]
  refine wpAnyH_ready (rs := [8]) (by kernel_rfl) (by simp) ?_
  refine AllReadyH.cons (o := ⟨some 29, _, _, _, _, _⟩) rfl (fun K' hK' => ?_) AllReadyH.nil
  refine stepw_call (R := fun v w'' => v = .int .i64 0 ∧ MX w k xv xn ks q c A B S qo co B mk mv mn ms qm cm O2 qc cc S w'') (by rfl) ?_ (mCompare HF.out HF.out hHeld.2.1.2.rdE hHeld.1.1.2 hHeld.ltO hHeld.1.lt rfl hHeld) ?_
  focus go_simp
  rintro v u3 ⟨rfl, hkn⟩
  refine hK'.out _ _ hkn (fun _ => ?_)
  clear hK' K' hHeld
  have hHeld := hkn
  clear hkn
  try simp only [Act.put, List.setIfInBounds_toArray, List.set_cons_zero, List.set_cons_succ]
  refine wpAnyH_take (i := 9) (oi := ⟨some 30, _, _, _, _, _⟩) (v := .bool true) rfl (by kernel_rfl) (by kernel_rfl) (by kernel_rfl) (fun _ _ _ h => h) (.inl ⟨by rfl, fun w' hSw => ?_⟩) hHeld ?_
  focus (skip; clear hHeld; go_simp)
  try simp only [Act.put, List.setIfInBounds_toArray, List.set_cons_zero, List.set_cons_succ]
  refine wpAnyH_take (i := 10) (oi := ⟨some 31, _, _, _, _, _⟩) (v := .bool true) rfl (by kernel_rfl) (by kernel_rfl) (by kernel_rfl) (fun _ _ _ h => h) (.inl ⟨by rfl, fun w' hSw => ?_⟩) hHeld ?_
  focus (skip; clear hHeld; go_simp)
  try simp only [Act.put, List.setIfInBounds_toArray, List.set_cons_zero, List.set_cons_succ]
  refine wpAnyH_take (i := 11) (oi := ⟨some 6, _, _, _, _, _⟩) (v := .bool true) rfl (by kernel_rfl) (by kernel_rfl) (by kernel_rfl) (fun _ _ _ h => h) (.inl ⟨by rfl, fun w' hSw => ?_⟩) hHeld ?_
  focus (skip; clear hHeld; go_simp)
  try simp only [Act.put, List.setIfInBounds_toArray, List.set_cons_zero, List.set_cons_succ]
  refine wpAnyH_done (by kernel_rfl) ?_ _
  refine NoPanic.normal ?_
  have HX3 := Lib.hid hHeld
  clear hHeld
  have o0 := HX3.out.2.1.1.cell 0
  have o1 := HX3.out.2.1.1.cell 1
  have o2 := HX3.out.2.1.1.cell 2
  have o3 := HX3.out.2.1.1.cell 3
  simp only [List.getElem?_cons_zero, List.getElem?_cons_succ] at o0 o1 o2 o3
  have HCH := Lib.hid (change_any A B _ _ _ u3 (Nat.le_refl _) HF.out.1 (HX3.out.2.1.2.sh fun b hb => hb) HAB.out (by have := HX3.out.2.2.2.2; omega))
  go_wp2_with fail
  refine HCH.out.mono ?_
  rintro r u4 ⟨⟨u, rfl⟩, ch⟩
  have HA4 : Hid (Arr u4 24 S [.int .i64 k, .string (bstr xv), .string (bstr xn), .slice qc ks.length cc] ∧ RdE (Bt B S) u4 (.mk k xv xn ks) (.agg #[.int .i64 k, .string (bstr xv), .string (bstr xn), .slice qc ks.length cc])) := by
    refine ⟨(ch.2.1 S HX3.out.2.2.2.2.2.2.2.2.1 HX3.out.2.2.2.1.1.lt).trans HX3.out.2.2.2.1.1, HX3.out.2.2.2.1.2.keep fun b hb n => World.cell?_of_block (ch.2.1 b hb.1 (HX3.out.ltS b hb))⟩
  have HE4 : Hid (Arr u4 24 w.heap.size [.int .i64 k, .string (bstr xv), .string (bstr xn), .slice q ks.length c] ∧ RdE (fun b => b < w.heap.size) u4 (.mk k xv xn ks) (.agg #[.int .i64 k, .string (bstr xv), .string (bstr xn), .slice q ks.length c])) :=
    ⟨HX3.out.1.1.1.below ch.1 HA2.out, HX3.out.1.1.2.below ch.1 fun b hb => Nat.lt_trans hb HA2.out⟩
  have HB4 : Hid (Below w.heap.size w u4) := HX3.out.1.2.2.trans (ch.1.mono (Nat.le_of_lt HA2.out))
  have HS4 : Hid (S ≤ u4.heap.size) := Nat.le_trans HX3.out.2.2.2.2.2.2.2.2.2.1 ch.1.size
  have c0 := HA4.out.1.cell 0
  have c1 := HA4.out.1.cell 1
  have c2 := HA4.out.1.cell 2
  have c3 := HA4.out.1.cell 3
  have z0 := HE4.out.1.cell 0
  have z1 := HE4.out.1.cell 1
  have z2 := HE4.out.1.cell 2
  have z3 := HE4.out.1.cell 3
  simp only [List.getElem?_cons_zero, List.getElem?_cons_succ] at c0 c1 c2 c3 z0 z1 z2 z3
  have HCM := Lib.hid (rcompare_any _ _ _ _ _ _ _ u4 (Nat.le_refl _) HF.out.1 HF.out.1 HF.out.2.1 HF.out.2.1 HA4.out.2 HE4.out.2 (fun b hb => Nat.lt_of_lt_of_le hb.2 HS4.out) (fun b hb => Nat.lt_of_lt_of_le hb HB4.out.size))
  rw [cmpE_self] at HCM
  clear ch o0 o1 o2 o3 HCH HX3
  go_wp2_with fail
  refine HCM.out.mono ?_
  rintro r u5 ⟨rfl, b5⟩
  have HB5 := Lib.hid (HB4.out.trans (b5.mono HB4.out.size))
  clear b5
  go_wp2_with fail
  go_ret
  exact ⟨rfl, HB5.out⟩
end Go.Proofs.YtigphejoekfclaaDoor
