/-
  vestrylaw10.ExprCompares.
-/
import Derived.Test.YtigphejoekfclaaDoorExX
import Derived.Test.YtigphejoekfclaaDoorExW
namespace Go.Proofs.YtigphejoekfclaaDoor
open Go.ChangeShapes Go.WideShapes Go.ChangeAt Go.RowKit
set_option linter.unusedVariables false

def S3 (w : World) (ka : Int) (va na : List UInt8) (sa : List Ex) (qa : Option Addr) (ca : Nat) (kb : Int) (vb nb : List UInt8) (sb : List Ex) (qb : Option Addr) (cb : Nat) (kc : Int) (vc nc : List UInt8) (sc : List Ex) (qc : Option Addr) (cc : Nat) (W : World) : Prop := InE w w.heap.size ka va na sa qa ca W ∧ InE w (w.heap.size + 1) kb vb nb sb qb cb W ∧ InE w (w.heap.size + 2) kc vc nc sc qc cc W ∧ ResT W ∧ Below w.heap.size w W
theorem S3.later {w : World} {ka : Int} {va na : List UInt8} {sa : List Ex} {qa : Option Addr} {ca : Nat} {kb : Int} {vb nb : List UInt8} {sb : List Ex} {qb : Option Addr} {cb : Nat} {kc : Int} {vc nc : List UInt8} {sc : List Ex} {qc : Option Addr} {cc : Nat} {W W' : World} (h : S3 w ka va na sa qa ca kb vb nb sb qb cb kc vc nc sc qc cc W) (hb : Below W.heap.size W W') : S3 w ka va na sa qa ca kb vb nb sb qb cb kc vc nc sc qc cc W' :=
  ⟨h.1.later h.2.2.2.2.size hb, h.2.1.later h.2.2.2.2.size hb, h.2.2.1.later h.2.2.2.2.size hb, h.2.2.2.1.below hb h.2.2.2.1.lt, h.2.2.2.2.trans (hb.mono h.2.2.2.2.size)⟩
theorem S3.start {w : World} {ka : Int} {va na : List UInt8} {sa : List Ex} {qa : Option Addr} {ca : Nat} {kb : Int} {vb nb : List UInt8} {sb : List Ex} {qb : Option Addr} {cb : Nat} {kc : Int} {vc nc : List UInt8} {sc : List Ex} {qc : Option Addr} {cc : Nat} (hr : ResT w) (ha : RdE (fun b => b < w.heap.size) w (.mk ka va na sa) (.agg #[.int .i64 ka, .string (bstr va), .string (bstr na), .slice qa sa.length ca])) (hb : RdE (fun b => b < w.heap.size) w (.mk kb vb nb sb) (.agg #[.int .i64 kb, .string (bstr vb), .string (bstr nb), .slice qb sb.length cb])) (hc : RdE (fun b => b < w.heap.size) w (.mk kc vc nc sc) (.agg #[.int .i64 kc, .string (bstr vc), .string (bstr nc), .slice qc sc.length cc])) : S3 w ka va na sa qa ca kb vb nb sb qb cb kc vc nc sc qc cc (((w.alloc (.cells #[.int .i64 ka, .string (bstr va), .string (bstr na), .slice qa sa.length ca] 24)).alloc (.cells #[.int .i64 kb, .string (bstr vb), .string (bstr nb), .slice qb sb.length cb] 24)).alloc (.cells #[.int .i64 kc, .string (bstr vc), .string (bstr nc), .slice qc sc.length cc] 24)) := by
  have hbb : Below w.heap.size w (((w.alloc (.cells #[.int .i64 ka, .string (bstr va), .string (bstr na), .slice qa sa.length ca] 24)).alloc (.cells #[.int .i64 kb, .string (bstr vb), .string (bstr nb), .slice qb sb.length cb] 24)).alloc (.cells #[.int .i64 kc, .string (bstr vc), .string (bstr nc), .slice qc sc.length cc] 24)) := (((Below.refl _ _).alloc (Nat.le_refl _) _).alloc (by simp) _).alloc (by simp; omega) _
  exact ⟨⟨((Arr.new' w _ _ _ rfl).alloc _).alloc _, ha.below hbb fun _ h => h⟩, ⟨(Arr.new2 w _ _ _ _ rfl).alloc _, hb.below hbb fun _ h => h⟩, ⟨Arr.new3 w _ _ _ _ _ rfl, hc.below hbb fun _ h => h⟩, hr.below hbb hr.lt, hbb⟩
def S2 (w : World) (ka : Int) (va na : List UInt8) (sa : List Ex) (qa : Option Addr) (ca : Nat) (kb : Int) (vb nb : List UInt8) (sb : List Ex) (qb : Option Addr) (cb : Nat) (W : World) : Prop := InE w w.heap.size ka va na sa qa ca W ∧ InE w (w.heap.size + 1) kb vb nb sb qb cb W ∧ ResT W ∧ Below w.heap.size w W
theorem S2.later {w : World} {ka : Int} {va na : List UInt8} {sa : List Ex} {qa : Option Addr} {ca : Nat} {kb : Int} {vb nb : List UInt8} {sb : List Ex} {qb : Option Addr} {cb : Nat} {W W' : World} (h : S2 w ka va na sa qa ca kb vb nb sb qb cb W) (hb : Below W.heap.size W W') : S2 w ka va na sa qa ca kb vb nb sb qb cb W' :=
  ⟨h.1.later h.2.2.2.size hb, h.2.1.later h.2.2.2.size hb, h.2.2.1.below hb h.2.2.1.lt, h.2.2.2.trans (hb.mono h.2.2.2.size)⟩
theorem S2.start {w : World} {ka : Int} {va na : List UInt8} {sa : List Ex} {qa : Option Addr} {ca : Nat} {kb : Int} {vb nb : List UInt8} {sb : List Ex} {qb : Option Addr} {cb : Nat} (hr : ResT w) (ha : RdE (fun b => b < w.heap.size) w (.mk ka va na sa) (.agg #[.int .i64 ka, .string (bstr va), .string (bstr na), .slice qa sa.length ca])) (hb : RdE (fun b => b < w.heap.size) w (.mk kb vb nb sb) (.agg #[.int .i64 kb, .string (bstr vb), .string (bstr nb), .slice qb sb.length cb])) : S2 w ka va na sa qa ca kb vb nb sb qb cb ((w.alloc (.cells #[.int .i64 ka, .string (bstr va), .string (bstr na), .slice qa sa.length ca] 24)).alloc (.cells #[.int .i64 kb, .string (bstr vb), .string (bstr nb), .slice qb sb.length cb] 24)) := by
  have hbb : Below w.heap.size w ((w.alloc (.cells #[.int .i64 ka, .string (bstr va), .string (bstr na), .slice qa sa.length ca] 24)).alloc (.cells #[.int .i64 kb, .string (bstr vb), .string (bstr nb), .slice qb sb.length cb] 24)) := ((Below.refl _ _).alloc (Nat.le_refl _) _).alloc (by simp) _
  exact ⟨⟨(Arr.new' w _ _ _ rfl).alloc _, ha.below hbb fun _ h => h⟩, ⟨Arr.new2 w _ _ _ _ rfl, hb.below hbb fun _ h => h⟩, hr.below hbb hr.lt, hbb⟩
section
variable {w W : World} {g : Nat}
theorem iFew {kx : Int} {vx nx : List UInt8} {sx : List Ex} {qx : Option Addr} {cx : Nat} (ho : okE bigM (.mk kx vx nx sx)) (h : InE w g kx vx nx sx qx cx W) (hw : w.heap.size ≤ W.heap.size) : Calls Tryd.prog 9 #[.agg #[.int .i64 kx, .string (bstr vx), .string (bstr nx), .slice qx sx.length cx]] W fun e w' => e = .returned (.bool (decide (cntE 31 (.mk kx vx nx sx) ≤ 150))) ∧ Below W.heap.size W w' :=
  few_any _ _ _ W ho h.2 fun b hb => Nat.lt_of_lt_of_le hb hw
variable {g2 : Nat} {kx ky : Int} {vx nx vy ny : List UInt8} {sx sy : List Ex} {qx qy : Option Addr} {cx cy : Nat}
theorem iCompare (hx : FewE (.mk kx vx nx sx)) (hy : FewE (.mk ky vy ny sy)) (h : InE w g kx vx nx sx qx cx W) (h2 : InE w g2 ky vy ny sy qy cy W) (hw : w.heap.size ≤ W.heap.size) : Calls Tryd.prog 16 #[.agg #[.int .i64 kx, .string (bstr vx), .string (bstr nx), .slice qx sx.length cx], .agg #[.int .i64 ky, .string (bstr vy), .string (bstr ny), .slice qy sy.length cy]] W fun e w' => e = .returned (.int .i64 (cmpE (.mk kx vx nx sx) (.mk ky vy ny sy))) ∧ Below W.heap.size W w' :=
  ecompare_any _ hx.1 _ _ _ _ _ _ W (Nat.le_refl _) hy.1 h.2 h2.2 (fun b hb => Nat.lt_of_lt_of_le hb hw) (fun b hb => Nat.lt_of_lt_of_le hb hw)
theorem iRCompare (hx : FewE (.mk kx vx nx sx)) (hy : FewE (.mk ky vy ny sy)) (h : InE w g kx vx nx sx qx cx W) (h2 : InE w g2 ky vy ny sy qy cy W) (hw : w.heap.size ≤ W.heap.size) : Calls Tryd.prog 17 #[.agg #[.int .i64 kx, .string (bstr vx), .string (bstr nx), .slice qx sx.length cx], .agg #[.int .i64 ky, .string (bstr vy), .string (bstr ny), .slice qy sy.length cy]] W fun e w' => e = .returned (.int .i64 (cmpE (.mk kx vx nx sx) (.mk ky vy ny sy))) ∧ Below W.heap.size W w' :=
  rcompare_any _ _ _ _ _ _ _ W (Nat.le_refl _) hx.1 hy.1 hx.2.1 hy.2.1 h.2 h2.2 (fun b hb => Nat.lt_of_lt_of_le hb hw) (fun b hb => Nat.lt_of_lt_of_le hb hw)
theorem iSame (hx : FewE (.mk kx vx nx sx)) (hy : FewE (.mk ky vy ny sy)) (h : InE w g kx vx nx sx qx cx W) (h2 : InE w g2 ky vy ny sy qy cy W) (hw : w.heap.size ≤ W.heap.size) : Calls Tryd.prog 18 #[.agg #[.int .i64 kx, .string (bstr vx), .string (bstr nx), .slice qx sx.length cx], .agg #[.int .i64 ky, .string (bstr vy), .string (bstr ny), .slice qy sy.length cy]] W fun e w' => e = .returned (.bool (cmpE (.mk kx vx nx sx) (.mk ky vy ny sy) == 0)) ∧ Below W.heap.size W w' :=
  esame_any _ _ _ _ _ _ W hx.1 hy.1 h.2 h2.2 (fun b hb => Nat.lt_of_lt_of_le hb hw) (fun b hb => Nat.lt_of_lt_of_le hb hw)
theorem iRight {kx : Int} {vx nx : List UInt8} {sx : List Ex} {qx : Option Addr} {cx : Nat} (hx : FewE (.mk kx vx nx sx)) (h : InE w g kx vx nx sx qx cx W) (hw : w.heap.size ≤ W.heap.size) : Calls Tryd.prog 10 #[.agg #[.int .i64 kx, .string (bstr vx), .string (bstr nx), .slice qx sx.length cx]] W fun e w' => e = .returned (.bool (rightE (.mk kx vx nx sx))) ∧ Below W.heap.size W w' :=
  rRight_any _ _ _ W hx.2.1 hx.1 h.2 fun b hb => Nat.lt_of_lt_of_le hb hw
theorem iText {kx : Int} {vx nx : List UInt8} {sx : List Ex} {qx : Option Addr} {cx : Nat} (hx : FewE (.mk kx vx nx sx)) (hr : rightE (.mk kx vx nx sx) = true) (h : InE w g kx vx nx sx qx cx W) (hres : ResT W) (hw : w.heap.size ≤ W.heap.size) : Calls Tryd.prog 15 #[.agg #[.int .i64 kx, .string (bstr vx), .string (bstr nx), .slice qx sx.length cx]] W fun e w' => e = .returned (.string (bstr (textE (.mk kx vx nx sx)))) ∧ Below W.heap.size W w' := by
  have := etext_any _ _ _ W hx.1 hx.2.2 h.2 (fun b hb => Nat.lt_of_lt_of_le hb hw) hres
  rw [hr, if_pos rfl] at this
  exact this
end
set_option maxRecDepth 100000 in
set_option maxHeartbeats 16000000 in
theorem compares_any (ea : Ex) (ya : Value) (eb : Ex) (yb : Value) (ec : Ex) (yc : Value) (w : World) (oa : okE bigM ea) (ha : RdE (fun b => b < w.heap.size) w ea ya) (ob : okE bigM eb) (hb : RdE (fun b => b < w.heap.size) w eb yb) (oc : okE bigM ec) (hc : RdE (fun b => b < w.heap.size) w ec yc) (hr : ResT w) : Calls Tryd.prog 4 #[ya, yb, yc] w fun r w' => r = .returned (.bool true) ∧ Below w.heap.size w w' := by
  obtain ⟨qa, ca, rfl, _, _⟩ := ha.form
  obtain ⟨ka, va, na, sa⟩ := ea
  unfold exv at ha ⊢
  obtain ⟨qb, cb, rfl, _, _⟩ := hb.form
  obtain ⟨kb, vb, nb, sb⟩ := eb
  unfold exv at hb ⊢
  obtain ⟨qc, cc, rfl, _, _⟩ := hc.form
  obtain ⟨kc, vc, nc, sc⟩ := ec
  unfold exv at hc ⊢
  show Calls _ _ #[.agg #[.int .i64 ka, .string (bstr va), .string (bstr na), .slice qa sa.length ca], .agg #[.int .i64 kb, .string (bstr vb), .string (bstr nb), .slice qb sb.length cb], .agg #[.int .i64 kc, .string (bstr vc), .string (bstr nc), .slice qc sc.length cc]] _ _
  have HS0 : Hid (S3 w ka va na sa qa ca kb vb nb sb qb cb kc vc nc sc qc cc (((w.alloc (.cells #[.int .i64 ka, .string (bstr va), .string (bstr na), .slice qa sa.length ca] 24)).alloc (.cells #[.int .i64 kb, .string (bstr vb), .string (bstr nb), .slice qb sb.length cb] 24)).alloc (.cells #[.int .i64 kc, .string (bstr vc), .string (bstr nc), .slice qc sc.length cc] 24))) := S3.start hr ha hb hc
  have HOa := Lib.hid oa
  have HOb := Lib.hid ob
  have HOc := Lib.hid oc
  clear oa ha ob hb oc hc hr
  go_enter Tryd.func4, Tryd.ntmps4
  go_wp2_with fail
  generalize (((w.alloc (.cells #[.int .i64 ka, .string (bstr va), .string (bstr na), .slice qa sa.length ca] 24)).alloc (.cells #[.int .i64 kb, .string (bstr vb), .string (bstr nb), .slice qb sb.length cb] 24)).alloc (.cells #[.int .i64 kc, .string (bstr vc), .string (bstr nc), .slice qc sc.length cc] 24)) = w0 at HS0 ⊢
  refine (awake_any _ HS0.out.2.2.2.1).mono ?_
  rintro r w1 ⟨rfl, b1⟩
  have HS1 := Lib.hid (HS0.out.later b1)
  clear b1 HS0
  have za0 := HS1.out.1.1.cell 0
  have za1 := HS1.out.1.1.cell 1
  have za2 := HS1.out.1.1.cell 2
  have za3 := HS1.out.1.1.cell 3
  have zb0 := HS1.out.2.1.1.cell 0
  have zb1 := HS1.out.2.1.1.cell 1
  have zb2 := HS1.out.2.1.1.cell 2
  have zb3 := HS1.out.2.1.1.cell 3
  have zc0 := HS1.out.2.2.1.1.cell 0
  have zc1 := HS1.out.2.2.1.1.cell 1
  have zc2 := HS1.out.2.2.1.1.cell 2
  have zc3 := HS1.out.2.2.1.1.cell 3
  simp only [List.getElem?_cons_zero, List.getElem?_cons_succ] at za0 za1 za2 za3 zb0 zb1 zb2 zb3 zc0 zc1 zc2 zc3
  obtain ⟨fa, hfa⟩ : ∃ f, f = decide (cntE 31 (.mk ka va na sa) ≤ 150) := ⟨_, rfl⟩
  have HFWa := Lib.hid hfa
  have HCa := Lib.hid (iFew HOa.out HS1.out.1 HS1.out.2.2.2.2.size)
  rw [← hfa] at HCa
  clear hfa
  go_wp2_with fail
  refine (HCa.out).mono ?_
  rintro r w2 ⟨rfl, b2⟩
  have HS2 := Lib.hid (HS1.out.later b2)
  clear b2 HS1 za0 za1 za2 za3 zb0 zb1 zb2 zb3 zc0 zc1 zc2 zc3
  have za0 := HS2.out.1.1.cell 0
  have za1 := HS2.out.1.1.cell 1
  have za2 := HS2.out.1.1.cell 2
  have za3 := HS2.out.1.1.cell 3
  have zb0 := HS2.out.2.1.1.cell 0
  have zb1 := HS2.out.2.1.1.cell 1
  have zb2 := HS2.out.2.1.1.cell 2
  have zb3 := HS2.out.2.1.1.cell 3
  have zc0 := HS2.out.2.2.1.1.cell 0
  have zc1 := HS2.out.2.2.1.1.cell 1
  have zc2 := HS2.out.2.2.1.1.cell 2
  have zc3 := HS2.out.2.2.1.1.cell 3
  simp only [List.getElem?_cons_zero, List.getElem?_cons_succ] at za0 za1 za2 za3 zb0 zb1 zb2 zb3 zc0 zc1 zc2 zc3
  clear HCa
  cases fa
  case false =>
    go_wp2_with fail
    refine (awake_any _ HS2.out.2.2.2.1).mono ?_
    rintro r we ⟨rfl, be⟩
    have HB := Lib.hid (HS2.out.2.2.2.2.trans (be.mono HS2.out.2.2.2.2.size))
    clear be
    go_wp2_with fail
    go_ret
    exact ⟨rfl, HB.out⟩
  have HFa := Lib.hid (few_of (of_decide_eq_true HFWa.out.symm))
  obtain ⟨fb, hfb⟩ : ∃ f, f = decide (cntE 31 (.mk kb vb nb sb) ≤ 150) := ⟨_, rfl⟩
  have HFWb := Lib.hid hfb
  have HCb := Lib.hid (iFew HOb.out HS2.out.2.1 HS2.out.2.2.2.2.size)
  rw [← hfb] at HCb
  clear hfb
  go_wp2_with fail
  refine (HCb.out).mono ?_
  rintro r w3 ⟨rfl, b3⟩
  have HS3 := Lib.hid (HS2.out.later b3)
  clear b3 HS2 za0 za1 za2 za3 zb0 zb1 zb2 zb3 zc0 zc1 zc2 zc3
  have za0 := HS3.out.1.1.cell 0
  have za1 := HS3.out.1.1.cell 1
  have za2 := HS3.out.1.1.cell 2
  have za3 := HS3.out.1.1.cell 3
  have zb0 := HS3.out.2.1.1.cell 0
  have zb1 := HS3.out.2.1.1.cell 1
  have zb2 := HS3.out.2.1.1.cell 2
  have zb3 := HS3.out.2.1.1.cell 3
  have zc0 := HS3.out.2.2.1.1.cell 0
  have zc1 := HS3.out.2.2.1.1.cell 1
  have zc2 := HS3.out.2.2.1.1.cell 2
  have zc3 := HS3.out.2.2.1.1.cell 3
  simp only [List.getElem?_cons_zero, List.getElem?_cons_succ] at za0 za1 za2 za3 zb0 zb1 zb2 zb3 zc0 zc1 zc2 zc3
  clear HCb
  cases fb
  case false =>
    go_wp2_with fail
    refine (awake_any _ HS3.out.2.2.2.1).mono ?_
    rintro r we ⟨rfl, be⟩
    have HB := Lib.hid (HS3.out.2.2.2.2.trans (be.mono HS3.out.2.2.2.2.size))
    clear be
    go_wp2_with fail
    go_ret
    exact ⟨rfl, HB.out⟩
  have HFb := Lib.hid (few_of (of_decide_eq_true HFWb.out.symm))
  obtain ⟨fc, hfc⟩ : ∃ f, f = decide (cntE 31 (.mk kc vc nc sc) ≤ 150) := ⟨_, rfl⟩
  have HFWc := Lib.hid hfc
  have HCc := Lib.hid (iFew HOc.out HS3.out.2.2.1 HS3.out.2.2.2.2.size)
  rw [← hfc] at HCc
  clear hfc
  go_wp2_with fail
  refine (HCc.out).mono ?_
  rintro r w4 ⟨rfl, b4⟩
  have HS4 := Lib.hid (HS3.out.later b4)
  clear b4 HS3 za0 za1 za2 za3 zb0 zb1 zb2 zb3 zc0 zc1 zc2 zc3
  have za0 := HS4.out.1.1.cell 0
  have za1 := HS4.out.1.1.cell 1
  have za2 := HS4.out.1.1.cell 2
  have za3 := HS4.out.1.1.cell 3
  have zb0 := HS4.out.2.1.1.cell 0
  have zb1 := HS4.out.2.1.1.cell 1
  have zb2 := HS4.out.2.1.1.cell 2
  have zb3 := HS4.out.2.1.1.cell 3
  have zc0 := HS4.out.2.2.1.1.cell 0
  have zc1 := HS4.out.2.2.1.1.cell 1
  have zc2 := HS4.out.2.2.1.1.cell 2
  have zc3 := HS4.out.2.2.1.1.cell 3
  simp only [List.getElem?_cons_zero, List.getElem?_cons_succ] at za0 za1 za2 za3 zb0 zb1 zb2 zb3 zc0 zc1 zc2 zc3
  clear HCc
  cases fc
  case false =>
    go_wp2_with fail
    refine (awake_any _ HS4.out.2.2.2.1).mono ?_
    rintro r we ⟨rfl, be⟩
    have HB := Lib.hid (HS4.out.2.2.2.2.trans (be.mono HS4.out.2.2.2.2.size))
    clear be
    go_wp2_with fail
    go_ret
    exact ⟨rfl, HB.out⟩
  have HFc := Lib.hid (few_of (of_decide_eq_true HFWc.out.symm))
  obtain ⟨n, hn⟩ : ∃ n, n = cmpE (.mk ka va na sa) (.mk kb vb nb sb) := ⟨_, rfl⟩
  have HNB : Hid (cmpE (.mk kb vb nb sb) (.mk ka va na sa) = -n) := by show _ = _; rw [hn]; exact cmpE_flip _ _
  obtain ⟨m, hm⟩ : ∃ m, m = cmpE (.mk kb vb nb sb) (.mk kc vc nc sc) := ⟨_, rfl⟩
  obtain ⟨l, hl⟩ : ∃ l, l = cmpE (.mk ka va na sa) (.mk kc vc nc sc) := ⟨_, rfl⟩
  have HLE : Hid (¬ 0 < n → ¬ 0 < m → l ≤ 0) := by show _ → _; rw [hn, hm, hl]; exact cmpE_le
  have hn3 := cmpE_three (.mk ka va na sa) (.mk kb vb nb sb)
  rw [← hn] at hn3
  have hnl : -1 ≤ n := by rcases hn3 with h | h | h <;> omega
  have hnu : n ≤ 1 := by rcases hn3 with h | h | h <;> omega
  have HN := Lib.hid hn
  have HM := Lib.hid hm
  have HL := Lib.hid hl
  clear hn hm hl hn3
  have bnn : (n != n) = false := by simp
  have bnm : (-n != -n) = false := by simp
  have HCC := Lib.hid (iCompare (g := _) (g2 := _) HFa.out HFb.out HS4.out.1 HS4.out.2.1 HS4.out.2.2.2.2.size)
  rw [← HN.out] at HCC
  go_wp2_with fail
  refine (HCC.out).mono ?_
  rintro r w5 ⟨rfl, b5⟩
  have HS5 := Lib.hid (HS4.out.later b5)
  clear b5 HS4 za0 za1 za2 za3 zb0 zb1 zb2 zb3 zc0 zc1 zc2 zc3
  have za0 := HS5.out.1.1.cell 0
  have za1 := HS5.out.1.1.cell 1
  have za2 := HS5.out.1.1.cell 2
  have za3 := HS5.out.1.1.cell 3
  have zb0 := HS5.out.2.1.1.cell 0
  have zb1 := HS5.out.2.1.1.cell 1
  have zb2 := HS5.out.2.1.1.cell 2
  have zb3 := HS5.out.2.1.1.cell 3
  have zc0 := HS5.out.2.2.1.1.cell 0
  have zc1 := HS5.out.2.2.1.1.cell 1
  have zc2 := HS5.out.2.2.1.1.cell 2
  have zc3 := HS5.out.2.2.1.1.cell 3
  simp only [List.getElem?_cons_zero, List.getElem?_cons_succ] at za0 za1 za2 za3 zb0 zb1 zb2 zb3 zc0 zc1 zc2 zc3
  clear HCC
  have HCC := Lib.hid (iRCompare (g := _) (g2 := _) HFa.out HFb.out HS5.out.1 HS5.out.2.1 HS5.out.2.2.2.2.size)
  rw [← HN.out] at HCC
  go_wp2_with fail
  refine (HCC.out).mono ?_
  rintro r w6 ⟨rfl, b6⟩
  have HS6 := Lib.hid (HS5.out.later b6)
  clear b6 HS5 za0 za1 za2 za3 zb0 zb1 zb2 zb3 zc0 zc1 zc2 zc3
  have za0 := HS6.out.1.1.cell 0
  have za1 := HS6.out.1.1.cell 1
  have za2 := HS6.out.1.1.cell 2
  have za3 := HS6.out.1.1.cell 3
  have zb0 := HS6.out.2.1.1.cell 0
  have zb1 := HS6.out.2.1.1.cell 1
  have zb2 := HS6.out.2.1.1.cell 2
  have zb3 := HS6.out.2.1.1.cell 3
  have zc0 := HS6.out.2.2.1.1.cell 0
  have zc1 := HS6.out.2.2.1.1.cell 1
  have zc2 := HS6.out.2.2.1.1.cell 2
  have zc3 := HS6.out.2.2.1.1.cell 3
  simp only [List.getElem?_cons_zero, List.getElem?_cons_succ] at za0 za1 za2 za3 zb0 zb1 zb2 zb3 zc0 zc1 zc2 zc3
  clear HCC
  have HCC := Lib.hid (iCompare (g := _) (g2 := _) HFb.out HFa.out HS6.out.2.1 HS6.out.1 HS6.out.2.2.2.2.size)
  rw [HNB.out] at HCC
  go_wp2_with fail
  refine (HCC.out).mono ?_
  rintro r w7 ⟨rfl, b7⟩
  have HS7 := Lib.hid (HS6.out.later b7)
  clear b7 HS6 za0 za1 za2 za3 zb0 zb1 zb2 zb3 zc0 zc1 zc2 zc3
  have za0 := HS7.out.1.1.cell 0
  have za1 := HS7.out.1.1.cell 1
  have za2 := HS7.out.1.1.cell 2
  have za3 := HS7.out.1.1.cell 3
  have zb0 := HS7.out.2.1.1.cell 0
  have zb1 := HS7.out.2.1.1.cell 1
  have zb2 := HS7.out.2.1.1.cell 2
  have zb3 := HS7.out.2.1.1.cell 3
  have zc0 := HS7.out.2.2.1.1.cell 0
  have zc1 := HS7.out.2.2.1.1.cell 1
  have zc2 := HS7.out.2.2.1.1.cell 2
  have zc3 := HS7.out.2.2.1.1.cell 3
  simp only [List.getElem?_cons_zero, List.getElem?_cons_succ] at za0 za1 za2 za3 zb0 zb1 zb2 zb3 zc0 zc1 zc2 zc3
  clear HCC
  have HCC := Lib.hid (iSame (g := _) (g2 := _) HFa.out HFb.out HS7.out.1 HS7.out.2.1 HS7.out.2.2.2.2.size)
  rw [← HN.out] at HCC
  go_wp2_with fail
  refine (HCC.out).mono ?_
  rintro r w8 ⟨rfl, b8⟩
  have HS8 := Lib.hid (HS7.out.later b8)
  clear b8 HS7 za0 za1 za2 za3 zb0 zb1 zb2 zb3 zc0 zc1 zc2 zc3
  have za0 := HS8.out.1.1.cell 0
  have za1 := HS8.out.1.1.cell 1
  have za2 := HS8.out.1.1.cell 2
  have za3 := HS8.out.1.1.cell 3
  have zb0 := HS8.out.2.1.1.cell 0
  have zb1 := HS8.out.2.1.1.cell 1
  have zb2 := HS8.out.2.1.1.cell 2
  have zb3 := HS8.out.2.1.1.cell 3
  have zc0 := HS8.out.2.2.1.1.cell 0
  have zc1 := HS8.out.2.2.1.1.cell 1
  have zc2 := HS8.out.2.2.1.1.cell 2
  have zc3 := HS8.out.2.2.1.1.cell 3
  simp only [List.getElem?_cons_zero, List.getElem?_cons_succ] at za0 za1 za2 za3 zb0 zb1 zb2 zb3 zc0 zc1 zc2 zc3
  clear HCC
  have hee : ((n == 0) != (n == 0)) = false := by simp
  have HCC := Lib.hid (iSame (g := _) (g2 := _) HFa.out HFa.out HS8.out.1 HS8.out.1 HS8.out.2.2.2.2.size)
  rw [cmpE_self, show ((0 : Int) == 0) = true from rfl] at HCC
  go_wp2_with fail
  refine (HCC.out).mono ?_
  rintro r w9 ⟨rfl, b9⟩
  have HS9 := Lib.hid (HS8.out.later b9)
  clear b9 HS8 za0 za1 za2 za3 zb0 zb1 zb2 zb3 zc0 zc1 zc2 zc3
  have za0 := HS9.out.1.1.cell 0
  have za1 := HS9.out.1.1.cell 1
  have za2 := HS9.out.1.1.cell 2
  have za3 := HS9.out.1.1.cell 3
  have zb0 := HS9.out.2.1.1.cell 0
  have zb1 := HS9.out.2.1.1.cell 1
  have zb2 := HS9.out.2.1.1.cell 2
  have zb3 := HS9.out.2.1.1.cell 3
  have zc0 := HS9.out.2.2.1.1.cell 0
  have zc1 := HS9.out.2.2.1.1.cell 1
  have zc2 := HS9.out.2.2.1.1.cell 2
  have zc3 := HS9.out.2.2.1.1.cell 3
  simp only [List.getElem?_cons_zero, List.getElem?_cons_succ] at za0 za1 za2 za3 zb0 zb1 zb2 zb3 zc0 zc1 zc2 zc3
  clear HCC
  by_cases h0 : 0 < n
  · have b0 : decide (0 < n) = true := decide_eq_true h0
    go_wp2_with fail
    go_ret
    exact ⟨rfl, HS9.out.2.2.2.2⟩
  have b0 : decide (0 < n) = false := decide_eq_false h0
  have HCC := Lib.hid (iCompare (g := _) (g2 := _) HFb.out HFc.out HS9.out.2.1 HS9.out.2.2.1 HS9.out.2.2.2.2.size)
  rw [← HM.out] at HCC
  go_wp2_with fail
  refine (HCC.out).mono ?_
  rintro r w10 ⟨rfl, b10⟩
  have HS10 := Lib.hid (HS9.out.later b10)
  clear b10 HS9 za0 za1 za2 za3 zb0 zb1 zb2 zb3 zc0 zc1 zc2 zc3
  have za0 := HS10.out.1.1.cell 0
  have za1 := HS10.out.1.1.cell 1
  have za2 := HS10.out.1.1.cell 2
  have za3 := HS10.out.1.1.cell 3
  have zb0 := HS10.out.2.1.1.cell 0
  have zb1 := HS10.out.2.1.1.cell 1
  have zb2 := HS10.out.2.1.1.cell 2
  have zb3 := HS10.out.2.1.1.cell 3
  have zc0 := HS10.out.2.2.1.1.cell 0
  have zc1 := HS10.out.2.2.1.1.cell 1
  have zc2 := HS10.out.2.2.1.1.cell 2
  have zc3 := HS10.out.2.2.1.1.cell 3
  simp only [List.getElem?_cons_zero, List.getElem?_cons_succ] at za0 za1 za2 za3 zb0 zb1 zb2 zb3 zc0 zc1 zc2 zc3
  clear HCC
  by_cases h1 : 0 < m
  · have b1 : decide (0 < m) = true := decide_eq_true h1
    go_wp2_with fail
    go_ret
    exact ⟨rfl, HS10.out.2.2.2.2⟩
  have b1 : decide (0 < m) = false := decide_eq_false h1
  have HLL : Hid (l ≤ 0) := HLE.out (by omega) (by omega)
  have HCC := Lib.hid (iCompare (g := _) (g2 := _) HFa.out HFc.out HS10.out.1 HS10.out.2.2.1 HS10.out.2.2.2.2.size)
  rw [← HL.out] at HCC
  go_wp2_with fail
  refine (HCC.out).mono ?_
  rintro r w11 ⟨rfl, b11⟩
  have HS11 := Lib.hid (HS10.out.later b11)
  clear b11 HS10 za0 za1 za2 za3 zb0 zb1 zb2 zb3 zc0 zc1 zc2 zc3
  have za0 := HS11.out.1.1.cell 0
  have za1 := HS11.out.1.1.cell 1
  have za2 := HS11.out.1.1.cell 2
  have za3 := HS11.out.1.1.cell 3
  have zb0 := HS11.out.2.1.1.cell 0
  have zb1 := HS11.out.2.1.1.cell 1
  have zb2 := HS11.out.2.1.1.cell 2
  have zb3 := HS11.out.2.1.1.cell 3
  have zc0 := HS11.out.2.2.1.1.cell 0
  have zc1 := HS11.out.2.2.1.1.cell 1
  have zc2 := HS11.out.2.2.1.1.cell 2
  have zc3 := HS11.out.2.2.1.1.cell 3
  simp only [List.getElem?_cons_zero, List.getElem?_cons_succ] at za0 za1 za2 za3 zb0 zb1 zb2 zb3 zc0 zc1 zc2 zc3
  clear HCC
  have h2 : l ≤ 0 := HLL.out
  have b2 : decide (l ≤ 0) = true := decide_eq_true h2
  go_wp2_with fail
  go_ret
  exact ⟨rfl, HS11.out.2.2.2.2⟩
end Go.Proofs.YtigphejoekfclaaDoor
