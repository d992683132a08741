/-
  expr.text, Text.
-/
import Derived.Test.YtigphejoekfclaaDoorExO
import Derived.Test.YtigphejoekfclaaDoorStrR
namespace Go.Proofs.YtigphejoekfclaaDoor
open Go.ChangeShapes Go.WideShapes Go.ChangeAt Go.RowKit
set_option linter.unusedVariables false

/-- A part's text within another: bare if it is a leaf. -/
def wrapT (k : Int) (t : List UInt8) : List UInt8 := if leafK k = true then t else 40 :: (t ++ [41])
mutual
def textE : Ex → List UInt8
  | .mk k v n ks => if k = 1 then n else if k = 2 then v ++ (45 :: 62 :: n) else Lib.join (textL ks) (sgK k)
def textL : List Ex → List (List UInt8)
  | [] => []
  | e :: r => wrapT e.kind (textE e) :: textL r
end
mutual
def wE : Ex → Nat
  | .mk _ v n ks => v.length + n.length + 8 + wL ks
def wL : List Ex → Nat
  | [] => 0
  | e :: r => wE e + wL r
end
theorem sgK_len (k : Int) : (sgK k).length = 3 := by unfold sgK; split; rfl; split <;> rfl
theorem wrapT_len (k : Int) (t : List UInt8) : (wrapT k t).length ≤ t.length + 2 := by
  unfold wrapT; split
  · omega
  · simp
mutual
theorem textE_len : ∀ e : Ex, (textE e).length + 5 ≤ wE e
  | .mk k v n ks => by
    unfold textE wE
    split
    · omega
    · split
      · simp only [List.length_append, List.length_cons]; omega
      · have := textJ_len (sgK k) (by rw [sgK_len]; exact Nat.le_refl _) ks; omega
theorem textJ_len (sep : List UInt8) (hs : sep.length ≤ 3) : ∀ ks : List Ex, (Lib.join (textL ks) sep).length ≤ wL ks
  | [] => by simp [textL, Lib.join_nil]
  | e :: r => by
    unfold textL wL
    rw [Lib.join_cons, List.length_append]
    have h1 := textE_len e
    have h2 := wrapT_len e.kind (textE e)
    have h3 := textT_len sep hs r
    omega
theorem textT_len (sep : List UInt8) (hs : sep.length ≤ 3) : ∀ ks : List Ex, (Lib.joinTail sep (textL ks)).length ≤ wL ks
  | [] => by simp [textL, Lib.joinTail]
  | e :: r => by
    unfold textL wL
    have e2 : Lib.joinTail sep (wrapT e.kind (textE e) :: textL r) = (sep ++ wrapT e.kind (textE e)) ++ Lib.joinTail sep (textL r) := by simp [Lib.joinTail]
    rw [e2, List.length_append, List.length_append]
    have h1 := textE_len e
    have h2 := wrapT_len e.kind (textE e)
    have h3 := textT_len sep hs r
    omega
end
theorem textL_snoc : ∀ (ks : List Ex) (e : Ex), textL (ks ++ [e]) = textL ks ++ [wrapT e.kind (textE e)]
  | [], e => by simp [textL]
  | a :: r, e => by rw [List.cons_append]; unfold textL; rw [textL_snoc r e]; rfl
theorem textL_length : ∀ ks : List Ex, (textL ks).length = ks.length
  | [] => rfl
  | e :: r => by unfold textL; rw [List.length_cons, List.length_cons, textL_length r]
theorem wL_get : ∀ (ks : List Ex) (i : Nat), i < ks.length → wE (ks.getD i ex0) ≤ wL ks
  | [], i, h => by simp at h
  | e :: r, 0, _ => by unfold wL; exact Nat.le_add_right _ _
  | e :: r, i + 1, h => by
    unfold wL
    exact Nat.le_trans (wL_get r i (by simpa using h)) (Nat.le_add_left _ _)
mutual
theorem wE_le (M : Nat) : ∀ e : Ex, okE M e → wE e ≤ sizeE e * (2 * M + 8)
  | .mk k v n ks, h => by
    unfold okE at h
    unfold wE sizeE
    have := wL_le M ks h.2.2
    rw [Nat.add_mul]
    omega
theorem wL_le (M : Nat) : ∀ ks : List Ex, okL M ks → wL ks ≤ sizeL ks * (2 * M + 8)
  | [], _ => by unfold wL; omega
  | e :: r, h => by
    unfold okL at h
    unfold wL sizeL
    have h1 := wE_le M e h.1
    have h2 := wL_le M r h.2
    rw [Nat.add_mul]
    omega
end
theorem textE_one {k : Int} {v n : List UInt8} {ks : List Ex} (h : k = 1) : textE (.mk k v n ks) = n := by unfold textE; rw [if_pos h]
theorem textE_two {k : Int} {v n : List UInt8} {ks : List Ex} (h : k = 2) : textE (.mk k v n ks) = v ++ (45 :: 62 :: n) := by unfold textE; rw [if_neg (by omega), if_pos h]
theorem textE_more {k : Int} {v n : List UInt8} {ks : List Ex} (h1 : ¬ k = 1) (h2 : ¬ k = 2) : textE (.mk k v n ks) = Lib.join (textL ks) (sgK k) := by unfold textE; rw [if_neg h1, if_neg h2]

set_option maxRecDepth 100000 in
set_option maxHeartbeats 4000000 in
theorem text_any : ∀ (n : Nat) (e : Ex) (v : Value) (P : Nat → Prop) (w : World), sizeE e ≤ n → sizeE e ≤ 900000 → wE e ≤ 900000000 → RdE P w e v → (∀ b, P b → b < w.heap.size) → Calls Tryd.prog 32 #[v] w fun r w' => r = .returned (.string (bstr (textE e))) ∧ Below w.heap.size w w' := by
  intro n
  induction n with
  | zero => intro e v P w h; have := sizeE_pos e; omega
  | succ n ih =>
    intro e v P w hn hm hwt h hP
    obtain ⟨q, c, rfl, hc, hk⟩ := h.form
    obtain ⟨k, xv, xn, ks⟩ := e
    unfold exv
    show Calls _ _ #[.agg #[.int .i64 k, .string (bstr xv), .string (bstr xn), .slice q ks.length c]] _ _
    have HK : Hid (0 < ks.length → ∃ b o, q = some ⟨b, o, none⟩ ∧ P b ∧ RdL P w ks b o) := hk
    have hks : sizeL ks ≤ n := by unfold sizeE at hn; omega
    have hkm : sizeL ks ≤ 900000 := by unfold sizeE at hm; omega
    have hkw : wL ks ≤ 900000000 := by unfold wE at hwt; omega
    have hvl : xv.length ≤ 900000000 := by unfold wE at hwt; omega
    have hnl : xn.length ≤ 900000000 := by unfold wE at hwt; omega
    have hlen := sizeL_len ks
    have HIH := Lib.hid ih
    have HB0 : Hid (Below w.heap.size w (w.alloc (.cells #[.int .i64 k, .string (bstr xv), .string (bstr xn), .slice q ks.length c] 24))) := (Below.refl _ _).alloc (Nat.le_refl _) _
    have HA0 : Hid (Arr (w.alloc (.cells #[.int .i64 k, .string (bstr xv), .string (bstr xn), .slice q ks.length c] 24)) 24 w.heap.size [.int .i64 k, .string (bstr xv), .string (bstr xn), .slice q ks.length c]) := Arr.new' _ _ _ _ rfl
    clear h ih hc hk hn hm hwt
    by_cases h1 : k = 1
    · have b1 : (k == 1) = true := by rw [h1]; rfl
      have HT : Hid (textE (.mk k xv xn ks) = xn) := textE_one h1
      clear h1
      go_enter Tryd.func32, Tryd.ntmps32
      go_wp2_with fail
      go_ret
      exact ⟨by rw [HT.out]; rfl, HB0.out⟩
    have b1 : (k == 1) = false := by rw [beq_eq_false_iff_ne]; exact h1
    by_cases h2 : k = 2
    · have b2 : (k == 2) = true := by rw [h2]; rfl
      have HT : Hid (textE (.mk k xv xn ks) = xv ++ (45 :: 62 :: xn)) := textE_two h2
      clear h1 h2
      obtain ⟨sv, hsv⟩ : ∃ s, s = bstr xv := ⟨_, rfl⟩
      obtain ⟨sn, hsn⟩ : ∃ s, s = bstr xn := ⟨_, rfl⟩
      have z1 : (sv.size : Int) ≤ 900000000 := by rw [hsv, bstr_size]; omega
      have z2 : (sn.size : Int) ≤ 900000000 := by rw [hsn, bstr_size]; omega
      have HE : Hid (bstr (xv ++ (45 :: 62 :: xn)) = sv ++ ⟨#[45, 62]⟩ ++ sn) := by
        show _ = _
        rw [hsv, hsn, show (⟨#[45, 62]⟩ : ByteArray) = bstr [45, 62] from rfl, bstr_app, bstr_app, List.append_assoc]; rfl
      rw [← hsv, ← hsn] at HB0 HA0 ⊢
      clear hsv hsn
      go_enter Tryd.func32, Tryd.ntmps32
      go_wp2_with fail
      go_ret
      exact ⟨by rw [HT.out, HE.out]; rfl, HB0.out⟩
    have b2 : (k == 2) = false := by rw [beq_eq_false_iff_ne]; exact h2
    have HT : Hid (textE (.mk k xv xn ks) = Lib.join (textL ks) (sgK k)) := textE_more h1 h2
    clear h1 h2
    go_enter Tryd.func32, Tryd.ntmps32
    go_wp2_with fail
    go_loopw [3, 24] (fun tv iv wr => ∃ i : Nat, i ≤ ks.length ∧ iv = .int .i64 i ∧ Hid (StrRow (w.heap.size + 1) wr tv (textL (ks.take i)) ∧ Below w.heap.size w wr ∧ Arr wr 24 w.heap.size [.int .i64 k, .string (bstr xv), .string (bstr xn), .slice q ks.length c] ∧ w.heap.size + 1 ≤ wr.heap.size)) (fun _ iv _ => ks.length - (intOf iv).toNat)
    case atStart => exact ⟨0, Nat.zero_le _, rfl, World.ownsRow_nil _ _ _ _, HB0.out, HA0.out, by simp⟩
    case round =>
      obtain ⟨i, hi, rfl, HI2⟩ := hrel
      have HI := Lib.hid HI2.out.2.1
      have HAI := Lib.hid HI2.out.2.2.1
      have HSZ := Lib.hid HI2.out.2.2.2
      have HRW := Lib.hid HI2.out.1
      obtain ⟨qv, cv, rfl⟩ := HI2.out.1.form
      clear HI2
      have hi0 : (0 : Int) ≤ i := by omega
      by_cases hlt : i < ks.length
      · have hi1 : (i : Int) < ks.length := by omega
        obtain ⟨ba, oa, rfl, hba, hl⟩ := HK.out (by omega)
        obtain ⟨x, hx⟩ : ∃ x, x = ks.getD i ex0 := ⟨_, rfl⟩
        obtain ⟨q2, c2, x0, x1, x2, x3, hr⟩ := hl.at hlt
        have hxs := sizeL_get ks i hlt
        have hxd := depthL_get ks i hlt
        rw [← hx] at x0 x1 x2 x3 hr hxs hxd
        have HX := Lib.hid hx
        obtain ⟨xk, xv2, xn2, xs⟩ := x
        have cc : ∀ n, wr.cell? ⟨ba, n, none⟩ = w.cell? ⟨ba, n, none⟩ := fun n => (HI.out).cell (p := ⟨ba, n, none⟩) (hP _ hba)
        have X0 : wr.cell? ⟨ba, oa + i * 4, none⟩ = some (.int .i64 xk) := (cc _).trans x0
        have X1 : wr.cell? ⟨ba, oa + i * 4 + 1, none⟩ = some (.string (bstr xv2)) := (cc _).trans x1
        have X2 : wr.cell? ⟨ba, oa + i * 4 + 2, none⟩ = some (.string (bstr xn2)) := (cc _).trans x2
        have X3 : wr.cell? ⟨ba, oa + i * 4 + 3, none⟩ = some (.slice q2 xs.length c2) := (cc _).trans x3
        clear x0 x1 x2 x3 cc hx
        have hxw := wL_get ks i hlt
        rw [← HX.out] at hxw
        have HBA : Hid (Below wr.heap.size wr (wr.alloc (.cells #[.int .i64 xk, .string (bstr xv2), .string (bstr xn2), .slice q2 xs.length c2] 24))) := (Below.refl _ _).alloc (Nat.le_refl _) _
        have HR : Hid (RdE P (wr.alloc (.cells #[.int .i64 xk, .string (bstr xv2), .string (bstr xn2), .slice q2 xs.length c2] 24)) (.mk xk xv2 xn2 xs) (.agg #[.int .i64 xk, .string (bstr xv2), .string (bstr xn2), .slice q2 xs.length c2])) := (hr.below (HI.out) hP).below HBA.out (fun b hb => Nat.lt_of_lt_of_le (hP b hb) (HI.out).size)
        have HAK : Hid (Arr (wr.alloc (.cells #[.int .i64 xk, .string (bstr xv2), .string (bstr xn2), .slice q2 xs.length c2] 24)) 24 wr.heap.size [.int .i64 xk, .string (bstr xv2), .string (bstr xn2), .slice q2 xs.length c2]) := Arr.new' _ _ _ _ rfl
        have HC := Lib.hid (HIH.out (.mk xk xv2 xn2 xs) _ P _ (by omega) (by omega) (by omega) HR.out (fun b hb => Nat.lt_of_lt_of_le (hP b hb) (Nat.le_trans HI.out.size HBA.out.size)))
        have HTK : Hid (textL (ks.take (i + 1)) = textL (ks.take i) ++ [wrapT xk (textE (.mk xk xv2 xn2 xs))]) := by show _ = _; rw [take_snocE hlt, ← HX.out, textL_snoc]; rfl
        have htl := textE_len (.mk xk xv2 xn2 xs)
        obtain ⟨tx, htx⟩ : ∃ tx, tx = textE (.mk xk xv2 xn2 xs) := ⟨_, rfl⟩
        rw [← htx] at htl HC HTK
        obtain ⟨sx, hsx⟩ : ∃ s, s = bstr tx := ⟨_, rfl⟩
        have z1 : (sx.size : Int) ≤ 900000000 := by rw [hsx, bstr_size]; omega
        rw [← hsx] at HC
        have HSX := Lib.hid hsx
        clear hl hr hxs hxd hxw htl htx hsx
        go_wp2_with fail
        refine HC.out.mono ?_
        rintro r w5 ⟨rfl, b5⟩
        have HK5 := Lib.hid (HAK.out.later b5)
        have k0 := HK5.out.cell 0
        have k1 := HK5.out.cell 1
        have k2 := HK5.out.cell 2
        have k3 := HK5.out.cell 3
        simp only [List.getElem?_cons_zero, List.getElem?_cons_succ] at k0 k1 k2 k3
        have HLF : Hid (Calls Tryd.prog 44 #[.agg #[.int .i64 xk, .string (bstr xv2), .string (bstr xn2), .slice q2 xs.length c2]] w5 fun r w' => r = .returned (.bool (leafK xk)) ∧ Below w5.heap.size w5 w') := isLeaf_any (e := .mk xk xv2 xn2 xs) (HR.out.below b5 (fun b hb => Nat.lt_of_lt_of_le (hP b hb) (Nat.le_trans HI.out.size HBA.out.size)))
        have HB5 : Hid (Below wr.heap.size wr w5) := HBA.out.trans (b5.mono HBA.out.size)
        obtain ⟨lf, hlf⟩ : ∃ lf, lf = leafK xk := ⟨_, rfl⟩
        rw [← hlf] at HLF
        have HLK := Lib.hid hlf
        clear b5 hlf HC HR HBA HAK
        go_wp2_with fail
        refine HLF.out.mono ?_
        rintro r w6 ⟨rfl, b6⟩
        have HB6 : Hid (Below wr.heap.size wr w6) := HB5.out.trans (b6.mono HB5.out.size)
        clear b6 HB5
        have HAC : Hid ((textL (ks.take i)).length + 1 ≤ 1000000) := by show _ ≤ _; rw [textL_length, List.length_take]; omega
        cases lf with
        | true =>
          have HW : Hid (wrapT xk tx = tx) := by show _ = _; unfold wrapT; rw [if_pos HLK.out.symm]
          have HB7 : Hid (Below wr.heap.size wr (w6.alloc (.cells #[.string sx] 9))) := HB6.out.alloc HB6.out.size _
          have HTR := Lib.hid (HRW.out.later HB7.out)
          have HAB : Hid (Arr (w6.alloc (.cells #[.string sx] 9)) 9 w6.heap.size [.string (bstr tx)]) := by rw [← HSX.out]; exact Arr.new' _ _ _ _ rfl
          have HBS : Hid (w.heap.size + 1 ≤ (w6.alloc (.cells #[.string sx] 9)).heap.size) := Nat.le_trans HSZ.out HB7.out.size
          go_wp2_with (at_builtin; refine app_str rfl _ _ rfl rfl HTR.out rfl HAB.out HAC.out HBS.out ?_; intro v7 w7 h7 b7)
          go_roundw
          case rel => exact ⟨i + 1, by omega, by go_num, by rw [HTK.out, HW.out]; exact h7, (HI.out.trans (HB7.out.mono HI.out.size)).trans (b7.mono (by omega)), (HAI.out.later HB7.out).below b7 (by omega), Nat.le_trans HBS.out b7.size⟩
          case measure => simp [intOf]; omega
        | false =>
          have HW : Hid (wrapT xk tx = 40 :: (tx ++ [41])) := by show _ = _; unfold wrapT; rw [if_neg (by rw [← HLK.out]; exact Bool.false_ne_true)]
          have HEQ : Hid (bstr (40 :: (tx ++ [41])) = ⟨#[40]⟩ ++ sx ++ ⟨#[41]⟩) := by
            show _ = _
            rw [HSX.out, show (⟨#[40]⟩ : ByteArray) = bstr [40] from rfl, show (⟨#[41]⟩ : ByteArray) = bstr [41] from rfl, bstr_app, bstr_app]; rfl
          have HB7 : Hid (Below wr.heap.size wr (w6.alloc (.cells #[.string (⟨#[40]⟩ ++ sx ++ ⟨#[41]⟩)] 9))) := HB6.out.alloc HB6.out.size _
          have HTR := Lib.hid (HRW.out.later HB7.out)
          have HAB : Hid (Arr (w6.alloc (.cells #[.string (⟨#[40]⟩ ++ sx ++ ⟨#[41]⟩)] 9)) 9 w6.heap.size [.string (bstr (40 :: (tx ++ [41])))]) := by rw [HEQ.out]; exact Arr.new' _ _ _ _ rfl
          have HBS : Hid (w.heap.size + 1 ≤ (w6.alloc (.cells #[.string (⟨#[40]⟩ ++ sx ++ ⟨#[41]⟩)] 9)).heap.size) := Nat.le_trans HSZ.out HB7.out.size
          go_wp2_with (at_builtin; refine app_str rfl _ _ rfl rfl HTR.out rfl HAB.out HAC.out HBS.out ?_; intro v7 w7 h7 b7)
          go_roundw
          case rel => exact ⟨i + 1, by omega, by go_num, by rw [HTK.out, HW.out]; exact h7, (HI.out.trans (HB7.out.mono HI.out.size)).trans (b7.mono (by omega)), (HAI.out.later HB7.out).below b7 (by omega), Nat.le_trans HBS.out b7.size⟩
          case measure => simp [intOf]; omega
      · have hi1 : ¬ (i : Int) < ks.length := by omega
        have HK2 : Hid (ks.take i = ks) := List.take_of_length_le (by omega)
        have a0 := HAI.out.cell 0
        simp only [List.getElem?_cons_zero] at a0
        have HSG := Lib.hid (esign_any k wr)
        have HJ := Lib.hid (HRW.out.join (sgK k) (by rw [HK2.out]; exact Nat.le_trans (textJ_len (sgK k) (by rw [sgK_len]; exact Nat.le_refl _) ks) (by omega)) (by rw [textL_length, List.length_take]; omega))
        have HTJ : Hid (Lib.join (textL (ks.take i)) (sgK k) = textE (.mk k xv xn ks)) := by show _ = _; rw [HK2.out, HT.out]
        rw [HTJ.out] at HJ
        obtain ⟨sg, hsg⟩ : ∃ s, s = bstr (sgK k) := ⟨_, rfl⟩
        rw [← hsg] at HSG HJ
        obtain ⟨tt, htt⟩ : ∃ s, s = bstr (textE (.mk k xv xn ks)) := ⟨_, rfl⟩
        rw [← htt] at HJ
        have HTT := Lib.hid htt
        clear hsg htt
        go_wp2_with fail
        refine HSG.out.mono ?_
        rintro r w5 ⟨rfl, rfl⟩
        go_wp2_with fail
        refine HJ.out.mono ?_
        rintro r w6 ⟨rfl, b6⟩
        have HB6 := Lib.hid (HI.out.trans (b6.mono HI.out.size))
        clear b6
        go_wp2_with fail
        go_ret
        exact ⟨by rw [← HTT.out]; rfl, HB6.out⟩
set_option maxRecDepth 100000 in
set_option maxHeartbeats 1000000 in
theorem etext_any (e : Ex) (v : Value) (P : Nat → Prop) (w : World) (hm : sizeE e ≤ 900000) (hwt : wE e ≤ 900000000) (h : RdE P w e v) (hP : ∀ b, P b → b < w.heap.size) (hr : ResT w) : Calls Tryd.prog 15 #[v] w fun r w' => r = .returned (.string (bstr (if rightE e = true then textE e else []))) ∧ Below w.heap.size w w' := by
  have H := Lib.hid h
  have HP := Lib.hid hP
  obtain ⟨q, c, rfl, hc, hk⟩ := h.form
  obtain ⟨k, xv, xn, ks⟩ := e
  unfold exv
  show Calls _ _ #[.agg #[.int .i64 k, .string (bstr xv), .string (bstr xn), .slice q ks.length c]] _ _
  have HB0 : Hid (Below w.heap.size w (w.alloc (.cells #[.int .i64 k, .string (bstr xv), .string (bstr xn), .slice q ks.length c] 24))) := (Below.refl _ _).alloc (Nat.le_refl _) _
  have HA0 : Hid (Arr (w.alloc (.cells #[.int .i64 k, .string (bstr xv), .string (bstr xn), .slice q ks.length c] 24)) 24 w.heap.size [.int .i64 k, .string (bstr xv), .string (bstr xn), .slice q ks.length c]) := Arr.new' _ _ _ _ rfl
  have HP0 : Hid (∀ b, P b → b < (w.alloc (.cells #[.int .i64 k, .string (bstr xv), .string (bstr xn), .slice q ks.length c] 24)).heap.size) := fun b hb => Nat.lt_of_lt_of_le (hP b hb) HB0.out.size
  have HRC := Lib.hid (eright_any (.mk k xv xn ks) _ P (w.alloc (.cells #[.int .i64 k, .string (bstr xv), .string (bstr xn), .slice q ks.length c] 24)) hm (H.out.below HB0.out hP) HP0.out (hr.below HB0.out hr.lt))
  have HTC : Hid (∀ W, Below (w.alloc (.cells #[.int .i64 k, .string (bstr xv), .string (bstr xn), .slice q ks.length c] 24)).heap.size (w.alloc (.cells #[.int .i64 k, .string (bstr xv), .string (bstr xn), .slice q ks.length c] 24)) W → Calls Tryd.prog 32 #[.agg #[.int .i64 k, .string (bstr xv), .string (bstr xn), .slice q ks.length c]] W fun r w' => r = .returned (.string (bstr (textE (.mk k xv xn ks)))) ∧ Below W.heap.size W w') :=
    fun W hW => text_any _ (.mk k xv xn ks) _ P W (Nat.le_refl _) hm hwt ((H.out.below HB0.out hP).below hW HP0.out) (fun b hb => Nat.lt_of_lt_of_le (HP0.out b hb) hW.size)
  obtain ⟨R, hR⟩ : ∃ R, R = rightE (.mk k xv xn ks) := ⟨_, rfl⟩
  rw [← hR] at HRC ⊢
  obtain ⟨tt, htt⟩ : ∃ s, s = textE (.mk k xv xn ks) := ⟨_, rfl⟩
  rw [← htt] at HTC ⊢
  clear h hc hk hm hwt hP hr hR htt
  go_enter Tryd.func15, Tryd.ntmps15
  go_wp2_with fail
  refine HRC.out.mono ?_
  rintro r w5 ⟨rfl, b5⟩
  have HB5 := Lib.hid (HB0.out.trans (b5.mono HB0.out.size))
  have HC5 := Lib.hid (HTC.out w5 b5)
  have HA5 := Lib.hid (HA0.out.later b5)
  have z0 := HA5.out.cell 0
  have z1 := HA5.out.cell 1
  have z2 := HA5.out.cell 2
  have z3 := HA5.out.cell 3
  simp only [List.getElem?_cons_zero, List.getElem?_cons_succ] at z0 z1 z2 z3
  clear b5
  cases R with
  | true =>
    go_wp2_with fail
    refine HC5.out.mono ?_
    rintro r w6 ⟨rfl, b6⟩
    have HB6 := Lib.hid (HB5.out.trans (b6.mono HB5.out.size))
    clear b6
    go_wp2_with fail
    go_ret
    exact ⟨rfl, HB6.out⟩
  | false =>
    go_wp2_with fail
    go_ret
    exact ⟨rfl, HB5.out⟩
end Go.Proofs.YtigphejoekfclaaDoor
