/-
  vestrylaw05.awake.
-/
import Derived.Test.YtikokimnhanloaaDoorFrD
namespace Go.Proofs.YtikokimnhanloaaDoor
open Go.ChangeShapes Go.WideShapes Go.ChangeAt Go.RowKit
open errAs (ErrT)
set_option linter.unusedVariables false

theorem inside_sealed' (l : List UInt8) : inside (sealed l) = l := inside_sealed l
/-- A frame is read as what was put, whatever follows. -/
theorem readF_framed {l : List UInt8} (hl : l.length ≤ 65536) (r : List UInt8) : readF (framed l ++ r) = (l, (framed l).length, 0, 0) := by
  have hn : num (framed l ++ r) = (l.length, (put l.length).length, 0) := by
    unfold framed
    rw [List.append_assoc]
    exact num_put (by unfold lim64; omega) _
  have hs := sealed_len l
  have hd : ((framed l ++ r).drop (put l.length).length).take (l.length + 4) = sealed l := by
    unfold framed
    rw [List.append_assoc, List.drop_left, ← hs, List.take_left]
  have hc : ¬ (framed l ++ r).length < (num (framed l ++ r)).2.1 + (num (framed l ++ r)).1 + 4 := by
    rw [hn]
    unfold framed
    rw [List.length_append, List.length_append, hs]
    show ¬ _ < (put l.length).length + l.length + 4
    omega
  have hd' : ((framed l ++ r).drop (num (framed l ++ r)).2.1).take ((num (framed l ++ r)).1 + 4) = sealed l := by rw [hn]; exact hd
  rw [read_yes (by rw [hn]) (by rw [hn]; show ¬ _ < l.length; omega) hc (by rw [hd']; exact isSealed_sealed l), hd', inside_sealed, hn]
  unfold framed
  rw [List.length_append, hs]
  rfl

theorem eqlSl (a : Addr) (n c : Nat) (w : World) : (binOp BinOp.eql 22 (.slice (some a) n c) (.slice none 0 0)).run Tryd.prog w = .ok (.bool false) w := by kernel_rfl
set_option maxRecDepth 100000 in
theorem clone_any {B : Nat} {w : World} {b off cap : Nat} {l : List UInt8} (hr : Rd B w (.slice (some ⟨b, off, none⟩) l.length cap) l) (hB : B ≤ w.heap.size) (hl : l.length ≤ 1000000000) :
    Calls Tryd.prog 36 #[.slice (some ⟨b, off, none⟩) l.length cap] w (Owned w l) := by
  have hb0 : Below w.heap.size w (w.alloc (.cells #[] 5)) := (Below.refl _ _).alloc (Nat.le_refl _) _
  have hr1 := hr.below hb0 hB
  have hq := eqlSl
  clear hr
  go_enter Tryd.func36, Tryd.ntmps36
  go_wp2_with (at_builtin; refine app_bytes rfl _ _ rfl rfl (own_empty w (Nat.le_refl _)) rfl hr1 (by simp; omega) (by simp) ?_)
  intro v w1 o1 g1
  have hb1 := below_grown hb0 hb0.size (Nat.le_refl _) (own_empty w (Nat.le_refl _)) g1
  have HF := Lib.hid (And.intro o1 hb1)
  clear o1 g1 hb0 hr1 hb1
  go_wp2_with fail
  go_ret
  exact ⟨_, rfl, HF.out.1, HF.out.2⟩

set_option maxRecDepth 100000 in
theorem fall_some {B : Nat} {w : World} {b off cap : Nat} {l : List UInt8} (hr : Rd B w (.slice (some ⟨b, off, none⟩) l.length cap) l) (hB : B ≤ w.heap.size) (hl : l.length ≤ 1000000000) :
    Calls Tryd.prog 19 #[.slice (some ⟨b, off, none⟩) l.length cap] w fun e w' => ∃ fn first c, e = .returned (.func fn first c) ∧ Below w.heap.size w w' := by
  have hmf : ∀ (fn : Fn) (first cap : Array Value) (w : World), (Instr.makeFunc fn first cap).run Tryd.prog w = .ok (.func fn first cap) w := fun _ _ _ _ => rfl
  have HC := Lib.hid (clone_any hr hB hl)
  clear hr
  go_enter Tryd.func19, Tryd.ntmps19
  go_wp2_with fail
  refine HC.out.mono ?_
  rintro e w1 ⟨v, rfl, o1, b1⟩
  obtain ⟨q1, c1, rfl, _, _⟩ := (Rd.of_own o1).form
  have HB := Lib.hid b1
  clear o1 b1
  go_wp2_with fail
  go_ret
  refine ⟨_, _, _, rfl, ?_⟩
  first | exact HB.out.alloc HB.out.size _ | exact (HB.out.alloc HB.out.size _).setCell (by exact HB.out.size) _
theorem make_zeros {ops : Array Oper} {rest : List Oper} {o : Oper} {a : Act} {Q : Exit → Act → World → Prop} {w : World} (hg : o.guard = none) (l c : Operand) (hop : o.op = Op.makeSlice 22 l c)
    {base : Nat} {kl kc : IntKind} {L C : Int} (n : Nat) (hl : a.eval l = .int kl L) (hc : a.eval c = .int kc C) (hL : L = (n : Int)) (hC : C = (n : Int)) (b2 : n ≤ 1000000) (b4 : base ≤ w.heap.size)
    (h : ∀ w', w'.ownsRow base 5 1 (.slice (some ⟨w.heap.size, 0, none⟩) n n) n (bvs (List.replicate n 0)) → w.grownBy w' none → wpList Tryd.prog ops Q rest (a.put o.dst (.slice (some ⟨w.heap.size, 0, none⟩) n n)) w') : wpList Tryd.prog ops Q (o :: rest) a w := by
  obtain ⟨i0, hi, hz0, hz1, hz2⟩ := info_parts Tryd.info5
  refine wpList_make_full w hg l c 22 hop base 5 i0 _ 1 Tryd.underlying22 hi hz0 hz1 kl kc L C n hl hc hL hC (by rw [hz2]; omega) (by unfold maxLen; omega) b4 (fun w' r1 r2 => h w' ?_ r2)
  have e : (madeCells (Value.int .u8 0).cells (n * 1)).toList = bvs (List.replicate n 0) := by
    rw [Nat.mul_one]
    show (madeCells #[Value.int .u8 0] n).toList = _
    rw [toList_madeCells_one]; simp [bvs, bv]
  rw [← e]
  exact r1
theorem zeros_rd {w : World} {base g n : Nat} (h : w.ownsRow base 5 1 (.slice (some ⟨g, 0, none⟩) n n) n (bvs (List.replicate n 0))) : Rd w.heap.size w (.slice (some ⟨g, 0, none⟩) n n) (List.replicate n 0) := Rd.of_own h
theorem neqFn (fn : Fn) (first cp : Array Value) (w : World) : (binOp BinOp.neq 46 (.func fn first cp) .nilFunc).run Tryd.prog w = .ok (.bool true) w := by kernel_rfl
theorem fr0 : framed [] = [0, 0, 0, 0, 0] := by decide +kernel
theorem fr2_len : (framed [1, 2]).length = 7 := by decide +kernel
theorem rd_addr {B : Nat} {w : World} {v : Value} {l : List UInt8} (h : Rd B w v l) (hl : 0 < l.length) : ∃ b off cap, v = .slice (some ⟨b, off, none⟩) l.length cap := by
  rcases h with ⟨oa, rfl, rfl⟩ | ⟨b, off, cap, rfl, _⟩
  · simp at hl
  · exact ⟨b, off, cap, rfl⟩
theorem own_form {w : World} {base n : Nat} {v : Value} {l : List UInt8} (h : w.ownsRow base 5 1 v n (bvs l)) : ∃ q c, v = .slice q l.length c := by
  obtain ⟨q, c, hv, _⟩ := (Rd.of_own h).form
  exact ⟨q, c, hv⟩

set_option maxRecDepth 100000 in
set_option maxHeartbeats 4000000 in
theorem eawake_any (w : World) (hg : ErrT w) : Calls Tryd.prog 8 #[] w fun e w' => e = .returned (.bool true) ∧ Below w.heap.size w w' := by
  have hnf := neqFn
  have HE := Lib.hid hg
  have HP1 := Lib.hid (fput_any (B := w.heap.size) (w := w) (vb := .slice none 0 0) (l := []) (.inl ⟨none, rfl, rfl⟩) (Nat.le_refl _) (by simp))
  clear hg
  go_enter Tryd.func8, Tryd.ntmps8
  go_wp2_with fail
  refine HP1.out.mono ?_
  rintro e w1 ⟨v1, rfl, o1, b1⟩
  rw [fr0] at o1
  have HO1 := Lib.hid o1
  have HB1 := Lib.hid b1
  have HE1 := Lib.hid (errT_below HE.out b1)
  obtain ⟨x1, y1, z1, rfl⟩ := rd_addr (Rd.of_own o1) (by simp)
  clear o1 b1 HP1 HE
  have hb2 : Below w1.heap.size w1 (w1.alloc (.cells #[.int .u8 1, .int .u8 2] 5)) := (Below.refl _ _).alloc (Nat.le_refl _) _
  have HP2 := Lib.hid (fput_any (rd_lit w1 [1, 2] #[.int .u8 1, .int .u8 2] rfl 2 rfl (by decide)) (by simp) (by decide))
  have HB2 := Lib.hid hb2
  clear hb2
  go_wp2_with fail
  refine HP2.out.mono ?_
  rintro e w3 ⟨v3, rfl, o3, b3⟩
  have HB3 := Lib.hid (HB2.out.trans (b3.mono HB2.out.size))
  obtain ⟨L, hL⟩ : ∃ L, L = framed [1, 2] := ⟨_, rfl⟩
  rw [← hL] at o3
  have HL := Lib.hid hL
  have HL7 : Hid (L.length = 7) := by show _ = _; rw [hL]; exact fr2_len
  have o3' := own_le o3 HB2.out.size
  obtain ⟨q3, c3, rfl⟩ := own_form o3
  have HO3 := Lib.hid o3'
  clear o3 o3' b3 HB2 HP2 hL
  have hb4 : Below w3.heap.size w3 (w3.alloc (.cells #[.int .u8 9] 5)) := (Below.refl _ _).alloc (Nat.le_refl _) _
  have HO4 := Lib.hid (own_below HO3.out hb4)
  have HB4 := Lib.hid (HB3.out.trans (hb4.mono HB3.out.size))
  have HR4 := Lib.hid (rd_lit w3 [9] #[.int .u8 9] rfl 1 rfl (by decide))
  clear hb4
  go_wp2_with (at_builtin; refine app_bytes rfl _ _ rfl rfl HO4.out rfl HR4.out (by have := HL7.out; simp; omega) HB4.out.size ?_)
  intro v5 w5 o5 g5
  have hb5 := below_grown HB4.out HB4.out.size (Nat.le_refl _) HO4.out g5
  have HB5 := Lib.hid hb5
  have HE5 := Lib.hid (errT_below HE1.out hb5)
  have ol : (L ++ [9]).length = L.length + 1 := by simp
  rw [← ol] at o5
  obtain ⟨q5, c5, rfl⟩ := own_form o5
  have HRD := Lib.hid (fread_any (Rd.of_own o5) (Nat.le_refl _) (by rw [ol, HL7.out]; decide) HE5.out)
  rw [ol] at HRD
  have HRF : Hid (readF (L ++ [9]) = ([1, 2], 7, 0, 0)) := by
    show _ = _
    rw [HL.out, readF_framed (by decide), fr2_len]
  clear hb5 o5 g5 ol HB3 HB4 HO3 HO4 HR4
  go_wp2_with fail
  refine HRD.out.mono ?_
  rintro e w6 ⟨v6, rfl, o6, b6⟩
  rw [HRF.out] at o6 ⊢
  have HB6 := Lib.hid (HB5.out.trans (b6.mono HB5.out.size))
  have HE6 := Lib.hid (errT_below HE5.out b6)
  have HO6 := Lib.hid o6
  rw [show errF ([1, 2], 7, 0, 0).2.2.1 ([1, 2], 7, 0, 0).2.2.2 = .nilIface from rfl]
  clear o6 b6 HB5 HE5 HRD
  go_wp2_with fail
  refine (fread_nil HE6.out).mono ?_
  rintro e w7 ⟨v7, rfl, o7, b7⟩
  have HB7 := Lib.hid (HB6.out.trans (b7.mono HB6.out.size))
  have HE7 := Lib.hid (errT_below HE6.out b7)
  have HO17 := Lib.hid (own_below HO1.out HB7.out)
  have HO67 := Lib.hid (own_below HO6.out b7)
  rw [show errF (readF []).2.2.1 (readF []).2.2.2 = faultN 1 0 from rfl]
  clear o7 b7 HB6 HE6 HO6 HO1
  go_wp2_with (at_make; refine make_zeros rfl _ _ rfl (base := w7.heap.size) 5 rfl rfl rfl rfl (by decide) (Nat.le_refl _) ?_)
  intro w8 o8 g8
  have hb8 : Below w7.heap.size w7 w8 := (Below.refl _ _).grown g8 (Nat.le_refl _) (by simp)
  have HB8 := Lib.hid (HB7.out.trans (hb8.mono HB7.out.size))
  have HE8 := Lib.hid (errT_below HE7.out hb8)
  have HO18 := Lib.hid (own_below HO17.out hb8)
  have HO68 := Lib.hid (own_below HO67.out hb8)
  have HS := Lib.hid (same_any (Rd.of_own HO18.out) (zeros_rd o8))
  rw [show eqB [0, 0, 0, 0, 0] (List.replicate 5 0) = true from rfl] at HS
  obtain ⟨q6, c6, rfl⟩ := own_form HO68.out
  clear o8 g8 hb8 HB7 HE7 HO17 HO67
  go_wp2_with fail
  refine HS.out.mono ?_
  rintro e w9 ⟨rfl, d9, rfl⟩
  have hd9 := Joins.below_draws w8.heap.size w8 d9
  obtain ⟨w9, hw9⟩ : ∃ w9, w9 = w8.drewN d9 := ⟨_, rfl⟩
  rw [← hw9] at hd9 ⊢
  clear hw9
  have hb10 : Below w9.heap.size w9 (w9.alloc (.cells #[.int .u8 1, .int .u8 2] 5)) := (Below.refl _ _).alloc (Nat.le_refl _) _
  have HB9 := Lib.hid (HB8.out.trans (hd9.mono HB8.out.size))
  have HB10 := Lib.hid (HB9.out.trans (hb10.mono HB9.out.size))
  have HE9 := Lib.hid (errT_below (errT_below HE8.out hd9) hb10)
  have HO19 := Lib.hid (own_below (own_below HO18.out hd9) hb10)
  have HS2 : Hid (Calls Tryd.prog 11 #[.slice q6 2 c6, .slice (some ⟨w9.heap.size, 0, none⟩) 2 2] (w9.alloc (.cells #[.int .u8 1, .int .u8 2] 5)) fun e w' => e = .returned (.bool (eqB [1, 2] [1, 2])) ∧ ∃ n, w' = (w9.alloc (.cells #[.int .u8 1, .int .u8 2] 5)).drewN n) :=
    same_any (Rd.of_own (own_below (own_below HO68.out hd9) hb10)) (rd_lit w9 [1, 2] #[.int .u8 1, .int .u8 2] rfl 2 rfl (by decide))
  rw [show eqB [1, 2] [1, 2] = true from rfl] at HS2
  clear hd9 hb10 HB8 HE8 HO18 HO68 HS HB9
  rw [show ([1, 2] : List UInt8).length = 2 from rfl]
  go_wp2_with fail
  refine HS2.out.mono ?_
  rintro e w11 ⟨rfl, d11, rfl⟩
  obtain ⟨w10, hw10⟩ : ∃ w10, w10 = w9.alloc (.cells #[.int .u8 1, .int .u8 2] 5) := ⟨_, rfl⟩
  rw [← hw10] at HB10 HE9 HO19 ⊢
  clear hw10 HS2
  have hd11 := Joins.below_draws w10.heap.size w10 d11
  obtain ⟨w11, hw11⟩ : ∃ w11, w11 = w10.drewN d11 := ⟨_, rfl⟩
  rw [← hw11] at hd11 ⊢
  clear hw11
  have HB11 := Lib.hid (HB10.out.trans (hd11.mono HB10.out.size))
  have HE11 := Lib.hid (errT_below HE9.out hd11)
  have HO111 := Lib.hid (own_below HO19.out hd11)
  have HTO := Lib.hid (told_fault 1 0 (by decide) w11 HE11.out)
  clear hd11 HB10 HE9 HO19
  go_wp2_with fail
  refine HTO.out.mono ?_
  rintro e w12 ⟨rfl, b12⟩
  have HB12 := Lib.hid (HB11.out.trans (b12.mono HB11.out.size))
  have HO12 := Lib.hid (own_below HO111.out b12)
  have HSZ := Lib.hid (fsize_any 2 (by decide) w12)
  rw [show (put 2).length + 2 + 4 = 7 from by decide +kernel] at HSZ
  clear b12 HTO HB11 HE11 HO111
  go_wp2_with fail
  refine HSZ.out.mono ?_
  rintro e w13 ⟨rfl, b13⟩
  have HB13 := Lib.hid (HB12.out.trans (b13.mono HB12.out.size))
  have HO13 := Lib.hid (own_below HO12.out b13)
  have HA : Hid (Calls Tryd.prog 19 #[.slice (some ⟨x1, y1, none⟩) 5 z1] w13 fun e w' => ∃ fn first c, e = .returned (.func fn first c) ∧ Below w13.heap.size w13 w') := fall_some (l := [0, 0, 0, 0, 0]) (Rd.of_own HO13.out) (Nat.le_refl _) (by decide)
  clear b13 HSZ HB12 HO12
  go_wp2_with fail
  refine HA.out.mono ?_
  rintro e w14 ⟨fn, first, cp, rfl, b14⟩
  have HB14 := Lib.hid (HB1.out.trans ((HB13.out.trans (b14.mono HB13.out.size)).mono HB1.out.size))
  clear b14 HA HB13
  go_wp2_with fail
  go_ret
  exact ⟨rfl, HB14.out⟩
end Go.Proofs.YtikokimnhanloaaDoor
