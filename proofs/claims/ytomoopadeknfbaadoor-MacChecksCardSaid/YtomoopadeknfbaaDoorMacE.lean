/-
  mac.Check, mac.Derive, mac.Key.
-/
import Derived.Test.YtomoopadeknfbaaDoorMacD
import Derived.Test.YtomoopadeknfbaaDoorConvS
namespace Go.Proofs.YtomoopadeknfbaaDoor
open Go.ChangeShapes Go.WideShapes Go.ChangeAt Go.RowKit
set_option linter.unusedVariables false

set_option maxRecDepth 100000 in
set_option maxHeartbeats 1000000 in
theorem mcheck_any {w : World} {v u : Value} {k cd : List UInt8} {oa : Option Addr} {cap : Nat} {ls : List (List UInt8)} (hv : Rd w.heap.size w v k) (hk : k.length ≤ 90000000000000) (hc : Rd w.heap.size w u cd) (hr : RdAll w.heap.size w oa ls) (hn : ls.length ≤ 1000000000000) (ht : total ls ≤ 90000000000000) (he : Env w) :
    Calls Tryd.prog 16 #[v, u, .slice oa ls.length cap] w fun e w' => e = .returned (.bool (decide (16 ≤ cd.length ∧ cd.length ≤ 32) && (hmac k ls.flatten).take cd.length == cd)) ∧ Below w.heap.size w w' := by
  obtain ⟨q, c, rfl, _, _⟩ := hv.form
  obtain ⟨q2, c2, rfl, _, _⟩ := hc.form
  obtain ⟨n, hN⟩ : ∃ n, n = cd.length := ⟨_, rfl⟩
  have HN := Lib.hid hN
  have HV := Lib.hid hv
  have HC := Lib.hid hc
  have HR := Lib.hid hr
  have HE := Lib.hid he
  have HKL := Lib.hid hk
  have HLN := Lib.hid hn
  have HT := Lib.hid ht
  rw [← hN] at HC ⊢
  clear hv hc hr he hk hn ht hN
  by_cases h1 : n < 16
  · have h1' : (n : Int) < 16 := by omega
    rw [show decide (16 ≤ n ∧ n ≤ 32) = false by rw [decide_eq_false_iff_not]; omega, Bool.false_and]
    go_enter Tryd.func16, Tryd.ntmps16
    go_wp2_with fail
    go_ret
    exact ⟨rfl, Below.refl _ _⟩
  · by_cases h2 : 32 < n
    · have h1' : ¬ (n : Int) < 16 := by omega
      have h2' : (32 : Int) < n := by omega
      rw [show decide (16 ≤ n ∧ n ≤ 32) = false by rw [decide_eq_false_iff_not]; omega, Bool.false_and]
      go_enter Tryd.func16, Tryd.ntmps16
      go_wp2_with fail
      go_ret
      exact ⟨rfl, Below.refl _ _⟩
    · have h1' : ¬ (n : Int) < 16 := by omega
      have h2' : ¬ (32 : Int) < n := by omega
      rw [show decide (16 ≤ n ∧ n ≤ 32) = true by rw [decide_eq_true_eq]; omega, Bool.true_and]
      have h3 : (0 : Int) ≤ n := by omega
      have h4 : (n : Int) ≤ 32 := by omega
      go_enter Tryd.func16, Tryd.ntmps16
      go_wp2_with fail
      refine (msum_any HV.out HKL.out HR.out HLN.out HT.out HE.out).mono ?_
      rintro e w1 ⟨rfl, b1⟩
      have HC1 := Lib.hid (HC.out.below b1 (Nat.le_refl _))
      have HB1 := Lib.hid b1
      obtain ⟨D, hD⟩ : ∃ D, D = hmac k ls.flatten := ⟨_, rfl⟩
      rw [← hD]
      have HDL : Hid (D.length = 32) := by rw [hD]; exact hmac_length _ _
      have HDE := Lib.hid hD
      clear b1 hD HV HC HR HE HKL HLN HT
      have hb2 : Below w1.heap.size w1 (w1.alloc (.cells (bvs D).toArray 26)) := (Below.refl _ _).alloc (Nat.le_refl _) _
      have HB2 := Lib.hid (HB1.out.trans (hb2.mono HB1.out.size))
      have HC2 := Lib.hid (HC1.out.below hb2 HB1.out.size)
      have HD2 : Hid (Rd (w1.alloc (.cells (bvs D).toArray 26)).heap.size (w1.alloc (.cells (bvs D).toArray 26)) (.slice (some ⟨w1.heap.size, 0, none⟩) n 32) (D.take n)) := by
        have hA := Arr.new' w1 26 (bvs D).toArray (bvs D) (by simp)
        have hl : (D.take n).length = n := by rw [List.length_take, HDL.out]; omega
        refine .inr ⟨w1.heap.size, 0, 32, by rw [hl], by rw [hl]; omega, by unfold maxLen; omega, hA.lt, fun i hi => ?_⟩
        rw [hl] at hi
        rw [Nat.zero_add, hA.cell i, bvs_getElem D i (by rw [HDL.out]; omega)]
        congr 2
        simp [List.getD_eq_getElem?_getD, hi]
      clear hb2 HB1 HC1
      go_wp2_with ((with_reducible refine at32b w1.heap.size (x := .tmp 7) (y := .tmp 18) (l := D) (o := ⟨none, .store _ _ _, _, _, _, _⟩) HDL.out ?_ ?_); exact ⟨rfl, rfl, rfl, rfl, rfl, rfl⟩)
      refine (mequal_any HD2.out HC2.out (Nat.le_refl _) HB2.out.size).mono ?_
      rintro e w3 ⟨rfl, b3⟩
      have HB3 := Lib.hid (HB2.out.trans (b3.mono HB2.out.size))
      obtain ⟨E, hE⟩ : ∃ E, E = (D.take n == cd) := ⟨_, rfl⟩
      rw [← hE]
      have HEE : Hid (E = ((hmac k ls.flatten).take n == cd)) := by show _ = _; rw [hE, HDE.out]
      clear b3 HB2 HC2 HD2 hE
      go_wp2_with fail
      go_ret
      exact ⟨by rw [← HEE.out]; rfl, HB3.out⟩
/-- The first c blocks of a derived string. -/
def derN (k lab : List UInt8) (c : Nat) : List UInt8 := ((List.range c).map fun j => hmac k (UInt8.ofNat (j + 1) :: lab)).flatten
theorem derN_succ (k lab : List UInt8) (c : Nat) : derN k lab (c + 1) = derN k lab c ++ hmac k (UInt8.ofNat (c + 1) :: lab) := by
  simp [derN, List.range_succ]
theorem derN_length (k lab : List UInt8) (c : Nat) : (derN k lab c).length = 32 * c := by
  induction c with
  | zero => rfl
  | succ c ih => rw [derN_succ, List.length_append, ih, hmac_length]; omega
def derive (k lab : List UInt8) (n : Nat) : List UInt8 := (derN k lab ((n + 31) / 32)).take n
theorem derive_length (k lab : List UInt8) (n : Nat) : (derive k lab n).length = n := by
  rw [derive, List.length_take, derN_length]; omega
theorem derN_take (k lab : List UInt8) (a b n : Nat) (h : n ≤ 32 * a) (hab : a ≤ b) : (derN k lab b).take n = (derN k lab a).take n := by
  induction b with
  | zero => rw [show a = 0 by omega]
  | succ b ih =>
    by_cases e : a = b + 1
    · rw [e]
    · rw [derN_succ, List.take_append_of_le_length (by rw [derN_length]; omega)]
      exact ih (by omega)
theorem Held.take {base : Nat} {w : World} {a : Option Addr} {n cap k : Nat} {l : List UInt8} (h : Held base w (.slice a n cap) l) (hk : k ≤ l.length) : Held base w (.slice a k cap) (l.take k) := by
  have hl : (l.take k).length = k := by rw [List.length_take]; omega
  rcases h with ⟨hv, h0⟩ | ⟨g, off, cap', hv, h1, h2, h3, h4, h5, h6⟩
  · simp only [Value.slice.injEq] at hv
    obtain ⟨rfl, rfl, rfl⟩ := hv
    subst h0
    obtain rfl : k = 0 := by simpa using hk
    exact .inl ⟨rfl, rfl⟩
  · simp only [Value.slice.injEq] at hv
    obtain ⟨rfl, rfl, rfl⟩ := hv
    refine .inr ⟨g, off, cap, by rw [hl], by omega, h2, h3, h4, fun i hi => ?_, h6⟩
    rw [hl] at hi
    rw [h5 i (by omega)]
    simp [List.getD_eq_getElem?_getD, hi]
set_option maxRecDepth 100000 in
set_option maxHeartbeats 1000000 in
theorem mderive_any {w : World} {v : Value} {k : List UInt8} {lab : ByteArray} (n : Nat) (hv : Rd w.heap.size w v k) (hk : k.length ≤ 90000000000000) (hlab : lab.size ≤ 1000) (hn : n ≤ 8160) (he : Env w) :
    Calls Tryd.prog 12 #[v, .string lab, .int .i64 n] w fun e w' => ∃ v', e = .returned v' ∧ Held w.heap.size w' v' (derive k lab.data.toList n) ∧ Below w.heap.size w w' := by
  obtain ⟨q, c, rfl, _, _⟩ := hv.form
  have HV := Lib.hid hv
  have HE := Lib.hid he
  have HKL := Lib.hid hk
  have HLAB := Lib.hid hlab
  clear hv he hk hlab
  have n0 : (0 : Int) ≤ n := by omega
  have n1 : (n : Int) ≤ 8160 := by omega
  go_enter Tryd.func12, Tryd.ntmps12
  go_wp2_with fail
  go_loopw [7, 8] (fun vd iv wr => ∃ c : Nat, 32 * c ≤ n + 31 ∧ iv = .int .i64 ((c + 1 : Nat) : Int) ∧ Hid (Held w.heap.size wr vd (derN k lab.data.toList c) ∧ Below w.heap.size w wr)) (fun _ iv _ => 300 - (intOf iv).toNat)
  case atStart => exact ⟨0, by omega, rfl, .inl ⟨rfl, rfl⟩, Below.refl _ _⟩
  case round =>
    obtain ⟨j, hj, rfl, HM⟩ := hrel
    obtain ⟨q1, c1, rfl, hc1, hc2⟩ := HM.out.1.form
    have hlen := derN_length k lab.data.toList j
    obtain ⟨T, hT⟩ : ∃ T, T = derN k lab.data.toList j := ⟨_, rfl⟩
    rw [← hT] at HM hlen hc1 ⊢
    rw [hlen] at HM hc1 ⊢
    have HTE := Lib.hid hT
    have HTL := Lib.hid hlen
    clear hT hlen
    by_cases hlt : 32 * j < n
    · have hlt1 : 32 * (j : Int) < n := by omega
      have hlt2 : ((32 * j : Nat) : Int) < n := by omega
      have hby : IntKind.u8.wrap ((j : Int) + 1) = (j : Int) + 1 := by rw [IntKind.wrap_u8']; omega
      have hby2 : ((j : Int) + 1) % 256 = (j : Int) + 1 := by omega
      obtain ⟨b, hbE⟩ : ∃ b : UInt8, b = UInt8.ofNat (j + 1) := ⟨_, rfl⟩
      have hbt : ((b.toNat : Nat) : Int) = (j : Int) + 1 := by rw [hbE, UInt8.toNat_ofNat', Nat.mod_eq_of_lt (by omega)]; omega
      have r1 := (rd_lit wr [b] #[.int .u8 b.toNat] rfl 1 rfl (by simp [maxLen]))
      rw [hbt] at r1
      have hb1 : Below wr.heap.size wr (wr.alloc (.cells #[.int .u8 ((j : Int) + 1)] 5)) := (Below.refl _ _).alloc (Nat.le_refl _) _
      have hs1 : (wr.alloc (.cells #[.int .u8 ((j : Int) + 1)] 5)).heap.size = wr.heap.size + 1 := by simp
      obtain ⟨cS, wS, hrunS, hrS, hbS⟩ := conv_str (wr.alloc (.cells #[.int .u8 ((j : Int) + 1)] 5)) lab (by have := HLAB.out; unfold maxLen; omega)
      have r1S := (r1.below hbS (by omega)).mono (by have := hbS.size; omega : wr.heap.size + 1 ≤ wS.heap.size)
      have hbT : Below wr.heap.size wr wS := hb1.trans (hbS.mono (by omega))
      rw [hs1] at hrunS hrS
      have hr2 := rd_two (t := 22) r1S hrS
      have hb3 : Below wS.heap.size wS (wS.alloc (.cells #[.slice (some ⟨wr.heap.size, 0, none⟩) 1 1, .slice (some ⟨wr.heap.size + 1, 0, none⟩) lab.size cS] 22)) := (Below.refl _ _).alloc (Nat.le_refl _) _
      have hb4 := hbT.trans (hb3.mono hbT.size)
      have HB4 := Lib.hid (HM.out.2.trans (hb4.mono HM.out.2.size))
      have HH4 := Lib.hid (HM.out.1.later hb4)
      have HR4 := Lib.hid hr2
      have HV4 := Lib.hid ((HV.out.below HB4.out (Nat.le_refl _)).mono HB4.out.size)
      have HE4 := Lib.hid (HE.out.below HB4.out)
      have HBE := Lib.hid hbE
      have HRS := Lib.hid hrunS
      clear r1 hb1 hbS hrS r1S hbT hr2 hb3 hb4 HM hbE hbt
      go_wp2_with fail
      refine (msum_any (cap := 2) HV4.out HKL.out HR4.out (by simp) (by have := HLAB.out; simp only [total, List.flatten_cons, List.flatten_nil, List.append_nil, List.length_append, List.length_singleton, str_length]; omega) HE4.out).mono ?_
      rintro e w5 ⟨rfl, b5⟩
      have HB5 := Lib.hid (HB4.out.trans (b5.mono HB4.out.size))
      have HH5 := Lib.hid (HH4.out.later b5)
      obtain ⟨D, hD⟩ : ∃ D, D = hmac k [[b], lab.data.toList].flatten := ⟨_, rfl⟩
      rw [← hD]
      have HDL : Hid (D.length = 32) := by rw [hD]; exact hmac_length _ _
      have HNX : Hid (T ++ D = derN k lab.data.toList (j + 1)) := by
        show _ = _
        rw [derN_succ, ← HTE.out, hD, HBE.out]; simp
      clear b5 hrunS HB4 HH4 HR4 HV4 HE4 hD hs1
      have hb6 : Below w5.heap.size w5 (w5.alloc (.cells (bvs D).toArray 26)) := (Below.refl _ _).alloc (Nat.le_refl _) _
      have HB6 := Lib.hid (HB5.out.trans (hb6.mono HB5.out.size))
      have HH6 := HH5.out.later hb6
      have HD6 : Hid (Rd (w5.alloc (.cells (bvs D).toArray 26)).heap.size (w5.alloc (.cells (bvs D).toArray 26)) (.slice (some ⟨w5.heap.size, 0, none⟩) 32 32) D) := by
        have := arr_rd (Arr.new' w5 26 (bvs D).toArray (bvs D) (by simp)) (by rw [HDL.out]; unfold maxLen; omega)
        rw [HDL.out] at this
        exact this
      have HL6 : Hid (T.length + D.length ≤ 140737488355328) := by show _ ≤ _; rw [HTL.out, HDL.out]; omega
      have HS6 : Hid (w.heap.size ≤ (w5.alloc (.cells (bvs D).toArray 26)).heap.size) := HB6.out.size
      have HH6 := Lib.hid HH6
      clear hb6 HB5 HH5
      go_wp2_with (first
        | ((with_reducible refine at32b w5.heap.size (x := .tmp 9) (y := .tmp 29) (l := D) (o := ⟨none, .store _ _ _, _, _, _, _⟩) HDL.out ?_ ?_); exact ⟨rfl, rfl, rfl, rfl, rfl, rfl⟩)
        | (at_builtin; refine app_held rfl (.tmp 30) (.tmp 31) rfl rfl HH6.out rfl HD6.out HL6.out HS6.out ?_))
      intro v7 w7 h7 b7
      rw [HNX.out] at h7
      have HM7 : Hid (Held w.heap.size w7 v7 (derN k lab.data.toList (j + 1)) ∧ Below w.heap.size w w7) := ⟨h7, HB6.out.trans b7⟩
      clear h7 b7 HB6 HH6 HD6 HS6
      go_wp2_with fail
      go_roundw
      case rel => exact ⟨j + 1, by omega, by go_num, HM7.out⟩
      case measure => simp [intOf]; omega
    · have hjq : (derN k lab.data.toList ((n + 31) / 32)).take n = T.take n := by
        rw [HTE.out]
        by_cases e : j ≤ (n + 31) / 32
        · exact derN_take k _ j _ n (by omega) e
        · exact (derN_take k _ _ j n (by omega) (by omega)).symm
      have HFIN := Lib.hid (HM.out.1.take (k := n) (by rw [HTL.out]; omega))
      have HB := Lib.hid HM.out.2
      have HJQ := Lib.hid hjq
      have hlt2 : ¬ (((32 * j : Nat) : Int) < n) := by omega
      have hlt3 : ¬ (32 * (j : Int) < n) := by omega
      have hcn : (n : Int) ≤ c1 := by omega
      clear HM hjq
      go_wp2_with fail
      go_ret
      exact ⟨_, rfl, by rw [derive, HJQ.out]; exact HFIN.out, HB.out⟩
theorem mderive_out {w : World} {v : Value} {lab : ByteArray} (n : Int) (hn : n < 0 ∨ 8160 < n) :
    Calls Tryd.prog 12 #[v, .string lab, .int .i64 n] w fun e w' => e = .returned (.slice none 0 0) ∧ w = w' := by
  by_cases h : n < 0
  · go_enter Tryd.func12, Tryd.ntmps12
    go_wp2_with fail
    go_ret
    exact ⟨rfl, rfl⟩
  · have h2 : 8160 < n := by omega
    go_enter Tryd.func12, Tryd.ntmps12
    go_wp2_with fail
    go_ret
    exact ⟨rfl, rfl⟩
theorem arr_at16 (a : Addr) (n c : Nat) (h : ¬ n < 16) (w : World) : (Instr.arrayAt 32 (.slice (some a) n c)).run Tryd.prog w = .ok (.pointer (some a)) w := by
  simp [Instr.arrayAt, Sem.run_bind, run_underlying Tryd.underlying32, h]
section
variable {ops : Array Oper} {rest : List Oper} {o : Oper} {a : Act} {Q : Exit → Act → World → Prop} {w : World} {t : TypeId} {g : Nat} {x y : Operand}
theorem loadmid16b {off : Nat} {l : List UInt8} (hA : w.rangeAt g off (bvs l)) (hl : l.length = 16) (hs : o.guard = none ∧ o.op = .load 32 x ∧ a.eval x = .pointer (some ⟨g, off, none⟩))
    (hk : wpList Tryd.prog ops Q rest (a.put o.dst (.agg (bvs l).toArray)) w) : wpList Tryd.prog ops Q (o :: rest) a w :=
  wpList_load_mid hs.1 _ x hs.2.1 g off hs.2.2 _ _ hA Tryd.underlying32 rfl (by rw [bvs_length, hl]; kernel_rfl) hk
theorem store16b {l : List UInt8} {old : List Value} (hA : Arr w t g old) (ho : old.length = 16) (hl : l.length = 16) (hs : o.guard = none ∧ o.op = .store 32 x y ∧ a.eval x = .pointer (some ⟨g, 0, none⟩) ∧ a.eval y = .agg (bvs l).toArray)
    (hk : ∀ w', w' = w.setRow g (bvs l).toArray → wpList Tryd.prog ops Q rest (a.put o.dst undef) w') : wpList Tryd.prog ops Q (o :: rest) a w :=
  store_arr hs.1 _ _ _ hs.2.1 hA hs.2.2.1 hs.2.2.2 (by rw [bvs_length, hl]; kernel_rfl) (by rw [ho, bvs_length, hl]) (bvs_oneCell l) (hk _ rfl)
theorem at16b (n : Nat) {l : List UInt8} {cs : Array Value} (hl : l.length = 16)
    (hs : o.guard = none ∧ o.op = .store 32 x y ∧ a.eval x = .pointer (some ⟨n, 0, none⟩) ∧ a.eval y = .agg (bvs l).toArray ∧ cs.toList.length = 16 ∧ n = w.heap.size)
    (hk : wpList Tryd.prog ops Q rest (a.put o.dst undef) (w.alloc (.cells (bvs l).toArray t))) : wpList Tryd.prog ops Q (o :: rest) a (w.alloc (.cells cs t)) := by
  obtain ⟨h1, h2, h3, h4, h5, rfl⟩ := hs
  exact store_arr h1 _ _ _ h2 (Arr.new w t cs) h3 h4 (by rw [bvs_length, hl]; kernel_rfl) (by rw [h5, bvs_length, hl]) (bvs_oneCell l) (by rw [World.setRow_alloc_new]; exact hk)
end
theorem res16b {fn : Func} {p : Tmp} {tmps : Array Value} {w : World} {g : Nat} {t : TypeId} {l : List UInt8} (h : fn.results = #[.cell p 32]) (hA : Arr w t g (bvs l)) (hl : l.length = 16) (hp : tmps.getD p undef = .pointer (some ⟨g, 0, none⟩)) :
    (results fn tmps).run Tryd.prog w = .ok (.agg (bvs l).toArray) w :=
  results_cell_row h tmps w g t (bvs l).toArray (0, 0) _ hp hA Tryd.underlying32 rfl (by rw [List.size_toArray, bvs_length, hl]; kernel_rfl)
set_option maxRecDepth 100000 in
set_option maxHeartbeats 1000000 in
theorem mkey_any {w : World} {v : Value} {k : List UInt8} {lab : ByteArray} (hv : Rd w.heap.size w v k) (hk : k.length ≤ 90000000000000) (hlab : lab.size ≤ 1000) (he : Env w) :
    Calls Tryd.prog 15 #[v, .string lab] w fun e w' => e = .returned (.agg (bvs (derive k lab.data.toList 16)).toArray) ∧ Below w.heap.size w w' := by
  obtain ⟨Z, hZ⟩ : ∃ Z : List UInt8, Z = List.replicate 16 0 := ⟨_, rfl⟩
  have HZ2 : Hid (∀ cs : Array Value, cs.toList = bvs (List.replicate 16 0) → cs.toList = bvs Z) := fun cs h => by rw [hZ]; exact h
  have HZL : Hid ((bvs Z).length = 16) := by show _ = _; rw [bvs_length, hZ]; rfl
  have HD : Hid (∀ z : Array Value, z.toList = bvs Z → Arr (w.alloc (.cells z 32)) 32 w.heap.size (bvs Z) ∧ Below w.heap.size w (w.alloc (.cells z 32)) ∧ Calls Tryd.prog 12 #[v, .string lab, .int .i64 16] (w.alloc (.cells z 32)) fun e w' => ∃ v', e = .returned v' ∧ Held (w.alloc (.cells z 32)).heap.size w' v' (derive k lab.data.toList 16) ∧ Below (w.alloc (.cells z 32)).heap.size (w.alloc (.cells z 32)) w') := fun z hz => by
    have hb : Below w.heap.size w (w.alloc (.cells z 32)) := (Below.refl _ _).alloc (Nat.le_refl _) _
    exact ⟨Arr.new' w _ z _ hz, hb, mderive_any 16 ((hv.below hb (Nat.le_refl _)).mono hb.size) hk hlab (by omega) (he.below hb)⟩
  obtain ⟨q, c, rfl, _, _⟩ := hv.form
  clear hv hk hlab he hZ
  go_enter Tryd.func15, Tryd.ntmps15
  go_wp2_with fail
  refine (HD.out _ (HZ2.out _ rfl)).2.2.mono ?_
  rintro e w1 ⟨v1, rfl, h1, b1⟩
  have HB1 := Lib.hid ((HD.out _ (HZ2.out _ rfl)).2.1.trans (b1.mono (HD.out _ (HZ2.out _ rfl)).2.1.size))
  have HM1 := Lib.hid ((HD.out _ (HZ2.out _ rfl)).1.later b1)
  have hl := derive_length k lab.data.toList 16
  obtain ⟨T, hT⟩ : ∃ T, T = derive k lab.data.toList 16 := ⟨_, rfl⟩
  rw [← hT] at h1 hl
  have HTE := Lib.hid hT
  rcases h1 with ⟨_, h0⟩ | ⟨g, off, cp, rfl, h2, h3, h4, h5, h6, h7⟩
  · rw [h0] at hl; simp at hl
  have HT := Lib.hid hl
  have HR : Hid (w1.rangeAt g off (bvs T)) := by
    have := range_bytes h6 16 (by omega)
    rw [List.take_of_length_le (by omega)] at this
    exact this
  rw [hl]
  have har := arr_at16 ⟨g, off, none⟩ 16 cp (by omega)
  have hM := HM1.out
  clear h2 h3 h4 h5 h6 h7 HD b1 hT hl HZ2
  go_wp2_with (first
    | ((with_reducible refine loadmid16b (off := off) (l := T) (x := .tmp 8) (o := ⟨some 9, _, _, _, _, _⟩) HR.out HT.out ?_ ?_); exact ⟨rfl, rfl, rfl⟩)
    | ((with_reducible refine store16b (x := .tmp 4) (y := .tmp 9) (l := T) (o := ⟨none, .store _ _ _, _, _, _, _⟩) hM HZL.out HT.out ?_ ?_); exact ⟨rfl, rfl, rfl, rfl⟩))
  exact bodyPost_ret (res16b rfl (hM.row _) HT.out rfl) rfl ⟨by rw [HTE.out], below_row HB1.out (Nat.le_refl _) _⟩
end Go.Proofs.YtomoopadeknfbaaDoor
