/-
  base.Value and base.Decode return what 'dec' says; base.Sign.
-/
import Derived.Test.YtpkndgjkopfpkaaEncode
import Derived.Test.YtpkndgjkopfpkaaShelf
namespace Go.Proofs.Ytpkndgjkopfpkaa
open Go.ChangeShapes Go.WideShapes Go.ChangeAt Go.RowKit
set_option linter.unusedVariables false

def valI (c : UInt8) : Int := Lib.indexByte alpha.data.toList c
theorem valI_bd (c : UInt8) : -1 ≤ valI c ∧ valI c < 64 := by
  have h : ∀ n : Fin 256, (decide (-1 ≤ valI (UInt8.ofNat n.val)) && decide (valI (UInt8.ofNat n.val) < 64)) = true := by decide +kernel
  have hc : UInt8.ofNat c.toNat = c := UInt8.ofNat_toNat
  have := h ⟨c.toNat, c.toNat_lt⟩
  simp only [hc, Bool.and_eq_true, decide_eq_true_eq] at this
  exact this

set_option maxRecDepth 100000 in
theorem value_yes (c : UInt8) (v : Nat) (h : valI c = v) (w : World) : Calls Try.prog 31 #[.int .u8 c.toNat] w fun e w' => e = .returned (.tuple #[.int .i64 v, .bool true]) ∧ w = w' := by
  have hv0 : (0 : Int) ≤ v := by omega
  have HC := Lib.hid (Try.strings_IndexByte alpha (c.toNat : Int) w)
  have HE : Hid (Lib.indexByte alpha.data.toList ((c.toNat : Int)).toNat.toUInt8 = (v : Int)) := by
    show Lib.indexByte alpha.data.toList (UInt8.ofNat c.toNat) = _
    rw [UInt8.ofNat_toNat]; exact h
  clear h
  go_enter Try.func31, Try.ntmps31
  go_wp2_with fail
  refine HC.out.mono ?_
  rintro e w1 ⟨rfl, hw⟩
  subst hw
  rw [HE.out]
  go_wp2_with fail
  go_ret2
  exact ⟨rfl, rfl⟩

set_option maxRecDepth 100000 in
theorem value_no (c : UInt8) (h : valI c = -1) (w : World) : Calls Try.prog 31 #[.int .u8 c.toNat] w fun e w' => e = .returned (.tuple #[.int .i64 0, .bool false]) ∧ w = w' := by
  have HC := Lib.hid (Try.strings_IndexByte alpha (c.toNat : Int) w)
  have HE : Hid (Lib.indexByte alpha.data.toList ((c.toNat : Int)).toNat.toUInt8 = -1) := by
    show Lib.indexByte alpha.data.toList (UInt8.ofNat c.toNat) = _
    rw [UInt8.ofNat_toNat]; exact h
  clear h
  go_enter Try.func31, Try.ntmps31
  go_wp2_with fail
  refine HC.out.mono ?_
  rintro e w1 ⟨rfl, hw⟩
  subst hw
  rw [HE.out]
  go_wp2_with fail
  go_ret2
  exact ⟨rfl, rfl⟩

def stB (b s g : Nat) : List UInt8 × Nat × Nat :=
  if s = 0 then ([], b * 64 + g, 6) else if s = 2 then ([byt (b * 64 + g)], 0, 0) else if s = 4 then ([byt ((b * 64 + g) / 4)], (b * 64 + g) % 4, 2) else ([byt ((b * 64 + g) / 16)], (b * 64 + g) % 16, 4)
def okB (b s : Nat) : Prop := (s = 0 ∧ b < 1) ∨ (s = 2 ∧ b < 4) ∨ (s = 4 ∧ b < 16) ∨ (s = 6 ∧ b < 64)
theorem okB_step {b s g : Nat} (h : okB b s) (hg : g < 64) : okB (stB b s g).2.1 (stB b s g).2.2 := by
  unfold okB stB
  rcases h with ⟨rfl, h⟩ | ⟨rfl, h⟩ | ⟨rfl, h⟩ | ⟨rfl, h⟩ <;> simp <;> omega
theorem stB_len (b s g : Nat) : (stB b s g).1.length ≤ 1 := by unfold stB; split <;> (try split) <;> (try split) <;> simp

def decGo : List UInt8 → Nat → List UInt8 → Nat → Nat → List UInt8 × Int
  | [], i, acc, b, s => if 6 ≤ s ∨ b ≠ 0 then ([], (i : Int) - 1) else (acc, -1)
  | c :: r, i, acc, b, s => if valI c < 0 then ([], (i : Int)) else decGo r (i + 1) (acc ++ (stB b s (valI c).toNat).1) (stB b s (valI c).toNat).2.1 (stB b s (valI c).toNat).2.2
def dec (l : List UInt8) : List UInt8 × Int := decGo l 0 [] 0 0

theorem takeB {W : World} {R tb base g b s : Nat} {acc : List UInt8} (h : TV W tb base acc) (hm : Mach W R 6 8 (fvB tb) b s) (ht : tb < R) (hb : okB b s) (hg : g < 64) (hl : acc.length ≤ 140737488354000) :
    Calls Try.prog 44 #[.int .i64 g, .pointer (some ⟨R + 3, 0, none⟩), .pointer (some ⟨R, 0, none⟩), .pointer (some ⟨R + 4, 0, none⟩), .pointer (some ⟨R + 1, 0, none⟩), .pointer (some ⟨R + 2, 0, none⟩)] W
      (TakePost W R tb base 6 8 (fvB tb) (acc ++ (stB b s g).1) (stB b s g).2.1 (stB b s g).2.2) := by
  rcases hb with ⟨rfl, hb⟩ | ⟨rfl, hb⟩ | ⟨rfl, hb⟩ | ⟨rfl, hb⟩
  · have := takeB0 h hm ht hb hg hl
    rw [← List.append_nil acc] at this
    exact this
  · exact takeB2 h hm ht hb hg hl
  · exact takeB4 h hm ht hb hg hl
  · exact takeB6 h hm ht hb hg hl

/-- What Decode carries from round to round. -/
def DecInv (base tb R : Nat) (w : World) (acc : List UInt8) (b s : Nat) (W : World) : Prop :=
  TV W tb base acc ∧ Mach W R 6 8 (fvB tb) b s ∧ okB b s ∧ Below base w W ∧ base ≤ W.heap.size
def DecPost (w : World) (r : List UInt8 × Int) (e : Ending) (w' : World) : Prop :=
  ∃ v, e = .returned (.tuple #[v, .int .i64 r.2]) ∧ Rd w'.heap.size w' v r.1 ∧ Below w.heap.size w w'

set_option maxRecDepth 100000 in
set_option maxHeartbeats 1000000 in
theorem decode_any (s : ByteArray) (hs : s.size ≤ 30000000000000) (w : World) :
    Calls Try.prog 26 #[.string s] w (DecPost w (dec s.data.toList)) := by
  have hsl : s.data.toList.length = s.size := by rw [Array.length_toList]; rfl
  have HSL := Lib.hid hsl
  clear hsl
  go_enter Try.func26, Try.ntmps26
  go_wp2_with (at_make; refine make_bytes rfl _ _ rfl (base := w.heap.size) (s.size * 6 / 8) rfl rfl rfl (by omega) (Nat.le_refl _) ?_)
  intro v0 W1 hown1 hg1
  have hb1 : Below w.heap.size w W1 := (Below.refl _ _).grown hg1 (Nat.le_refl _) (by simp)
  obtain ⟨o0, c0, rfl, _, _⟩ := (Rd.of_own hown1).form
  clear hg1
  go_wp2_with fail
  refine (regroup_any _ 6 8 41 _).mono ?_
  rintro e W2 ⟨rfl, hm2, hb2⟩
  have ht1 : TV (W1.alloc (.cells #[.slice o0 0 c0] 23)) W1.heap.size w.heap.size [] := TV.new (by simpa using hown1) hb1.size
  have ht2 := ht1.alloc hb2
  have hR : (W1.alloc (.cells #[.slice o0 0 c0] 23)).heap.size = W1.heap.size + 1 := by simp
  rw [hR] at hm2 hb2 ⊢
  have hB2 : Below w.heap.size w W2 := (hb1.alloc hb1.size _).trans (hb2.mono (by have := hb1.size; omega))
  obtain ⟨tb, htb⟩ : ∃ tb, tb = W1.heap.size := ⟨_, rfl⟩
  have htbs : w.heap.size ≤ tb := by rw [htb]; exact hb1.size
  rw [← htb] at ht2 hm2 ⊢
  obtain ⟨R, hRR⟩ : ∃ R, R = tb + 1 := ⟨_, rfl⟩
  have htR : tb < R := by omega
  rw [← hRR] at hm2 ⊢
  have hI : DecInv w.heap.size tb R w [] 0 0 W2 := ⟨ht2, hm2, .inl ⟨rfl, by decide⟩, hB2, hB2.size⟩
  have HI := Lib.hid hI
  clear hI ht1 ht2 hm2 hB2 hb2 hb1 hown1 hR htb hRR
  go_wp2_with fail
  go_loopw [24] (fun iv wr => ∃ (k : Nat) (acc : List UInt8) (bb ss : Nat), k ≤ s.size ∧ iv = .int .i64 k ∧ Hid (DecInv w.heap.size tb R w acc bb ss wr ∧ acc.length ≤ k ∧ dec s.data.toList = decGo (s.data.toList.drop k) k acc bb ss)) (fun iv _ => s.size - (intOf iv).toNat)
  case atStart => exact ⟨0, [], 0, 0, Nat.zero_le _, rfl, HI.out, by simp, rfl⟩
  case round =>
    obtain ⟨k, acc, bb, ss, hk, rfl, HK⟩ := hrel
    clear HI
    by_cases hlt : k < s.size
    · obtain ⟨⟨t1, m1, o1, b1, z1⟩, hal, hd⟩ := HK.out
      have hdk : s.data.toList.drop k = s[k] :: s.data.toList.drop (k + 1) := by
        rw [List.drop_eq_getElem_cons (by rw [HSL.out]; exact hlt)]; rfl
      rw [hdk] at hd
      have hbd := valI_bd s[k]
      have hi1 : (k : Int) < s.size := by omega
      have hi0 : (0 : Int) ≤ k := by omega
      by_cases hneg : valI s[k] < 0
      · have hv : valI s[k] = -1 := by omega
        rw [decGo, if_pos hneg] at hd
        have HD := Lib.hid hd
        have HV := Lib.hid hv
        have HB := Lib.hid b1
        clear hd hv hbd hneg hdk t1 m1 o1 b1 z1 HK
        go_wp2_with fail
        refine (value_no _ HV.out _).mono ?_
        rintro e w3 ⟨rfl, rfl⟩
        go_wp2_with fail
        go_ret2
        exact ⟨_, by rw [HD.out]; rfl, by rw [HD.out]; exact .inl ⟨none, rfl, rfl⟩, HB.out⟩
      · obtain ⟨v, hv⟩ : ∃ v : Nat, valI s[k] = v := Int.eq_ofNat_of_zero_le (show 0 ≤ valI s[k] by omega)
        have hv64 : v < 64 := by omega
        rw [decGo, if_neg hneg, hv, Int.toNat_natCast] at hd
        have HD := Lib.hid hd
        have HV := Lib.hid hv
        have HT := Lib.hid (takeB t1 m1 htR o1 hv64 (by omega))
        have HO := Lib.hid (okB_step (g := v) o1 hv64)
        have HB := Lib.hid b1
        have HL := Lib.hid (stB_len bb ss v)
        have hv0 : (0 : Int) ≤ v := by omega
        clear hd hv hbd hneg hdk t1 m1 o1 b1 HK
        go_wp2_with fail
        refine (value_yes _ v HV.out _).mono ?_
        rintro e w3 ⟨rfl, rfl⟩
        go_wp2_with (go_at_call 44; refine HT.out.mono ?_; rintro e w4 ⟨rfl, t4, m4, k4⟩)
        have hE : DecInv w.heap.size tb R w (acc ++ (stB bb ss v).1) (stB bb ss v).2.1 (stB bb ss v).2.2 w4 := ⟨t4, m4, HO.out, HB.out.trans (k4.below htbs htR z1), Nat.le_trans z1 k4.size⟩
        have HE := Lib.hid hE
        clear hE t4 m4 k4
        go_roundw
        case rel => exact ⟨k + 1, _, _, _, by omega, by go_num, HE.out, by rw [List.length_append]; have := HL.out; omega, HD.out⟩
        case measure => simp [intOf]; omega
    · obtain rfl : k = s.size := by omega
      obtain ⟨⟨t1, m1, o1, b1, z1⟩, hal, hd⟩ := HK.out
      have hdk : s.data.toList.drop s.size = [] := List.eq_nil_of_length_eq_zero (by rw [List.length_drop, HSL.out]; omega)
      rw [hdk, decGo] at hd
      have hsz : (s.size : Int) ≤ 30000000000000 := by omega
      have hss : ss ≤ 6 := by rcases o1 with h | h | h | h <;> omega
      have hss' : (ss : Int) ≤ 6 := by omega
      by_cases hbad : 6 ≤ ss ∨ bb ≠ 0
      · rw [if_pos hbad] at hd
        have HD := Lib.hid hd
        have HB := Lib.hid b1
        clear hd hdk HK t1 o1
        by_cases h6 : 6 ≤ ss
        · have h6' : (6 : Int) ≤ ss := by omega
          go_wp2_with fail
          refine (rest_pair m1).mono ?_
          rintro e w3 ⟨rfl, n3, rfl⟩
          go_wp2_with fail
          go_ret2
          exact ⟨_, by rw [HD.out]; rfl, by rw [HD.out]; exact .inl ⟨none, rfl, rfl⟩, below_drewN HB.out n3⟩
        · have h6' : ¬ (6 : Int) ≤ ss := by omega
          have h7 : ((bb : Int) != 0) = true := by rw [bne_iff_ne]; omega
          go_wp2_with fail
          refine (rest_pair m1).mono ?_
          rintro e w3 ⟨rfl, n3, rfl⟩
          go_wp2_with fail
          go_ret2
          exact ⟨_, by rw [HD.out]; rfl, by rw [HD.out]; exact .inl ⟨none, rfl, rfl⟩, below_drewN HB.out n3⟩
      · rw [if_neg hbad] at hd
        have HD := Lib.hid hd
        have HB := Lib.hid b1
        have h6' : ¬ (6 : Int) ≤ ss := by omega
        have h7 : ((bb : Int) != 0) = false := by rw [bne_eq_false_iff_eq]; omega
        obtain ⟨hb3, v3, hv3, hown3⟩ := t1
        have hc3 := heap_cell hv3
        have hr3 := Rd.of_own hown3
        obtain ⟨o3, c3, rfl, _, _⟩ := hr3.form
        clear hd hdk HK o1 hv3 hown3 hbad
        go_wp2_with fail
        refine (rest_pair m1).mono ?_
        rintro e w3 ⟨rfl, n3, rfl⟩
        go_wp2_with fail
        go_ret2
        exact ⟨_, by rw [HD.out]; rfl, by rw [HD.out]; exact hr3, below_drewN HB.out n3⟩
end Go.Proofs.Ytpkndgjkopfpkaa
