/-
  sha.Padding and the reference's Padding.
-/
import Derived.Test.YtlngicddojoogaaGreatDoorSmall
import Derived.Test.YtlngicddojoogaaGreatDoorShaMath
import Derived.Test.YtlngicddojoogaaGreatDoorSame
namespace Go.Proofs.YtlngicddojoogaaGreatDoor
open Go.ChangeShapes Go.WideShapes Go.ChangeAt Go.RowKit
set_option linter.unusedVariables false

theorem be64_get (x n k : Nat) (h : k < n) : (be64 x n).take (k + 1) = (be64 x n).take k ++ [UInt8.ofNat (x / 2 ^ (8 * (n - 1 - k)))] := by
  induction n generalizing k with
  | zero => omega
  | succ n ih =>
    cases k with
    | zero => simp [be64]
    | succ k =>
      rw [be64, List.take_succ_cons, List.take_succ_cons, ih k (by omega), List.cons_append]
      rw [show n + 1 - 1 - (k + 1) = n - 1 - k by omega]
theorem own_re {w : World} {base n n' : Nat} {v : Value} {l l' : List UInt8} (h : w.ownsRow base 5 1 v n (bvs l)) (hl : l = l') (hn : n' = l'.length) : w.ownsRow base 5 1 v n' (bvs l') := by
  subst hl hn; exact own_nl h
theorem own_form0 {w : World} {base n : Nat} {v : Value} {l : List UInt8} (h : w.ownsRow base 5 1 v n (bvs l)) : ∃ q c, v = .slice q l.length c := by
  obtain ⟨q, c, hv, _⟩ := (Rd.of_own h).form
  exact ⟨q, c, hv⟩

def slen1 : Value → Nat
  | .slice _ n _ => n
  | _ => 0
set_option maxRecDepth 100000 in
set_option maxHeartbeats 1000000 in
theorem pad_any (n : Nat) (hn : n ≤ 1000000000000000) (w : World) : Calls Tryz.prog 48 #[.int .i64 n] w (Owned w (padding n)) := by
  have h0 : (0 : Int) ≤ n := by omega
  have h1 : (n : Int) ≤ 1000000000000000 := by omega
  obtain ⟨q, hq⟩ : ∃ q, q = zeros n := ⟨_, rfl⟩
  have hq2 : (64 - ((n : Int) + 1 + 8) % 64) % 64 = q := by rw [hq]; unfold zeros; omega
  have hq3 : (64 - ((n : Int) + 9) % 64) % 64 = q := by rw [hq]; unfold zeros; omega
  have hq64 : q < 64 := by rw [hq]; unfold zeros; omega
  have HQ := Lib.hid hq
  have q0 : (0 : Int) ≤ q := by omega
  have q1 : (q : Int) < 64 := by omega
  clear hq
  go_enter Tryz.func48, Tryz.ntmps48
  go_wp2_with (at_make; refine make_rep rfl _ _ rfl (base := w.heap.size) (1 + q) (1 + q + 8) rfl rfl ?c1 ?c2 (by omega) (by omega) (Nat.le_refl _) ?_)
  case c1 => omega
  case c2 => omega
  intro w1 o1 g1
  have hb1 : Below w.heap.size w w1 := (Below.refl _ _).grown g1 (Nat.le_refl _) (by simp)
  have hf := World.ownsRow.frozenAt o1 0
  have hc := World.ownsRow.cellAt o1 0 (by omega)
  rw [bvs_getElem _ 0 (by simp; omega)] at hc
  obtain ⟨y, hy⟩ : ∃ y : UInt8, y = (List.replicate (1 + q) (0 : UInt8)).getD 0 0 := ⟨_, rfl⟩
  rw [← hy] at hc
  unfold bv at hc
  have hst := (World.ownsRow.stored o1 0 (bv 128)).1
  have hs0 : (bvs (List.replicate (1 + q) 0)).set 0 (bv 128) = bvs (128 :: List.replicate q 0) := by
    rw [Nat.add_comm, List.replicate_succ]; rfl
  rw [hs0] at hst
  have HO := Lib.hid (And.intro hst (hb1.setCell (p := ⟨w.heap.size, 0, none⟩) (Nat.le_refl _) (bv 128)))
  clear o1 g1 hb1 hst hs0 hy hq2 hq3
  go_wp2_with fail
  have i8 : (8 * (n : Int)) ≤ 8000000000000000 := by omega
  go_loopw [5, 6] (fun v sv wr => ∃ (k : Nat), k ≤ 8 ∧ sv = .int .i64 (56 - 8 * (k : Int)) ∧ Hid (wr.ownsRow w.heap.size 5 1 v (1 + q + k) (bvs (128 :: (List.replicate q 0 ++ (be64 (8 * n) 8).take k))) ∧ Below w.heap.size w wr)) (fun _ sv _ => (intOf sv + 8).toNat)
  case atStart => exact ⟨0, by omega, rfl, by show _ ∧ _; simpa [bv] using HO.out⟩
  case round =>
    obtain ⟨k, hk, rfl, HM⟩ := hrel
    clear hc hf HO
    have hk0 : (0 : Int) ≤ k := by omega
    by_cases hlt : k < 8
    · have hlt1 : (0 : Int) ≤ 56 - 8 * (k : Int) := by omega
      have hlt2 : 8 * (k : Int) ≤ 56 := by omega
      have HO := Lib.hid HM.out.1
      have HBK := Lib.hid HM.out.2
      have hsz := HM.out.2.size
      have hb8 : Value.int .u8 (8 * (n : Int) / 2 ^ (56 - 8 * k) % 256) = bv (UInt8.ofNat (8 * n / 2 ^ (8 * (8 - 1 - k)))) := by
        rw [bvo, show 8 * (8 - 1 - k) = 56 - 8 * k by omega]; simp
      have HB8 := Lib.hid hb8
      have HTK := Lib.hid (be64_get (8 * n) 8 k hlt)
      have HLB := Lib.hid (be64_length (8 * n) 8)
      clear hb8
      go_wp2_with (at_builtin; refine app_one rfl (.tmp 26) (.tmp 32) rfl rfl (HO.out.alloc _) rfl (scell_lit _ _ _) HB8.out ?c1 ?c2 ?_)
      case c1 => have := HLB.out; simp; omega
      case c2 => simp; omega
      intro v1 w2 HO1 hg1
      have hb2 := below_append HBK.out hsz (Nat.le_refl _) HO.out hg1
      have HF := Lib.hid (And.intro HO1.out hb2)
      clear hg1 HO hb2 HO1
      go_wp2_with fail
      go_roundw
      case rel =>
        refine ⟨k + 1, by omega, by rw [show (56 : Int) - 8 * ((k + 1 : Nat) : Int) = 56 - 8 * (k : Int) - 8 by omega], ?_⟩
        refine ⟨own_re HF.out.1 (by rw [HTK.out]) ?_, HF.out.2⟩
        rw [HTK.out]
        have := HLB.out
        simp; omega
      case measure => simp [intOf]; omega
    · rw [show (56 : Int) - 8 * (k : Int) = -8 by omega]
      have HF : Hid (wr.ownsRow w.heap.size 5 1 u5 (padding n).length (bvs (padding n)) ∧ Below w.heap.size w wr) := by
        refine ⟨own_re HM.out.1 ?_ rfl, HM.out.2⟩
        rw [show k = 8 by omega, HQ.out]
        unfold padding
        rw [List.take_of_length_le (by rw [be64_length]; exact Nat.le_refl _)]
      clear HM
      go_wp2_with fail
      go_ret
      exact ⟨_, rfl, HF.out.1, HF.out.2⟩

set_option maxRecDepth 100000 in
set_option maxHeartbeats 1000000 in
theorem rpad_any (n : Nat) (hn : n ≤ 1000000000000000) (w : World) : Calls Tryz.prog 50 #[.int .i64 n] w (Owned w (padding n)) := by
  have h0 : (0 : Int) ≤ n := by omega
  have h1 : (n : Int) ≤ 1000000000000000 := by omega
  obtain ⟨q, hq⟩ : ∃ q, q = zeros n := ⟨_, rfl⟩
  have hq64 : q < 64 := by rw [hq]; unfold zeros; omega
  have HQ := Lib.hid hq
  have HZ : Hid ((n + 9 + q) % 64 = 0) := by show _ = _; rw [hq]; unfold zeros; omega
  have HZ1 : Hid (∀ k, k < q → ¬ (n + 9 + k) % 64 = 0) := by intro k hk; rw [hq] at hk; unfold zeros at hk; omega
  clear hq
  go_enter Tryz.func50, Tryz.ntmps50
  go_wp2_with fail
  go_loopw [3] (fun v wr => ∃ k : Nat, k ≤ q ∧ slen1 v = 1 + k ∧ Hid (wr.ownsRow w.heap.size 5 1 v (1 + k) (bvs (128 :: List.replicate k 0)) ∧ Below w.heap.size w wr)) (fun v _ => 64 - slen1 v)
  case atStart =>
    refine ⟨0, Nat.zero_le _, rfl, ?_, (Below.refl _ _).alloc (Nat.le_refl _) _⟩
    exact World.ownsRow_lit (base := w.heap.size) (e := 5) (size := 1) w #[.int .u8 128] 1 (Nat.le_refl _) (by decide) rfl
  case round =>
    obtain ⟨k, hk, hsl, HM⟩ := hrel
    obtain ⟨qv, c, hv⟩ := own_form0 HM.out.1
    obtain ⟨L, hL⟩ : ∃ L, L = 1 + k := ⟨_, rfl⟩
    have hl1 : (128 :: List.replicate k (0 : UInt8)).length = L := by rw [hL]; simp; omega
    rw [hl1] at hv
    subst hv
    have HL := Lib.hid hL
    have HO := Lib.hid (show wr.ownsRow w.heap.size 5 1 (.slice qv L c) L (bvs (128 :: List.replicate k 0)) by rw [hL] at HM ⊢; exact HM.out.1)
    have HBK := Lib.hid HM.out.2
    have hsz := HM.out.2.size
    have l0 : (0 : Int) ≤ L := by omega
    have l1 : (L : Int) ≤ 65 := by omega
    by_cases hlt : k < q
    · have ht : (((n : Int) + L + 8) % 64 != 0) = true := by rw [bne_iff_ne]; have := HZ1.out k hlt; omega
      have hb8 : Value.int .u8 0 = bv 0 := rfl
      have HB8 := Lib.hid hb8
      clear HM hL hl1 hsl hb8
      go_wp2_with (at_builtin; refine app_one rfl (.tmp 14) (.tmp 15) rfl rfl (HO.out.alloc _) rfl (scell_lit _ _ _) HB8.out ?c1 ?c2 ?_)
      case c1 => simp; omega
      case c2 => simp; omega
      intro v1 w2 HO1 hg1
      have hb2 := below_append HBK.out hsz (Nat.le_refl _) HO.out hg1
      have HF : Hid (w2.ownsRow w.heap.size 5 1 v1 (1 + (k + 1)) (bvs (128 :: List.replicate (k + 1) 0)) ∧ Below w.heap.size w w2) := by
        refine ⟨own_re HO1.out ?_ (by simp; try omega), hb2⟩
        rw [List.replicate_succ']
        try rfl
      obtain ⟨q2, c2, hv2⟩ := own_form0 HF.out.1
      clear hg1 HO hb2 HO1
      subst hv2
      go_wp2_with fail
      go_roundw
      case rel => exact ⟨k + 1, by omega, by simp [slen1]; omega, HF.out⟩
      case measure => have := HL.out; simp [slen1]; omega
    · have ht : (((n : Int) + L + 8) % 64 != 0) = false := by rw [bne_eq_false_iff_eq]; have := HZ.out; omega
      have HF : Hid (wr.ownsRow w.heap.size 5 1 (.slice qv L c) L (bvs (128 :: List.replicate q 0)) ∧ Below w.heap.size w wr) := by rw [show q = k by omega]; exact ⟨HO.out, HBK.out⟩
      have hLq : L = 1 + q := by omega
      have HLQ := Lib.hid hLq
      clear HM hL hl1 hsl HO HBK hk hlt HL hLq
      go_wp2_with fail
      go_loopw [3, 5] (fun v sv wr => ∃ (k : Nat), k ≤ 8 ∧ sv = .int .i64 (7 - (k : Int)) ∧ Hid (wr.ownsRow w.heap.size 5 1 v (1 + q + k) (bvs (128 :: (List.replicate q 0 ++ (be64 (8 * n) 8).take k))) ∧ Below w.heap.size w wr)) (fun _ sv _ => (intOf sv + 1).toNat)
      case atStart => exact ⟨0, by omega, rfl, own_re HF.out.1 (by simp) (by simp; try omega), HF.out.2⟩
      case round =>
        obtain ⟨k, hk, rfl, HM⟩ := hrel
        clear HF
        have hk0 : (0 : Int) ≤ k := by omega
        by_cases hlt : k < 8
        · have hlt1 : (0 : Int) ≤ 7 - (k : Int) := by omega
          have hlt2 : (k : Int) ≤ 7 := by omega
          have HO := Lib.hid HM.out.1
          have HBK := Lib.hid HM.out.2
          have hsz := HM.out.2.size
          have HTK := Lib.hid (be64_get (8 * n) 8 k hlt)
          have HLB := Lib.hid (be64_length (8 * n) 8)
          clear HM
          have hb8 : Value.int .u8 ((n : Int) * 8 / 2 ^ (8 * (7 - k)) % 256) = bv (UInt8.ofNat (8 * n / 2 ^ (8 * (8 - 1 - k)))) := by
            rw [bvo, Int.mul_comm]; simp
          have HB8 := Lib.hid hb8
          clear hb8
          go_wp2_with (at_builtin; refine app_one rfl (.tmp 24) (.tmp 31) rfl rfl (HO.out.alloc _) rfl (scell_lit _ _ _) HB8.out ?c1 ?c2 ?_)
          case c1 => have := HLB.out; simp; omega
          case c2 => simp; omega
          intro v1 w2 HO1 hg1
          have hb2 := below_append HBK.out hsz (Nat.le_refl _) HO.out hg1
          have HF := Lib.hid (And.intro HO1.out hb2)
          clear hg1 HO hb2 HO1
          go_wp2_with fail
          go_roundw
          case rel =>
            refine ⟨k + 1, by omega, by rw [show (7 : Int) - ((k + 1 : Nat) : Int) = 7 - (k : Int) - 1 by omega], ?_⟩
            refine ⟨own_re HF.out.1 (by rw [HTK.out]) ?_, HF.out.2⟩
            rw [HTK.out]
            have := HLB.out
            simp; omega
          case measure => simp [intOf]; omega
        · rw [show (7 : Int) - (k : Int) = -1 by omega]
          have HF : Hid (wr.ownsRow w.heap.size 5 1 u3 (padding n).length (bvs (padding n)) ∧ Below w.heap.size w wr) := by
            refine ⟨own_re HM.out.1 ?_ rfl, HM.out.2⟩
            rw [show k = 8 by omega, HQ.out]
            unfold padding
            rw [List.take_of_length_le (by rw [be64_length]; exact Nat.le_refl _)]
          clear HM
          go_wp2_with fail
          go_ret
          exact ⟨_, rfl, HF.out.1, HF.out.2⟩
end Go.Proofs.YtlngicddojoogaaGreatDoor
