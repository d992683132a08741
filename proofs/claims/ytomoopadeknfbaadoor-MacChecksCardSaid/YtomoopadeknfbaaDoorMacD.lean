/-
  mac.Equal.
-/
import Derived.Test.YtomoopadeknfbaaDoorMacB
namespace Go.Proofs.YtomoopadeknfbaaDoor
open Go.ChangeShapes Go.WideShapes Go.ChangeAt Go.RowKit
set_option linter.unusedVariables false

theorem u8o (x m : UInt8) : bits .or .u8 (x.toNat : Int) (m.toNat : Int) = ((x ||| m).toNat : Int) := by
  rw [u8_or_nat _ _ x.toNat_lt m.toNat_lt, UInt8.toNat_or]
theorem or_zero (d x y : UInt8) : d ||| (x ^^^ y) = 0 ↔ d = 0 ∧ x = y := by
  rw [← UInt8.toBitVec_inj, ← UInt8.toBitVec_inj, ← UInt8.toBitVec_inj, UInt8.toBitVec_or, UInt8.toBitVec_xor]
  simp
theorem eqB_getD (k l : List UInt8) (h : k.length = l.length) : (k == l) = true ↔ ∀ j, j < k.length → k.getD j 0 = l.getD j 0 := by
  rw [beq_iff_eq]
  refine ⟨fun e j _ => by rw [e], fun e => List.ext_getElem h fun j h1 h2 => ?_⟩
  have := e j h1
  simpa [List.getD_eq_getElem?_getD, List.getElem?_eq_getElem h1, List.getElem?_eq_getElem h2] using this
set_option maxRecDepth 100000 in
set_option maxHeartbeats 1000000 in
theorem mequal_any {B C : Nat} {w : World} {v u : Value} {k l : List UInt8} (hv : Rd B w v k) (hr : Rd C w u l) (hB : B ≤ w.heap.size) (hC : C ≤ w.heap.size) :
    Calls Tryd.prog 17 #[v, u] w fun e w' => e = .returned (.bool (k == l)) ∧ Below w.heap.size w w' := by
  have HV := Lib.hid (hv.mono hB)
  have HR := Lib.hid (hr.mono hC)
  obtain ⟨q, c, rfl, hm, _⟩ := hv.form
  obtain ⟨q2, c2, rfl, _, _⟩ := hr.form
  unfold maxLen at hm
  clear hv hr
  obtain ⟨n, hn⟩ : ∃ n, n = k.length := ⟨_, rfl⟩
  by_cases hl : k.length = l.length
  · have HL := Lib.hid hl
    have HN := Lib.hid hn
    rw [← hl, ← hn]
    rw [← hl, ← hn] at HR
    rw [← hn] at HV hm
    obtain ⟨E, hE⟩ : ∃ E, E = (k == l) := ⟨_, rfl⟩
    rw [← hE]
    have HE : Hid (E = true ↔ ∀ j, j < n → k.getD j 0 = l.getD j 0) := by show _ ↔ _; rw [hE, hn]; exact eqB_getD k l hl
    clear hl hn hE
    go_enter Tryd.func17, Tryd.ntmps17
    go_wp2_with fail
    go_loopw [5, 6, 14] (fun dv _ iv wr => ∃ (i : Nat) (d : UInt8), i ≤ n ∧ iv = .int .i64 i ∧ dv = .int .u8 d.toNat ∧ Hid ((d = 0 ↔ ∀ j, j < i → k.getD j 0 = l.getD j 0) ∧ Below w.heap.size w wr)) (fun _ _ iv _ => n - (intOf iv).toNat)
    case atStart => exact ⟨0, 0, Nat.zero_le _, rfl, rfl, ⟨fun _ j hj => absurd hj (by omega), fun _ => rfl⟩, Below.refl _ _⟩
    case round =>
      obtain ⟨i, d, hi, rfl, rfl, HM⟩ := hrel
      have hi0 : (0 : Int) ≤ i := by omega
      by_cases hlt : i < n
      · have hlt1 : (i : Int) < n := by omega
        obtain ⟨b, off, rfl, hcb⟩ : ∃ b off, q = some ⟨b, off, none⟩ ∧ wr.cell? ⟨b, off + i, none⟩ = some (.int .u8 (k.getD i 0).toNat) := by
          rcases HV.out with ⟨oa, _, h0⟩ | ⟨b, off, cap, hv, _, _, h3, h4⟩
          · have := HN.out; rw [h0] at this; simp at this; omega
          · simp only [Value.slice.injEq] at hv
            refine ⟨b, off, hv.1, ?_⟩
            rw [HM.out.2.cell (p := ⟨b, off + i, none⟩) h3, h4 i (by have := HN.out; omega)]
            rfl
        obtain ⟨b2, off2, rfl, hcb2⟩ : ∃ b off, q2 = some ⟨b, off, none⟩ ∧ wr.cell? ⟨b, off + i, none⟩ = some (.int .u8 (l.getD i 0).toNat) := by
          rcases HR.out with ⟨oa, he, h0⟩ | ⟨b, off, cap, hv, _, _, h3, h4⟩
          · simp only [Value.slice.injEq] at he; omega
          · simp only [Value.slice.injEq] at hv
            refine ⟨b, off, hv.1, ?_⟩
            rw [HM.out.2.cell (p := ⟨b, off + i, none⟩) h3, h4 i (by have h8 := HN.out; have h9 := HL.out; rw [← h9, ← h8]; exact hlt)]
            rfl
        have hsx : Hid ((d ||| (k.getD i 0 ^^^ l.getD i 0) = 0) ↔ ∀ j, j < i + 1 → k.getD j 0 = l.getD j 0) := by
          show _ ↔ _
          rw [or_zero, HM.out.1]
          exact ⟨fun ⟨h1, h2⟩ j hj => by rcases Nat.lt_succ_iff_lt_or_eq.1 hj with h | h; exact h1 j h; rw [h]; exact h2, fun h => ⟨fun j hj => h j (by omega), h i (by omega)⟩⟩
        obtain ⟨x, hx⟩ : ∃ x, x = k.getD i 0 := ⟨_, rfl⟩
        obtain ⟨y, hy⟩ : ∃ y, y = l.getD i 0 := ⟨_, rfl⟩
        rw [← hx] at hcb hsx
        rw [← hy] at hcb2 hsx
        have e1 := u8x x y
        have e2 := u8o d (x ^^^ y)
        obtain ⟨z, hz⟩ : ∃ z, z = x ^^^ y := ⟨_, rfl⟩
        rw [← hz] at e1 e2 hsx
        obtain ⟨d2, hd2⟩ : ∃ d2, d2 = d ||| z := ⟨_, rfl⟩
        rw [← hd2] at e2 hsx
        have HB := Lib.hid (Joins.below_draws w.heap.size wr 1)
        have HB2 := Lib.hid (HM.out.2.trans HB.out)
        clear HM hx hy hz hd2 HB
        go_wp2_with fail
        go_region
        all_goals go_wp2_with fail
        all_goals go_roundw
        case rel => exact ⟨i + 1, d2, by omega, by go_num, rfl, hsx.out, HB2.out⟩
        case measure => simp [intOf]; omega
      · obtain rfl : i = n := by omega
        go_wp2_with fail
        go_ret
        have hz : ((d.toNat : Int) == 0) = E := by
          rw [Bool.eq_iff_iff, HE.out, ← HM.out.1, beq_iff_eq, ← UInt8.toNat_inj]
          simp
        exact ⟨by rw [hz]; rfl, HM.out.2⟩
  · have h1 : ¬ (n : Int) = l.length := by omega
    have hne : (k == l) = false := by
      rw [beq_eq_false_iff_ne]; intro e; exact hl (by rw [e])
    rw [hne, ← hn]
    go_enter Tryd.func17, Tryd.ntmps17
    go_wp2_with fail
    go_ret
    exact ⟨rfl, Below.refl _ _⟩
end Go.Proofs.YtomoopadeknfbaaDoor
