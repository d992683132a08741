/-
  vestryref01.Read at any offset and the method Cursor.Text, together.
-/
import Derived.Test.YtdnmgemjhpkekaaGreatDoorTuC
import Derived.Test.YtdnmgemjhpkekaaGreatDoorOwnF
namespace Go.Proofs.YtdnmgemjhpkekaaGreatDoor
open Go.ChangeShapes Go.WideShapes Go.ChangeAt Go.RowKit
set_option linter.unusedVariables false

theorem eqNC (d : Int) (w : World) : (binOp BinOp.neq 28 (.iface 73 (.int .i64 d)) .nilIface).run Tryz.prog w = .ok (.bool true) w := by kernel_rfl
set_option maxRecDepth 100000 in
set_option maxHeartbeats 800000 in
theorem rread_at {B : Nat} {w : World} {vb : Value} {l : List UInt8} (hr : Rd B w vb l) (hlen : l.length ≤ 1000000) (A : Nat) (hA : A ≤ l.length) (most : Nat) (hm : most ≤ 1000) :
    Calls Tryz.prog 54 #[vb, .int .i64 A, .int .i64 most] w fun e w' => e = .returned (.tuple #[.string (str (partP most (l.drop A)).1), .int .i64 ((A + (partP most (l.drop A)).2.1 : Nat) : Int), .int .i64 ((partP most (l.drop A)).2.2 : Nat)]) ∧ w = w' := by
  obtain ⟨oa, cap, rfl, _, hcell⟩ := hr.form
  have HC := rnumber_at hr hlen A hA
  obtain ⟨r, hrr⟩ : ∃ r, r = l.drop A := ⟨_, rfl⟩
  have hrl : r.length = l.length - A := by rw [hrr, List.length_drop]
  rw [← hrr] at HC ⊢
  by_cases hc0 : (num r).2.2 = 0
  · obtain ⟨hk0, hk1, hk2⟩ := num_at hc0
    rw [hc0] at HC
    obtain ⟨n, hn⟩ : ∃ n, n = (num r).1 := ⟨_, rfl⟩
    obtain ⟨k, hk⟩ : ∃ k, k = (num r).2.1 := ⟨_, rfl⟩
    obtain ⟨N, hN⟩ : ∃ N, N = A + k := ⟨_, rfl⟩
    rw [← hk] at hk0 hk1 HC
    rw [← hn, ← hN] at HC
    by_cases h1 : most < n
    · rw [partP_lim hc0 (by rw [← hn]; exact h1)]
      exact rread_lim hm h1 (Lib.hid HC)
    · by_cases h2 : r.length < k + n
      · rw [partP_short hc0 (by rw [← hn]; exact h1) (by rw [← hn, ← hk]; exact h2)]
        exact rread_short hm (by omega) (by omega) hlen (by omega) (Lib.hid HC)
      · have HP := partP_yes (most := most) hc0 (by rw [← hn]; exact h1) (by rw [← hn, ← hk]; exact h2)
        rw [← hn, ← hk] at HP
        rw [HP]
        obtain ⟨b, off, rfl, g1, g2, g3, hc⟩ := hcell (by omega)
        clear hcell
        have e1 : (r.drop k).take n = (l.drop N).take n := by rw [hrr, List.drop_drop, hN]
        have hcv := conv_bytes (rd_mid (N := N) (n := n) (cap' := cap - N) g1 g2 g3 hc (by omega) (by omega))
        rw [← e1] at hcv
        show Calls _ _ _ _ fun e w' => e = .returned (.tuple #[.string (str ((r.drop k).take n)), .int .i64 ((A + (k + n) : Nat) : Int), .int .i64 ((0 : Nat) : Int)]) ∧ w = w'
        rw [show A + (k + n) = N + n by omega]
        by_cases h0 : n = 0
        · have hcv0 : (convert 22 9 (.slice (some ⟨b, off, none⟩) 0 0)).run Tryz.prog w = .ok (.string (str ((r.drop k).take n))) w := by
            rw [h0, List.take_zero]
            exact conv_bytes (B := B) (.inl ⟨_, rfl, rfl⟩)
          by_cases hck : N = cap
          · exact rread_end hm (by omega) h0 hck (by omega) hlen g1 g2 hcv0 (Lib.hid HC)
          · rw [show Value.slice (some ⟨b, off + N, none⟩) n (cap - N) = .slice (some ⟨b, off + N, none⟩) 0 (cap - N) by rw [h0]] at hcv
            exact rread_nil hm (by omega) h0 (by omega) (by omega) hlen g1 g2 hcv (Lib.hid HC)
        · exact rread_yes hm (by omega) (by omega) (by omega) hlen g1 g2 hcv (Lib.hid HC)
  · rw [partP_num (most := most) hc0]
    have hb' : (num r).2.1 = 0 := (numGo_bad r 0 0 hc0).2
    have hb2 : (num r).1 = 0 := (numGo_bad r 0 0 hc0).1
    rw [hb', Nat.add_zero, hb2] at HC
    exact rread_num hc0 (Lib.hid HC)
set_option maxRecDepth 100000 in
set_option maxHeartbeats 1000000 in
theorem ctext_num {w : World} {c at' : Nat} {l : List UInt8} (h : Cur w c l at') (most : Nat) (hm : most ≤ 1000) {k : Nat} (hk : k ≠ 0) (hn : num (l.drop at') = (0, 0, k)) :
    Calls Tryz.prog 71 #[.pointer (some ⟨c, 0, none⟩), .int .i64 most] w fun e w' => e = .returned (.tuple #[.string ByteArray.empty, .iface 73 (.int .i64 k)]) ∧ ∃ n, w' = w.drewN n := by
  have HN := Lib.hid hn
  have HR := Lib.hid (rest_any h)
  have hw0 : ¬ (most : Int) < 0 := by omega
  have hw1 : IntKind.u64.wrap (most : Int) = most := by rw [IntKind.wrap_u64]; omega
  have HK := Lib.hid hk
  have hq := eqNC
  clear hn h hk
  go_enter Tryz.func71, Tryz.ntmps71
  go_wp2_with fail
  refine HR.out.mono ?_
  rintro e w1 ⟨v, rfl, hr0, nq, rfl⟩
  have hr1 : Rd c (w.drewN nq) v (l.drop at') := hr0
  clear hr0
  have HNU := Lib.hid (number_any hr1)
  rw [HN.out] at HNU
  obtain ⟨ov, cv, hv⟩ := rd_form hr1
  rw [List.length_drop] at hv
  obtain ⟨L, hL⟩ : ∃ L, L = l.length - at' := ⟨_, rfl⟩
  rw [← hL] at hv
  subst hv
  clear hr1 hL
  go_wp2_with fail
  refine HNU.out.mono ?_
  rintro e w2 ⟨rfl, rfl⟩
  simp only [errV, HK.out, if_false]
  go_wp2_with fail
  go_ret2
  exact ⟨rfl, _, rfl⟩
set_option maxRecDepth 100000 in
set_option maxHeartbeats 1000000 in
theorem ctext_lim {w : World} {c at' : Nat} {l : List UInt8} (h : Cur w c l at') (most : Nat) (hm : most ≤ 1000) {n k : Nat} (hlt : most < n) (hn : num (l.drop at') = (n, k, 0)) :
    Calls Tryz.prog 71 #[.pointer (some ⟨c, 0, none⟩), .int .i64 most] w fun e w' => e = .returned (.tuple #[.string ByteArray.empty, .iface 73 (.int .i64 15)]) ∧ ∃ n, w' = w.drewN n := by
  have HN := Lib.hid hn
  have HR := Lib.hid (rest_any h)
  have hw0 : ¬ (most : Int) < 0 := by omega
  have hw1 : IntKind.u64.wrap (most : Int) = most := by rw [IntKind.wrap_u64]; omega
  have h1 : (most : Int) < n := by omega
  clear hn h hlt
  go_enter Tryz.func71, Tryz.ntmps71
  go_wp2_with fail
  refine HR.out.mono ?_
  rintro e w1 ⟨v, rfl, hr0, nq, rfl⟩
  have hr1 : Rd c (w.drewN nq) v (l.drop at') := hr0
  clear hr0
  have HNU := Lib.hid (number_any hr1)
  rw [HN.out] at HNU
  obtain ⟨ov, cv, hv⟩ := rd_form hr1
  rw [List.length_drop] at hv
  obtain ⟨L, hL⟩ : ∃ L, L = l.length - at' := ⟨_, rfl⟩
  rw [← hL] at hv
  subst hv
  clear hr1 hL
  go_wp2_with fail
  refine HNU.out.mono ?_
  rintro e w2 ⟨rfl, rfl⟩
  simp only [errV, if_true]
  go_wp2_with fail
  go_ret2
  exact ⟨rfl, _, rfl⟩
set_option maxRecDepth 100000 in
set_option maxHeartbeats 1000000 in
theorem ctext_short {w : World} {c at' : Nat} {l : List UInt8} (h : Cur w c l at') (most : Nat) (hm : most ≤ 1000) {n k : Nat} (hle : n ≤ most) (hk : k ≤ l.length - at') (hs : l.length - at' - k < n) (hn : num (l.drop at') = (n, k, 0)) :
    Calls Tryz.prog 71 #[.pointer (some ⟨c, 0, none⟩), .int .i64 most] w fun e w' => e = .returned (.tuple #[.string ByteArray.empty, .iface 73 (.int .i64 1)]) ∧ ∃ n, w' = w.drewN n := by
  have HN := Lib.hid hn
  have HR := Lib.hid (rest_any h)
  have hw0 : ¬ (most : Int) < 0 := by omega
  have hw1 : IntKind.u64.wrap (most : Int) = most := by rw [IntKind.wrap_u64]; omega
  have hlen : l.length ≤ 140737488355328 := by obtain ⟨_, _, _, _, h⟩ := h; exact h
  have h1 : ¬ (most : Int) < n := by omega
  clear hn h hle
  go_enter Tryz.func71, Tryz.ntmps71
  go_wp2_with fail
  refine HR.out.mono ?_
  rintro e w1 ⟨v, rfl, hr0, nq, rfl⟩
  have hr1 : Rd c (w.drewN nq) v (l.drop at') := hr0
  clear hr0
  have HNU := Lib.hid (number_any hr1)
  rw [HN.out] at HNU
  obtain ⟨ov, cv, hv⟩ := rd_form hr1
  rw [List.length_drop] at hv
  obtain ⟨L, hL⟩ : ∃ L, L = l.length - at' := ⟨_, rfl⟩
  rw [← hL] at hv
  subst hv
  rw [← hL] at hk hs
  have h2 : (L : Int) - k < n := by omega
  have h4 : IntKind.u64.wrap ((L : Int) - k) = (L : Int) - k := by rw [IntKind.wrap_u64]; omega
  have h5 : L ≤ 140737488355328 := by omega
  clear hr1 hL hlen
  go_wp2_with fail
  refine HNU.out.mono ?_
  rintro e w2 ⟨rfl, rfl⟩
  simp only [errV, if_true]
  go_wp2_with fail
  go_ret2
  exact ⟨rfl, _, rfl⟩
set_option maxRecDepth 100000 in
set_option maxHeartbeats 1000000 in
theorem ctext_yes {w : World} {c at' : Nat} {l : List UInt8} (h : Cur w c l at') (most : Nat) (hm : most ≤ 1000) {n k : Nat} (h0 : 0 < n) (hle : n ≤ most) (hk : 0 < k) (hs : k + n ≤ l.length - at') (hn : num (l.drop at') = (n, k, 0)) :
    Calls Tryz.prog 71 #[.pointer (some ⟨c, 0, none⟩), .int .i64 most] w fun e w' => e = .returned (.tuple #[.string (str (((l.drop at').drop k).take n)), .nilIface]) ∧ Cur w' c l (at' + (k + n)) ∧ w.grownBy w' (some c) := by
  have HN := Lib.hid hn
  have HR := Lib.hid (rest_any h)
  have hw0 : ¬ (most : Int) < 0 := by omega
  have hw1 : IntKind.u64.wrap (most : Int) = most := by rw [IntKind.wrap_u64]; omega
  have hlen : l.length ≤ 140737488355328 := by obtain ⟨_, _, _, _, h⟩ := h; exact h
  have h1 : ¬ (most : Int) < n := by omega
  obtain ⟨_, _, hc1, hf1, _, hle1, _⟩ := h.cells
  have HCU := Lib.hid h
  have HCL := Lib.hid h.lt
  clear hn h
  go_enter Tryz.func71, Tryz.ntmps71
  go_wp2_with fail
  refine HR.out.mono ?_
  rintro e w1 ⟨v, rfl, hr0, nq, rfl⟩
  have hr1 : Rd c (w.drewN nq) v (l.drop at') := hr0
  clear hr0
  have HNU := Lib.hid (number_any hr1)
  rw [HN.out] at HNU
  have hll : (l.drop at').length = l.length - at' := List.length_drop
  rcases hr1 with ⟨oa, rfl, hnil⟩ | ⟨b, off, cap, rfl, g1, g2, g3, hcl⟩
  · exfalso
    rw [hnil] at hll
    simp at hll
    omega
  obtain ⟨L, hL⟩ : ∃ L, L = l.length - at' := ⟨_, rfl⟩
  rw [hll, ← hL] at g1 HNU ⊢
  rw [← hL] at hs
  have hcv : ∀ x : Value, (convert 22 9 (.slice (some ⟨b, off + k, none⟩) n n)).run Tryz.prog ((w.drewN nq).setCell ⟨c, 1, none⟩ x) = .ok (.string (str (((l.drop at').drop k).take n))) ((w.drewN nq).setCell ⟨c, 1, none⟩ x) := by
    intro x
    have hb2 : Below c (w.drewN nq) ((w.drewN nq).setCell ⟨c, 1, none⟩ x) := (Below.refl c (w.drewN nq)).setCell (p := ⟨c, 1, none⟩) (Nat.le_refl c) x
    exact conv_bytes ((rd_mid (N := k) (n := n) (cap' := n) (by omega) g2 g3 hcl (by omega) (by omega)).below hb2 (Nat.le_refl _))
  obtain ⟨S, hS⟩ : ∃ S, S = str (((l.drop at').drop k).take n) := ⟨_, rfl⟩
  rw [← hS] at hcv
  have HS := Lib.hid hS
  unfold maxLen at g2
  have h5 : L ≤ 140737488355328 := by omega
  have h4 : IntKind.u64.wrap ((L : Int) - k) = (L : Int) - k := by rw [IntKind.wrap_u64]; omega
  have h3 : ¬ (L : Int) - k < n := by omega
  have h6 : IntKind.i64.wrap (n : Int) = n := by rw [IntKind.wrap_i64]; omega
  have h7 : (k : Int) + n ≤ cap := by omega
  have HK : Hid (at' + (k + n) ≤ l.length) := by show _ ≤ _; omega
  have h8 : (at' : Int) + (k + n) ≤ 140737488355328 := by omega
  obtain ⟨M, hM⟩ : ∃ M : Nat, M = at' + (k + n) := ⟨_, rfl⟩
  have HM : Hid ((at' : Int) + (k + n) = (M : Int)) := by show _ = _; omega
  have HFIN : Hid (Cur ((w.drewN nq).setCell ⟨c, 1, none⟩ (.int .i64 (M : Int))) c l M ∧ w.grownBy ((w.drewN nq).setCell ⟨c, 1, none⟩ (.int .i64 (M : Int))) (some c)) := ⟨HCU.out.moved (n := nq) M (by rw [hM]; exact HK.out), grown_set _ _ _ _ _⟩
  clear hcl hS hll hL hle1 hlen
  clear hs hk hle
  go_wp2_with fail
  refine HNU.out.mono ?_
  rintro e w2 ⟨rfl, rfl⟩
  simp only [errV, if_true]
  go_wp2_with fail
  go_ret2
  exact ⟨by rw [HS.out]; rfl, by rw [← hM, HM.out]; exact HFIN.out.1, by rw [HM.out]; exact HFIN.out.2⟩
set_option maxRecDepth 100000 in
set_option maxHeartbeats 1000000 in
theorem ctext_nil {w : World} {c at' : Nat} {l : List UInt8} (h : Cur w c l at') (most : Nat) (hm : most ≤ 1000) {n k : Nat} (h0 : n = 0) (hle : n ≤ most) (hk : 0 < k) (hs : k + n ≤ l.length - at') (hn : num (l.drop at') = (n, k, 0)) :
    Calls Tryz.prog 71 #[.pointer (some ⟨c, 0, none⟩), .int .i64 most] w fun e w' => e = .returned (.tuple #[.string (str (((l.drop at').drop k).take n)), .nilIface]) ∧ Cur w' c l (at' + (k + n)) ∧ w.grownBy w' (some c) := by
  have HN := Lib.hid hn
  have HR := Lib.hid (rest_any h)
  have hw0 : ¬ (most : Int) < 0 := by omega
  have hw1 : IntKind.u64.wrap (most : Int) = most := by rw [IntKind.wrap_u64]; omega
  have hlen : l.length ≤ 140737488355328 := by obtain ⟨_, _, _, _, h⟩ := h; exact h
  have h1 : ¬ (most : Int) < n := by omega
  obtain ⟨_, _, hc1, hf1, _, hle1, _⟩ := h.cells
  have HCU := Lib.hid h
  have HCL := Lib.hid h.lt
  subst h0
  have h10 : (0 : Int) ≤ most := by omega
  clear hn h h1
  go_enter Tryz.func71, Tryz.ntmps71
  go_wp2_with fail
  refine HR.out.mono ?_
  rintro e w1 ⟨v, rfl, hr0, nq, rfl⟩
  have hr1 : Rd c (w.drewN nq) v (l.drop at') := hr0
  clear hr0
  have HNU := Lib.hid (number_any hr1)
  rw [HN.out] at HNU
  have hll : (l.drop at').length = l.length - at' := List.length_drop
  rcases hr1 with ⟨oa, rfl, hnil⟩ | ⟨b, off, cap, rfl, g1, g2, g3, hcl⟩
  · exfalso
    rw [hnil] at hll
    simp at hll
    omega
  obtain ⟨L, hL⟩ : ∃ L, L = l.length - at' := ⟨_, rfl⟩
  rw [hll, ← hL] at g1 HNU ⊢
  rw [← hL] at hs
  have hcv : ∀ x : Value, (convert 22 9 (.slice (some ⟨b, off, none⟩) 0 0)).run Tryz.prog ((w.drewN nq).setCell ⟨c, 1, none⟩ x) = .ok (.string (str (((l.drop at').drop k).take 0))) ((w.drewN nq).setCell ⟨c, 1, none⟩ x) := by
    intro x
    have hb2 : Below c (w.drewN nq) ((w.drewN nq).setCell ⟨c, 1, none⟩ x) := (Below.refl c (w.drewN nq)).setCell (p := ⟨c, 1, none⟩) (Nat.le_refl c) x
    rw [List.take_zero]
    exact conv_bytes (B := c) (.inl ⟨_, rfl, rfl⟩)
  obtain ⟨S, hS⟩ : ∃ S, S = str (((l.drop at').drop k).take 0) := ⟨_, rfl⟩
  rw [← hS] at hcv
  have HS := Lib.hid hS
  unfold maxLen at g2
  have h5 : L ≤ 140737488355328 := by omega
  have h4 : IntKind.u64.wrap ((L : Int) - k) = (L : Int) - k := by rw [IntKind.wrap_u64]; omega
  have h3 : (0 : Int) ≤ (L : Int) - k := by omega
  have h7 : (k : Int) ≤ cap := by omega
  have HK : Hid (at' + (k + 0) ≤ l.length) := by show _ ≤ _; omega
  have h8 : (at' : Int) + k ≤ 140737488355328 := by omega
  obtain ⟨M, hM⟩ : ∃ M : Nat, M = at' + (k + 0) := ⟨_, rfl⟩
  have HM : Hid ((at' : Int) + k = (M : Int)) := by show _ = _; omega
  have HFIN : Hid (Cur ((w.drewN nq).setCell ⟨c, 1, none⟩ (.int .i64 (M : Int))) c l M ∧ w.grownBy ((w.drewN nq).setCell ⟨c, 1, none⟩ (.int .i64 (M : Int))) (some c)) := ⟨HCU.out.moved (n := nq) M (by rw [hM]; exact HK.out), grown_set _ _ _ _ _⟩
  clear hcl hS hll hL hle1 hlen
  clear hs hk hle
  go_wp2_with fail
  refine HNU.out.mono ?_
  rintro e w2 ⟨rfl, rfl⟩
  simp only [errV, if_true]
  go_wp2_with fail
  go_ret2
  exact ⟨by rw [HS.out]; rfl, by rw [← hM, HM.out]; exact HFIN.out.1, by rw [HM.out]; exact HFIN.out.2⟩
end Go.Proofs.YtdnmgemjhpkekaaGreatDoor
