/-
  frame.Read.
-/
import Derived.Test.YtikokimnhanloaaDoorFrB
namespace Go.Proofs.YtikokimnhanloaaDoor
open Go.ChangeShapes Go.WideShapes Go.ChangeAt Go.RowKit
open errAs (ErrT)
set_option linter.unusedVariables false

theorem eqlNil (d : Int) (w : World) : (binOp BinOp.eql 25 .nilIface (.iface 51 (.int .i64 d))).run Tryd.prog w = .ok (.bool false) w := by kernel_rfl
theorem eqlC (c d : Int) (w : World) : (binOp BinOp.eql 25 (.iface 51 (.int .i64 c)) (.iface 51 (.int .i64 d))).run Tryd.prog w = .ok (.bool (decide (c = d))) w := by kernel_rfl
theorem Rd.cut {B : Nat} {w : World} {oa : Option Addr} {cap : Nat} {p : List UInt8} (h : Rd B w (.slice oa p.length cap) p) : Rd B w (.slice oa (min p.length 10) cap) (p.take (min p.length 10)) := h.take (by omega)
def ReadPost (w : World) (b : List UInt8) (e : Ending) (w' : World) : Prop :=
  ∃ v, e = .returned (.tuple #[v, .int .i64 ((readF b).2.1 : Nat), errF (readF b).2.2.1 (readF b).2.2.2]) ∧ w'.ownsRow w.heap.size 5 1 v (readF b).1.length (bvs (readF b).1) ∧ Below w.heap.size w w'
theorem post_none {w w' : World} {b : List UInt8} {c n : Nat} (hc : c ≠ 0) (h : readF b = ([], 0, c, n)) (hb : Below w.heap.size w w') : ReadPost w b (.returned (.tuple #[.slice none 0 0, .int .i64 0, faultN c n])) w' := by
  refine ⟨.slice none 0 0, ?_, ?_, hb⟩
  · rw [h]; show _ = Ending.returned (.tuple #[_, _, errF c n]); unfold errF; rw [if_neg hc]; rfl
  · rw [h]; exact World.ownsRow_nil _ _ _ _

theorem rd_sub {B : Nat} {w : World} {b off cap i n : Nat} {l : List UInt8} (h1 : l.length ≤ cap) (h2 : cap ≤ maxLen) (h3 : b < B) (hc : ∀ i, i < l.length → w.cell? ⟨b, off + i, none⟩ = some (bv (l.getD i 0))) (hi : i + n ≤ l.length) (c2 : Nat) (hc2 : c2 = cap - i) :
    Rd B w (.slice (some ⟨b, off + i, none⟩) n c2) ((l.drop i).take n) := by
  have hl : ((l.drop i).take n).length = n := by rw [List.length_take, List.length_drop]; omega
  refine .inr ⟨b, off + i, c2, by rw [hl], by omega, by omega, h3, fun j hj => ?_⟩
  rw [hl] at hj
  rw [Nat.add_assoc, hc (i + j) (by omega)]
  congr 2
  simp [List.getD_eq_getElem?_getD, hj]
theorem frame_set {w0 w w' : World} {c : Nat} (h : Below w0.heap.size w0 w) (hc : w0.heap.size ≤ c) (hg : w.grownBy w' (some c)) : Below w0.heap.size w0 w' := h.grown hg h.size (fun k hk => by injection hk with hk; omega)

set_option maxRecDepth 100000 in
set_option maxHeartbeats 4000000 in
theorem fread_nil {w : World} {oa : Option Addr} (hg : ErrT w) :
    Calls Tryd.prog 10 #[.slice oa 0 0] w (ReadPost w []) := by
  have HN : Hid (Calls Tryd.prog 26 #[.slice oa 0 0] w (NewPost w [])) := new_any (B := w.heap.size) (.inl ⟨oa, rfl, rfl⟩) (Nat.le_refl _) (by simp)
  have hq1 := eqlC
  clear hg
  go_enter Tryd.func10, Tryd.ntmps10
  go_wp2_with fail
  refine HN.out.mono ?_
  rintro e w1 ⟨c, rfl, hc, hcur, b1⟩
  have HB1 := Lib.hid b1
  have HC := Lib.hid hc
  have HNU := Lib.hid (Number_any hcur)
  clear b1 hc hcur HN
  go_wp2_with fail
  refine HNU.out.mono ?_
  rintro e w2 ⟨rfl, hcur2, hg2⟩
  have HB2 := Lib.hid (frame_set HB1.out HC.out hg2)
  clear hg2 hcur2 HB1 HNU
  have hv : errV (num (([] : List UInt8).drop 0)).2.2 = .iface 51 (.int .i64 1) := rfl
  rw [hv]
  go_wp2_with fail
  refine (fnew_any _ _ _).mono ?_
  rintro e w3 ⟨rfl, rfl⟩
  have HF := Lib.hid (post_none (w := w) (b := []) (c := 1) (n := 0) (by decide) (read_short rfl) HB2.out)
  go_wp2_with fail
  go_ret3
  exact HF.out

set_option maxRecDepth 100000 in
set_option maxHeartbeats 4000000 in
theorem fread_any {B : Nat} {w : World} {vb : Value} {l : List UInt8} (hr : Rd B w vb l) (hB : B ≤ w.heap.size) (hl : l.length ≤ 1000000000) (hg : ErrT w) :
    Calls Tryd.prog 10 #[vb] w (ReadPost w l) := by
  have hr0 := hr
  rcases hr0 with ⟨oa, rfl, rfl⟩ | ⟨b, off, cv, rfl, h1, h2, h3, hcell⟩
  · exact fread_nil hg
  have HNG := Lib.hid (fun k (hk : k ≤ l.length) (h10 : l.length ≤ 1000000000) => new_any (hr.take hk) hB (by rw [List.length_take]; omega))
  have HR := Lib.hid hr
  have HE := Lib.hid hg
  have HCELL := Lib.hid (And.intro h1 (And.intro h2 (And.intro h3 hcell)))
  clear hr hg hcell
  have i0 : (0 : Int) ≤ l.length := by omega
  have i1 : (l.length : Int) ≤ cv := by omega
  have HNX : Hid (∃ k, k = min l.length 10 ∧ Calls Tryd.prog 26 #[.slice (some ⟨b, off, none⟩) k cv] w (NewPost w (l.take 10))) := by
    refine ⟨_, rfl, ?_⟩
    have h := HNG.out (min l.length 10) (by omega) hl
    have e10 : l.take (min l.length 10) = l.take 10 := by
      by_cases h : l.length ≤ 10
      · rw [Nat.min_eq_left h, List.take_length, List.take_of_length_le h]
      · rw [Nat.min_eq_right (by omega)]
    rw [e10] at h
    exact h
  obtain ⟨r, hrr⟩ : ∃ r, r = num l := ⟨_, rfl⟩
  have hnt : num ((l.take 10).drop 0) = r := by rw [List.drop_zero, num_take10, hrr]
  have HNT := Lib.hid hnt
  have HRR := Lib.hid hrr
  have hq0 := eqlNil
  have hq1 := eqlC
  clear hnt hrr HNG
  by_cases h10 : l.length ≤ 10
  case pos =>
    have g10 : (l.length : Int) ≤ 10 := by omega
    have HN : Hid (Calls Tryd.prog 26 #[.slice (some ⟨b, off, none⟩) l.length cv] w (NewPost w (l.take 10))) := by
      obtain ⟨k, hk, h⟩ := HNX.out
      rw [Nat.min_eq_left h10] at hk
      subst hk; exact h
    clear HNX
    go_enter Tryd.func10, Tryd.ntmps10
    go_wp2_with fail
    refine HN.out.mono ?_
    rintro e w1 ⟨c, rfl, hc, hcur, b1⟩
    have HB1 := Lib.hid b1
    have HC := Lib.hid hc
    have HNU := Lib.hid (Number_any hcur)
    clear b1 hc hcur HN
    go_wp2_with fail
    refine HNU.out.mono ?_
    rintro e w2 ⟨rfl, hcur2, hg2⟩
    rw [HNT.out] at hcur2 ⊢
    have hb2 := frame_set HB1.out HC.out hg2
    have HB2 := Lib.hid hb2
    have HE2 := Lib.hid (HE.out.below hb2 HE.out.lt)
    have HR2 := Lib.hid (HR.out.below hb2 hB)
    have HAT := Lib.hid (at_any hcur2)
    clear hb2 hg2 hcur2 HB1 HNU
    by_cases hr1 : r.2.2 = 1
    · have hv : errV r.2.2 = .iface 51 (.int .i64 1) := by rw [hr1]; rfl
      rw [hv]
      go_wp2_with fail
      refine (fnew_any _ _ _).mono ?_
      rintro e w3 ⟨rfl, rfl⟩
      have HF := Lib.hid (post_none (w := w) (b := l) (c := 1) (n := l.length) (by decide) (read_short (by rw [← HRR.out]; exact hr1)) HB2.out)
      go_wp2_with fail
      go_ret3
      exact HF.out
    · by_cases hr0 : r.2.2 = 0
      · have hv : errV r.2.2 = .nilIface := by rw [hr0]; rfl
        rw [hv]
        have hna := num_at (l := l) (by rw [← HRR.out]; exact hr0)
        rw [← HRR.out] at hna
        obtain ⟨x, hx⟩ : ∃ x, x = r.1 := ⟨_, rfl⟩
        obtain ⟨k, hk⟩ : ∃ k, k = r.2.1 := ⟨_, rfl⟩
        rw [← hk] at hna HAT
        rw [← hx]
        by_cases hlim : 65536 < x
        · have g1 : (65536 : Int) < x := by omega
          have HF := Lib.hid (post_none (w := w) (b := l) (c := 15) (n := 0) (by decide) (read_limit (by rw [← HRR.out]; exact hr0) (by rw [← HRR.out, ← hx]; exact hlim)) HB2.out)
          go_wp2_with fail
          refine (fnew_any _ _ _).mono ?_
          rintro e w3 ⟨rfl, rfl⟩
          go_wp2_with fail
          go_ret3
          exact HF.out
        · have g1 : ¬ (65536 : Int) < x := by omega
          have hz0 : 0 + k = k := Nat.zero_add k
          rw [hz0] at HAT
          go_wp2_with fail
          refine HAT.out.mono ?_
          rintro e w3 ⟨rfl, rfl⟩
          by_cases hend : l.length < k + x + 4
          · have g2 : (l.length : Int) < (k : Int) + x + 4 := by omega
            have HF := Lib.hid (post_none (w := w) (b := l) (c := 1) (n := l.length) (by decide) (read_cut (by rw [← HRR.out]; exact hr0) (by rw [← HRR.out, ← hx]; exact hlim) (by rw [← HRR.out, ← hx, ← hk]; exact hend)) HB2.out)
            go_wp2_with fail
            refine (fnew_any _ _ _).mono ?_
            rintro e w3 ⟨rfl, rfl⟩
            go_wp2_with fail
            go_ret3
            exact HF.out
          · have g2 : ¬ (l.length : Int) < (k : Int) + x + 4 := by omega
            have g3 : (k : Int) ≤ (k : Int) + x + 4 := by omega
            have g4 : (k : Int) + x + 4 ≤ l.length := by omega
            obtain ⟨z1, z2, z3, zc⟩ := HCELL.out
            have hsub := rd_sub (B := B) (w := w2) (i := r.2.1) (n := r.2.1 + r.1 + 4 - r.2.1) z1 z2 z3 (fun i hi => (HB2.out.cell (by show b < w.heap.size; omega)).trans (zc i hi)) (by omega) (cv - r.2.1) rfl
            have en : r.2.1 + r.1 + 4 - r.2.1 = r.1 + 4 := by omega
            have hop := open_spec hsub (Nat.le_trans hB HB2.out.size) (by rw [List.length_take, List.length_drop]; omega)
            rw [show (l.drop r.2.1).take (r.2.1 + r.1 + 4 - r.2.1) = (l.drop r.2.1).take (r.1 + 4) by rw [en]] at hop
            have HOP := Lib.hid hop
            have HY := Lib.hid (fun h => read_yes (b := l) (by rw [← HRR.out]; exact hr0) (by rw [← HRR.out]; omega) (by rw [← HRR.out]; omega) h)
            have HNO := Lib.hid (fun h => read_no (b := l) (by rw [← HRR.out]; exact hr0) (by rw [← HRR.out]; omega) (by rw [← HRR.out]; omega) h)
            rw [← HRR.out] at HY HNO
            clear zc hsub hop en
            go_wp2_with fail
            refine HOP.out.mono ?_
            rintro e w3 ⟨v, rfl, o3, b3⟩
            have HB3 := Lib.hid (HB2.out.trans (b3.mono HB2.out.size))
            have HO3 := Lib.hid (own_le o3 HB2.out.size)
            clear o3 b3 HOP
            obtain ⟨sb, hsb⟩ : ∃ sb, sb = isSealed ((l.drop r.2.1).take (r.1 + 4)) := ⟨_, rfl⟩
            rw [← hsb]
            cases sb with
            | true =>
              have h := HY.out hsb.symm
              have HF : Hid (ReadPost w l (.returned (.tuple #[v, .int .i64 ((r.2.1 + r.1 + 4 : Nat) : Int), .nilIface])) w3) := ⟨v, by rw [h]; rfl, by rw [h]; exact HO3.out, HB3.out⟩
              clear h hsb
              go_wp2_with fail
              go_ret3
              exact HF.out
            | false =>
              have HF := Lib.hid (post_none (w := w) (w' := w3) (b := l) (c := 4) (n := r.2.1) (by decide) (HNO.out hsb.symm) HB3.out)
              clear hsb
              go_wp2_with fail
              refine (fnew_any _ _ _).mono ?_
              rintro e w4 ⟨rfl, rfl⟩
              go_wp2_with fail
              go_ret3
              exact HF.out
      · have hv : errV r.2.2 = .iface 51 (.int .i64 r.2.2) := by unfold errV; rw [if_neg hr0]
        rw [hv]
        have g1 : ¬ ((r.2.2 : Int) = 1) := by omega
        have HF := Lib.hid (fun w3 hb3 => post_none (w := w) (w' := w3) (b := l) (c := r.2.2) (n := 0) hr0 (by rw [read_code (by rw [← HRR.out]; exact hr1) (by rw [← HRR.out]; exact hr0), ← HRR.out]) hb3)
        have HSH := Lib.hid (shift_C r.2.2 w2 HE2.out)
        go_wp2_with fail
        refine HSH.out.mono ?_
        rintro e w3 ⟨rfl, b3⟩
        have HB3 := Lib.hid (HB2.out.trans (b3.mono HB2.out.size))
        clear b3
        go_wp2_with fail
        go_ret3
        exact HF.out _ HB3.out
  case neg =>
    have g10 : ¬ (l.length : Int) ≤ 10 := by omega
    have g11 : (10 : Int) ≤ cv := by omega
    have HN : Hid (Calls Tryd.prog 26 #[.slice (some ⟨b, off, none⟩) 10 cv] w (NewPost w (l.take 10))) := by
      obtain ⟨k, hk, h⟩ := HNX.out
      rw [Nat.min_eq_right (by omega)] at hk
      subst hk; exact h
    clear HNX
    go_enter Tryd.func10, Tryd.ntmps10
    go_wp2_with fail
    refine HN.out.mono ?_
    rintro e w1 ⟨c, rfl, hc, hcur, b1⟩
    have HB1 := Lib.hid b1
    have HC := Lib.hid hc
    have HNU := Lib.hid (Number_any hcur)
    clear b1 hc hcur HN
    go_wp2_with fail
    refine HNU.out.mono ?_
    rintro e w2 ⟨rfl, hcur2, hg2⟩
    rw [HNT.out] at hcur2 ⊢
    have hb2 := frame_set HB1.out HC.out hg2
    have HB2 := Lib.hid hb2
    have HE2 := Lib.hid (HE.out.below hb2 HE.out.lt)
    have HR2 := Lib.hid (HR.out.below hb2 hB)
    have HAT := Lib.hid (at_any hcur2)
    clear hb2 hg2 hcur2 HB1 HNU
    by_cases hr1 : r.2.2 = 1
    · have hv : errV r.2.2 = .iface 51 (.int .i64 1) := by rw [hr1]; rfl
      rw [hv]
      go_wp2_with fail
      refine (fnew_any _ _ _).mono ?_
      rintro e w3 ⟨rfl, rfl⟩
      have HF := Lib.hid (post_none (w := w) (b := l) (c := 1) (n := l.length) (by decide) (read_short (by rw [← HRR.out]; exact hr1)) HB2.out)
      go_wp2_with fail
      go_ret3
      exact HF.out
    · by_cases hr0 : r.2.2 = 0
      · have hv : errV r.2.2 = .nilIface := by rw [hr0]; rfl
        rw [hv]
        have hna := num_at (l := l) (by rw [← HRR.out]; exact hr0)
        rw [← HRR.out] at hna
        obtain ⟨x, hx⟩ : ∃ x, x = r.1 := ⟨_, rfl⟩
        obtain ⟨k, hk⟩ : ∃ k, k = r.2.1 := ⟨_, rfl⟩
        rw [← hk] at hna HAT
        rw [← hx]
        by_cases hlim : 65536 < x
        · have g1 : (65536 : Int) < x := by omega
          have HF := Lib.hid (post_none (w := w) (b := l) (c := 15) (n := 0) (by decide) (read_limit (by rw [← HRR.out]; exact hr0) (by rw [← HRR.out, ← hx]; exact hlim)) HB2.out)
          go_wp2_with fail
          refine (fnew_any _ _ _).mono ?_
          rintro e w3 ⟨rfl, rfl⟩
          go_wp2_with fail
          go_ret3
          exact HF.out
        · have g1 : ¬ (65536 : Int) < x := by omega
          have hz0 : 0 + k = k := Nat.zero_add k
          rw [hz0] at HAT
          go_wp2_with fail
          refine HAT.out.mono ?_
          rintro e w3 ⟨rfl, rfl⟩
          by_cases hend : l.length < k + x + 4
          · have g2 : (l.length : Int) < (k : Int) + x + 4 := by omega
            have HF := Lib.hid (post_none (w := w) (b := l) (c := 1) (n := l.length) (by decide) (read_cut (by rw [← HRR.out]; exact hr0) (by rw [← HRR.out, ← hx]; exact hlim) (by rw [← HRR.out, ← hx, ← hk]; exact hend)) HB2.out)
            go_wp2_with fail
            refine (fnew_any _ _ _).mono ?_
            rintro e w3 ⟨rfl, rfl⟩
            go_wp2_with fail
            go_ret3
            exact HF.out
          · have g2 : ¬ (l.length : Int) < (k : Int) + x + 4 := by omega
            have g3 : (k : Int) ≤ (k : Int) + x + 4 := by omega
            have g4 : (k : Int) + x + 4 ≤ l.length := by omega
            obtain ⟨z1, z2, z3, zc⟩ := HCELL.out
            have hsub := rd_sub (B := B) (w := w2) (i := r.2.1) (n := r.2.1 + r.1 + 4 - r.2.1) z1 z2 z3 (fun i hi => (HB2.out.cell (by show b < w.heap.size; omega)).trans (zc i hi)) (by omega) (cv - r.2.1) rfl
            have en : r.2.1 + r.1 + 4 - r.2.1 = r.1 + 4 := by omega
            have hop := open_spec hsub (Nat.le_trans hB HB2.out.size) (by rw [List.length_take, List.length_drop]; omega)
            rw [show (l.drop r.2.1).take (r.2.1 + r.1 + 4 - r.2.1) = (l.drop r.2.1).take (r.1 + 4) by rw [en]] at hop
            have HOP := Lib.hid hop
            have HY := Lib.hid (fun h => read_yes (b := l) (by rw [← HRR.out]; exact hr0) (by rw [← HRR.out]; omega) (by rw [← HRR.out]; omega) h)
            have HNO := Lib.hid (fun h => read_no (b := l) (by rw [← HRR.out]; exact hr0) (by rw [← HRR.out]; omega) (by rw [← HRR.out]; omega) h)
            rw [← HRR.out] at HY HNO
            clear zc hsub hop en
            go_wp2_with fail
            refine HOP.out.mono ?_
            rintro e w3 ⟨v, rfl, o3, b3⟩
            have HB3 := Lib.hid (HB2.out.trans (b3.mono HB2.out.size))
            have HO3 := Lib.hid (own_le o3 HB2.out.size)
            clear o3 b3 HOP
            obtain ⟨sb, hsb⟩ : ∃ sb, sb = isSealed ((l.drop r.2.1).take (r.1 + 4)) := ⟨_, rfl⟩
            rw [← hsb]
            cases sb with
            | true =>
              have h := HY.out hsb.symm
              have HF : Hid (ReadPost w l (.returned (.tuple #[v, .int .i64 ((r.2.1 + r.1 + 4 : Nat) : Int), .nilIface])) w3) := ⟨v, by rw [h]; rfl, by rw [h]; exact HO3.out, HB3.out⟩
              clear h hsb
              go_wp2_with fail
              go_ret3
              exact HF.out
            | false =>
              have HF := Lib.hid (post_none (w := w) (w' := w3) (b := l) (c := 4) (n := r.2.1) (by decide) (HNO.out hsb.symm) HB3.out)
              clear hsb
              go_wp2_with fail
              refine (fnew_any _ _ _).mono ?_
              rintro e w4 ⟨rfl, rfl⟩
              go_wp2_with fail
              go_ret3
              exact HF.out
      · have hv : errV r.2.2 = .iface 51 (.int .i64 r.2.2) := by unfold errV; rw [if_neg hr0]
        rw [hv]
        have g1 : ¬ ((r.2.2 : Int) = 1) := by omega
        have HF := Lib.hid (fun w3 hb3 => post_none (w := w) (w' := w3) (b := l) (c := r.2.2) (n := 0) hr0 (by rw [read_code (by rw [← HRR.out]; exact hr1) (by rw [← HRR.out]; exact hr0), ← HRR.out]) hb3)
        have HSH := Lib.hid (shift_C r.2.2 w2 HE2.out)
        go_wp2_with fail
        refine HSH.out.mono ?_
        rintro e w3 ⟨rfl, b3⟩
        have HB3 := Lib.hid (HB2.out.trans (b3.mono HB2.out.size))
        clear b3
        go_wp2_with fail
        go_ret3
        exact HF.out _ HB3.out
end Go.Proofs.YtikokimnhanloaaDoor
