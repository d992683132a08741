/-
  The reference's Read.
-/
import Derived.Test.YtikokimnhanloaaDoorFrC
namespace Go.Proofs.YtikokimnhanloaaDoor
open Go.ChangeShapes Go.WideShapes Go.ChangeAt Go.RowKit
open errAs (ErrT)
set_option linter.unusedVariables false

theorem results_tmp4 {fn : Func} {t u v x : Tmp} (h : fn.results = #[.tmp t, .tmp u, .tmp v, .tmp x]) (tmps : Array Value) (P : Program) (w : World) :
    (results fn tmps).run P w = .ok (.tuple #[tmps.getD t undef, tmps.getD u undef, tmps.getD v undef, tmps.getD x undef]) w := by
  simp [results, h]
def RefPost (B : Nat) (w : World) (b : List UInt8) (e : Ending) (w' : World) : Prop :=
  ∃ v, e = .returned (.tuple #[v, .int .i64 ((readF b).2.1 : Nat), .int .i64 ((readF b).2.2.1 : Nat), .int .i64 ((readF b).2.2.2 : Nat)]) ∧ Rd B w' v (readF b).1 ∧ w = w'
theorem ref_none {B : Nat} {w : World} {b : List UInt8} {c n : Nat} (h : readF b = ([], 0, c, n)) : RefPost B w b (.returned (.tuple #[.slice none 0 0, .int .i64 0, .int .i64 c, .int .i64 n])) w := by
  refine ⟨.slice none 0 0, by rw [h]; rfl, ?_, rfl⟩
  rw [h]; exact .inl ⟨none, rfl, rfl⟩
theorem inside_sub {l : List UInt8} {k x : Nat} (h : isSealed ((l.drop k).take (x + 4)) = true) (hl : k + x + 4 ≤ l.length) : inside ((l.drop k).take (x + 4)) = (l.drop k).take x := by
  unfold inside
  rw [if_pos h]
  have : ((l.drop k).take (x + 4)).length = x + 4 := by rw [List.length_take, List.length_drop]; omega
  rw [this, List.take_take]
  congr 1
  omega

set_option maxRecDepth 100000 in
theorem rread_nil {B : Nat} {w : World} {oa : Option Addr} :
    Calls Tryd.prog 14 #[.slice oa 0 0] w (RefPost B w []) := by
  have HN := Lib.hid (rnumber_any (B := B) (w := w) (vb := .slice oa 0 0) (l := []) (.inl ⟨oa, rfl, rfl⟩) (by simp))
  have hv : num ([] : List UInt8) = (0, 0, 1) := rfl
  rw [hv] at HN
  go_enter Tryd.func14, Tryd.ntmps14
  go_wp2_with fail
  refine HN.out.mono ?_
  rintro e w2 ⟨rfl, rfl⟩
  go_wp2_with fail
  (try simp only [Exit.inBlock, Exit.then]); refine bodyPost_ret (results_tmp4 rfl _ _ _) rfl ?_
  exact ref_none (c := 1) (n := 0) (read_short rfl)

set_option maxRecDepth 100000 in
set_option maxHeartbeats 4000000 in
theorem rread_any {B : Nat} {w : World} {vb : Value} {l : List UInt8} (hr : Rd B w vb l) (hl : l.length ≤ 1000000) :
    Calls Tryd.prog 14 #[vb] w (RefPost B w l) := by
  have hr0 := hr
  rcases hr0 with ⟨oa, rfl, rfl⟩ | ⟨b, off, cv, rfl, h1, h2, h3, hcell⟩
  · exact rread_nil
  have HN := Lib.hid (rnumber_any hr hl)
  have HR := Lib.hid hr
  have HCELL := Lib.hid (And.intro h1 (And.intro h2 (And.intro h3 hcell)))
  clear hr hcell
  have i0 : (0 : Int) ≤ l.length := by omega
  have i1 : (l.length : Int) ≤ cv := by omega
  obtain ⟨r, hrr⟩ : ∃ r, r = num l := ⟨_, rfl⟩
  have HRR := Lib.hid hrr
  rw [← hrr] at HN
  clear hrr
  go_enter Tryd.func14, Tryd.ntmps14
  go_wp2_with fail
  refine HN.out.mono ?_
  rintro e w2 ⟨rfl, rfl⟩
  by_cases hr1 : r.2.2 = 1
  · have HF := Lib.hid (ref_none (B := B) (w := w) (b := l) (c := 1) (n := l.length) (read_short (by rw [← HRR.out]; exact hr1)))
    have g1 : (r.2.2 : Int) = 1 := by omega
    go_wp2_with fail
    (try simp only [Exit.inBlock, Exit.then]); refine bodyPost_ret (results_tmp4 rfl _ _ _) rfl ?_
    exact HF.out
  · have g1 : ¬ (r.2.2 : Int) = 1 := by omega
    by_cases hr0 : r.2.2 = 0
    · have g0 : (r.2.2 : Int) = 0 := by omega
      have hna := num_at (l := l) (by rw [← HRR.out]; exact hr0)
      rw [← HRR.out] at hna
      by_cases hlim : 65536 < r.1
      · have g2 : (65536 : Int) < r.1 := by omega
        have HF := Lib.hid (ref_none (B := B) (w := w) (b := l) (c := 15) (n := 0) (read_limit (by rw [← HRR.out]; exact hr0) (by rw [← HRR.out]; exact hlim)))
        go_wp2_with fail
        (try simp only [Exit.inBlock, Exit.then]); refine bodyPost_ret (results_tmp4 rfl _ _ _) rfl ?_
        exact HF.out
      · have g2 : ¬ (65536 : Int) < r.1 := by omega
        by_cases hend : l.length < r.2.1 + r.1 + 4
        · have g3 : (l.length : Int) < (r.2.1 : Int) + r.1 + 4 := by omega
          have HF := Lib.hid (ref_none (B := B) (w := w) (b := l) (c := 1) (n := l.length) (read_cut (by rw [← HRR.out]; exact hr0) (by rw [← HRR.out]; exact hlim) (by rw [← HRR.out]; exact hend)))
          go_wp2_with fail
          (try simp only [Exit.inBlock, Exit.then]); refine bodyPost_ret (results_tmp4 rfl _ _ _) rfl ?_
          exact HF.out
        · have g3 : ¬ (l.length : Int) < (r.2.1 : Int) + r.1 + 4 := by omega
          have g4 : (r.2.1 : Int) ≤ (r.2.1 : Int) + r.1 + 4 := by omega
          have g5 : (r.2.1 : Int) + r.1 + 4 ≤ cv := by omega
          have g6 : (r.2.1 : Int) ≤ (r.2.1 : Int) + r.1 + 4 - 4 := by omega
          have g7 : (r.2.1 : Int) + r.1 + 4 - 4 ≤ cv := by omega
          obtain ⟨z1, z2, z3, zc⟩ := HCELL.out
          have hsub := rd_sub (B := B) (w := w) (i := r.2.1) (n := r.2.1 + r.1 + 4 - r.2.1) z1 z2 z3 zc (by omega) (cv - r.2.1) rfl
          have HSUB2 : Hid (∀ n, n = r.1 → Rd B w (.slice (some ⟨b, off + r.2.1, none⟩) n (cv - r.2.1)) ((l.drop r.2.1).take r.1)) := fun n hn => by
            subst hn; exact rd_sub (B := B) (w := w) (i := r.2.1) (n := r.1) z1 z2 z3 zc (by omega) (cv - r.2.1) rfl
          have en : r.2.1 + r.1 + 4 - r.2.1 = r.1 + 4 := by omega
          have hop := rsealed_spec hsub (by rw [List.length_take, List.length_drop]; omega)
          rw [show (l.drop r.2.1).take (r.2.1 + r.1 + 4 - r.2.1) = (l.drop r.2.1).take (r.1 + 4) by rw [en]] at hop
          have HOP := Lib.hid hop
          have HY := Lib.hid (fun h => read_yes (b := l) (by rw [← HRR.out]; exact hr0) (by rw [← HRR.out]; omega) (by rw [← HRR.out]; omega) h)
          have HNO := Lib.hid (fun h => read_no (b := l) (by rw [← HRR.out]; exact hr0) (by rw [← HRR.out]; omega) (by rw [← HRR.out]; omega) h)
          rw [← HRR.out] at HY HNO
          have HIN := Lib.hid (fun h => inside_sub (l := l) (k := r.2.1) (x := r.1) h (by omega))
          clear zc hsub hop en
          go_wp2_with fail
          refine HOP.out.mono ?_
          rintro e w3 ⟨rfl, rfl⟩
          obtain ⟨sb, hsb⟩ : ∃ sb, sb = isSealed ((l.drop r.2.1).take (r.1 + 4)) := ⟨_, rfl⟩
          rw [← hsb]
          cases sb with
          | true =>
            have HH := Lib.hid (HY.out hsb.symm)
            have HI := Lib.hid (HIN.out hsb.symm)
            clear hsb
            go_wp2_with fail
            (try simp only [Exit.inBlock, Exit.then]); refine bodyPost_ret (results_tmp4 rfl _ _ _) rfl ?_
            refine ⟨_, by rw [HH.out]; rfl, ?_, rfl⟩
            rw [HH.out, HI.out]
            exact HSUB2.out (r.2.1 + r.1 - r.2.1) (by omega)
          | false =>
            have HF := Lib.hid (ref_none (B := B) (w := w) (b := l) (c := 4) (n := r.2.1) (HNO.out hsb.symm))
            clear hsb
            go_wp2_with fail
            (try simp only [Exit.inBlock, Exit.then]); refine bodyPost_ret (results_tmp4 rfl _ _ _) rfl ?_
            exact HF.out
    · have g0 : ¬ (r.2.2 : Int) = 0 := by omega
      have HF := Lib.hid (ref_none (B := B) (w := w) (b := l) (c := r.2.2) (n := 0) (by rw [read_code (by rw [← HRR.out]; exact hr1) (by rw [← HRR.out]; exact hr0), ← HRR.out]))
      go_wp2_with fail
      (try simp only [Exit.inBlock, Exit.then]); refine bodyPost_ret (results_tmp4 rfl _ _ _) rfl ?_
      exact HF.out
end Go.Proofs.YtikokimnhanloaaDoor
