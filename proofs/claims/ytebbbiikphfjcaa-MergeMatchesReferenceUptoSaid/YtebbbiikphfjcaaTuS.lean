/-
  slices.Compact at a slice of tuples: the walk.
-/
import Derived.Test.YtebbbiikphfjcaaTuR
import Derived.RegionTactic
import Derived.BigRegion
namespace Go.Proofs.Ytebbbiikphfjcaa
open Go.ChangeShapes Go.WideShapes Go.ChangeAt Go.RowKit Go.Lib Go.Sort
set_option linter.unusedVariables false

set_option maxHeartbeats 4000000 in
set_option maxRecDepth 1000000 in
theorem tcompact_any (blk off cap : Nat) (d : Array Tu) (w : World) (hH : HoldsK tc 6 w blk off d) (hsz : d.size ≤ 9223372036854775807) (hcap : d.size ≤ cap) :
    Calls Try.prog 31 #[.slice (some ⟨blk, off, none⟩) d.size cap] w fun e w' => e = .returned (.slice (some ⟨blk, off, none⟩) (compactUpTo d d.size).length cap) ∧ ∃ q, w' = putRowK tc 6 (Sort.ahead w q) blk off (compactUpTo d d.size ++ List.replicate (d.size - (compactUpTo d d.size).length) t0).toArray := by
  have same : ∀ q, (∀ j, j < d.size → keeps d j = true) → (compactUpTo d d.size).length = d.size ∧ w.drewN q = putRowK tc 6 (Sort.ahead w q) blk off (compactUpTo d d.size ++ List.replicate (d.size - (compactUpTo d d.size).length) t0).toArray := by
    intro q hall
    have e : compactUpTo d d.size = d.toList := by rw [compactUpTo_all d _ hall, range_map_get]
    rw [e]
    refine ⟨by simp, ?_⟩
    simp only [Array.length_toList, Nat.sub_self, List.replicate_zero, List.append_nil, Array.toArray_toList]
    exact (putRowK_self tc 6 (Sort.ahead w q) blk off d (holdsK_ahead tc 6 w q blk off d hH)).symm
  have HS := Lib.hid same
  clear same
  by_cases h2 : d.size < 2
  · have HH := Lib.hid hH
    clear hH
    go_enter Try.func31, Try.ntmps31
    go_wp2_with fail
    go_ret
    obtain ⟨e1, e2⟩ := HS.out 0 (fun j hj => keeps_lt_one d j (by omega))
    exact ⟨by rw [e1]; rfl, 0, e2⟩
  · have HH := Lib.hid hH
    clear hH
    go_enter Try.func31, Try.ntmps31
    go_wp2_with fail
    go_loopg [3] d.size (fun g s3 wr => ∃ k q : Nat, 1 ≤ k ∧ k ≤ d.size ∧ d.size - k ≤ g ∧ s3 = .int .i64 k ∧ wr = w.drewN q ∧ ∀ j, j < k → keeps d j = true)
    case atStart => exact ⟨1, 0, Nat.le_refl _, by omega, by omega, rfl, rfl, keeps_lt_one d⟩
    case round =>
      obtain ⟨k, q, hk1, hk, hg, rfl, rfl, hall⟩ := hrel
      by_cases hlt : k < d.size
      · have HW : Hid (IntKind.i64.wrap ((k : Int) - 1) = ((k - 1 : Nat) : Int)) := by show _ = _; rw [IntKind.wrap_i64]; omega
        have hk1' : k - 1 < d.size := by omega
        have c1 := Lib.hid (HoldsK.rangeT (w := (w.drewN q).drew) HH.out hlt)
        have c0 := Lib.hid (HoldsK.rangeT (w := (w.drewN q).drew) HH.out (i := k - 1) (by omega))
        have A : Aside (∀ j, j < k → keeps d j = true) := hall
        clear hall
        generalize hx : d[k]! = x at c1
        generalize hy : d[k - 1]! = y at c0
        have B : Aside (d[k]! = x ∧ d[k - 1]! = y) := ⟨hx, hy⟩
        clear hx hy
        go_wp2_with fail
        refine region_tail 9 (by kernel_rfl) (by kernel_rfl) ?_
        simp only [List.take_succ_cons, List.take_zero, List.drop_succ_cons, List.drop_zero]
        repeat first
          | still_step
          | (rw [HW.out]; still_step)
          | ((with_reducible refine stillM (x := .tmp 18) (o := ⟨some 19, _, _, _, _, _⟩) c1.out ?_ ?_); exact ⟨rfl, rfl, by go_simp⟩)
          | ((with_reducible refine stillM (x := .tmp 23) (o := ⟨some 24, _, _, _, _, _⟩) c0.out ?_ ?_); exact ⟨rfl, rfl, by go_simp⟩)
        refine wpStill_nil ?_
        by_cases hdup : x = y
        · have he : eqT x y = true := (eqT_iff x y).2 hdup
          refine eqM (u := x) (v := y) (o := ⟨some 25, _, _, _, _, _⟩) ⟨rfl, rfl, rfl, rfl⟩ ?_
          rw [he]
          clear c0 c1
          generalize hw2 : (w.drewN q).drew = w2
          have W0 := Lib.hid hw2
          clear hw2
          go_wp2_with fail
          go_loopg [3, 5] d.size (fun g s3 s5 wr => ∃ (kk k2 q2 : Nat) (dk : Array Tu), s3 = .int .i64 kk ∧ s5 = .int .i64 k2 ∧ 1 ≤ k2 ∧ k + k2 ≤ d.size ∧ d.size - (k + k2) ≤ g ∧ wr = putRowK tc 6 (Sort.ahead w q2) blk off dk ∧ CompInv d (k + k2) kk dk)
          case atStart => exact ⟨k, 1, q + 1, d, rfl, rfl, Nat.le_refl _, by omega, by omega, by rw [← W0.out]; exact (putRowK_self tc 6 (Sort.ahead w (q + 1)) blk off d (holdsK_ahead tc 6 w (q + 1) blk off d HH.out)).symm, CompInv.start A.out (keeps_neg (by omega) (by rw [B.out.1, B.out.2, hdup]))⟩
          case round =>
            obtain ⟨kk, k2, q2, dk, rfl, rfl, h1, hle, hg2, hwr, hI⟩ := hrel
            have hkk := hI.lt
            have hds := hI.size
            have hHk : HoldsK tc 6 wr.drew blk off dk := by rw [hwr]; exact holdsK_putRowK tc 6 _ blk off d dk (holdsK_ahead tc 6 w q2 blk off d HH.out) hds
            have W2 : Aside (wr = putRowK tc 6 (Sort.ahead w q2) blk off dk) := hwr
            have I2 : Aside (CompInv d (k + k2) kk dk) := hI
            clear hwr
            by_cases hlt2 : k + k2 < d.size
            · have cm := Lib.hid (HoldsK.rangeT hHk (i := k + k2) (by omega))
              have cp := Lib.hid (HoldsK.rangeT hHk (i := k + k2 - 1) (by omega))
              have ck := Lib.hid (HoldsK.thereT hHk (i := kk) (by omega))
              have hk2' : k2 - 1 < d.size - k := by omega
              have HW2 : Hid (IntKind.i64.wrap ((k2 : Int) - 1) = ((k2 - 1 : Nat) : Int)) := by show _ = _; rw [IntKind.wrap_i64]; omega
              rw [hI.high (k + k2) (by omega), show off + (k + k2) * 6 = off + k * 6 + k2 * 6 by omega] at cm
              rw [hI.high (k + k2 - 1) (by omega), show off + (k + k2 - 1) * 6 = off + k * 6 + (k2 - 1) * 6 by omega] at cp
              clear hHk hI
              generalize hu : d[k + k2]! = u at cm
              generalize hv : d[k + k2 - 1]! = v at cp
              have C : Aside (d[k + k2]! = u ∧ d[k + k2 - 1]! = v) := ⟨hu, hv⟩
              clear hu hv
              go_wp2_with fail
              refine region_tail 9 (by kernel_rfl) (by kernel_rfl) ?_
              simp only [List.take_succ_cons, List.take_zero, List.drop_succ_cons, List.drop_zero]
              repeat first
                | still_step
                | (rw [HW2.out]; still_step)
                | ((with_reducible refine stillM (x := .tmp 37) (o := ⟨some 38, _, _, _, _, _⟩) cm.out ?_ ?_); exact ⟨rfl, rfl, by go_simp⟩)
                | ((with_reducible refine stillM (x := .tmp 42) (o := ⟨some 43, _, _, _, _, _⟩) cp.out ?_ ?_); exact ⟨rfl, rfl, by go_simp⟩)
              refine wpStill_nil ?_
              refine neM (u := u) (v := v) (o := ⟨some 44, _, _, _, _, _⟩) ⟨rfl, rfl, rfl, rfl⟩ ?_
              by_cases huv : u = v
              · have he2 : eqT u v = true := (eqT_iff u v).2 huv
                rw [he2]
                have H2 : Hid (wr.drew = putRowK tc 6 (Sort.ahead w (q2 + 1)) blk off dk) := by show _ = _; rw [W2.out]; rfl
                clear cm cp ck
                generalize wr.drew = w3 at H2 ⊢
                go_wp2_with fail
                go_roundg (d.size - (k + (k2 + 1)))
                case measure => omega
                case rel => exact ⟨kk, k2 + 1, q2 + 1, dk, rfl, by go_num, by omega, by omega, Nat.le_refl _, H2.out, I2.out.skip (keeps_neg (by omega) (by rw [C.out.1, C.out.2, huv]))⟩
              · have he2 : eqT u v = false := by rcases hb : eqT u v with _ | _; · rfl
                                                 · exact absurd ((eqT_iff u v).1 hb) huv
                rw [he2]
                have H2 : Hid ((wr.drew).setCells blk (off + kk * 6) (tc u) = putRowK tc 6 (Sort.ahead w (q2 + 1)) blk off (dk.setIfInBounds kk u)) := store_worldT (by omega) W2.out u
                clear cp
                have hkd : kk < d.size := by omega
                go_wp2_with (first
                  | ((with_reducible refine loadM (x := .tmp 49) (o := ⟨some 50, _, _, _, _, _⟩) cm.out ?_ ?_); exact ⟨rfl, rfl, by go_simp⟩)
                  | ((with_reducible refine storeM (x := .tmp 51) (y := .tmp 50) (u := u) (o := ⟨none, .store _ _ _, _, _, _, _⟩) ck.out ?_ ?_); exact ⟨rfl, rfl, by go_simp, rfl⟩))
                go_roundg (d.size - (k + (k2 + 1)))
                case measure => omega
                case rel => exact ⟨kk + 1, k2 + 1, q2 + 1, dk.setIfInBounds kk u, by go_num, by go_num, by omega, by omega, Nat.le_refl _, H2.out, by have := I2.out.keep hlt2 (keeps_pos (by rw [C.out.1, C.out.2]; exact huv)); rwa [C.out.1] at this⟩
            · have hend : k + k2 = d.size := by omega
              have hcl : ∀ ty, (Builtin.clear_ #[24] ty #[.slice (some ⟨blk, off + kk * 6, none⟩) (d.size - kk) (cap - kk)]).run Try.prog wr = .ok (.tuple #[]) (wr.setCells blk (off + kk * 6) ((List.replicate (d.size - kk) t0).flatMap tc)) :=
                fun ty => run_clearT wr ty blk (off + kk * 6) (d.size - kk) _ (by omega) (fun i hi => by
                  have := HoldsK.thereT hHk (i := kk + i) (by omega)
                  rwa [show off + (kk + i) * 6 = off + kk * 6 + i * 6 by omega] at this)
              clear hHk hI
              go_wp2_with fail
              go_ret
              have hI := I2.out
              rw [hend] at hI
              refine ⟨by rw [hI.len]; rfl, q2, ?_⟩
              rw [hI.len, ← hI.done t0, ← putRowT_lay _ blk off _ dk kk (by simp; omega), ← W2.out]
        · have he : eqT x y = false := by rcases hb : eqT x y with _ | _; · rfl
                                          · exact absurd ((eqT_iff x y).1 hb) hdup
          refine eqM (u := x) (v := y) (o := ⟨some 25, _, _, _, _, _⟩) ⟨rfl, rfl, rfl, rfl⟩ ?_
          rw [he]
          clear c0 c1
          generalize hw2 : (w.drewN q).drew = w2
          have W0 := Lib.hid hw2
          clear hw2
          go_wp2_with fail
          go_roundg (d.size - (k + 1))
          case measure => omega
          case rel =>
            refine ⟨k + 1, q + 1, by omega, by omega, Nat.le_refl _, by go_num, W0.out.symm, fun j hj => ?_⟩
            by_cases e : j = k
            · subst e
              exact keeps_pos (by rw [B.out.1, B.out.2]; exact hdup)
            · exact A.out j (by omega)
      · have : k = d.size := by omega
        subst this
        go_wp2_with fail
        go_ret
        obtain ⟨e1, e2⟩ := HS.out q hall
        exact ⟨by rw [e1]; rfl, q, e2⟩
theorem tcompact_nil (a : Option Addr) (cap : Nat) (w : World) : Calls Try.prog 31 #[.slice a 0 cap] w fun e w' => e = .returned (.slice a 0 cap) ∧ w = w' := by
  go_enter Try.func31, Try.ntmps31
  go_wp2_with fail
  go_ret
  exact ⟨rfl, rfl⟩
end Go.Proofs.Ytebbbiikphfjcaa
