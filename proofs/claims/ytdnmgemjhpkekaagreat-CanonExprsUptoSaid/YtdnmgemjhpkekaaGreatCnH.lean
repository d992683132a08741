/-
  slices.CompactFunc with the closure of canon.ordered (allowed types).
-/
import Derived.Test.YtdnmgemjhpkekaaGreatCnG
namespace Go.Proofs.YtdnmgemjhpkekaaGreat
open Go.ChangeShapes Go.WideShapes Go.ChangeAt Go.RowKit Go.Lib Go.Sort
set_option linter.unusedVariables false

def Yv  (u : Yl) : Value := .agg (yenc u).toArray
section
variable  {ops : Array Oper} {rest : List Oper} {o : Oper} {a : Act} {Q : Exit → Act → World → Prop} {w : World} {b off : Nat} {x y : Operand} {u v : Yl}
theorem loadY (hr : w.rangeAt b off (yenc u)) (hs : o.guard = none ∧ o.op = .load 41 x ∧ a.eval x = .pointer (some ⟨b, off, none⟩))
    (hk : wpList Tryz.prog ops Q rest (a.put o.dst (Yv u)) w) : wpList Tryz.prog ops Q (o :: rest) a w :=
  wpList_load_mid hs.1 _ x hs.2.1 b off hs.2.2 _ _ hr Tryz.underlying41 rfl (by kernel_rfl) hk
theorem stillY {Q' : Act → Prop} (hr : w.rangeAt b off (yenc u)) (hs : o.guard = none ∧ o.op = .load 41 x ∧ a.eval x = .pointer (some ⟨b, off, none⟩))
    (hk : wpStill Tryz.prog ops w Q' rest (a.put o.dst (Yv u))) : wpStill Tryz.prog ops w Q' (o :: rest) a :=
  still_load hs.1 _ x hs.2.1 b off hs.2.2 _ _ hr Tryz.underlying41 rfl (by kernel_rfl) hk
theorem storeY (ht : w.there b off 2) (hs : o.guard = none ∧ o.op = .store 41 x y ∧ a.eval x = .pointer (some ⟨b, off, none⟩) ∧ a.eval y = Yv u)
    (hk : wpList Tryz.prog ops Q rest (a.put o.dst undef) (w.setCells b off (yenc u))) : wpList Tryz.prog ops Q (o :: rest) a w :=
  wpList_store_mid hs.1 _ x y hs.2.1 b off (yenc u).toArray hs.2.2.1 hs.2.2.2 ht (by kernel_rfl) (all_oneCell_toArray (yenc_one u)) hk
/-- clear. -/
theorem run_clearY (w : World) (ty : TypeId) (b o n c : Nat) (hn : 0 < n) (hT : ∀ i, i < n → w.there b (o + i * 2) 2) :
    (Builtin.clear_ #[38] ty #[.slice (some ⟨b, o, none⟩) n c]).run Tryz.prog w = .ok (.tuple #[]) (w.setCells b o ((List.replicate n y0).flatMap yenc)) := by
  have hv : ∀ w, (zeroValue 41).run Tryz.prog w = .ok (.agg #[.string ByteArray.empty, .string ByteArray.empty]) w := fun w => by kernel_rfl
  have hlen : ((List.replicate n y0).flatMap yenc).length = n * 2 := by rw [flatG_len yenc_len, List.length_replicate]
  have ht : ∀ j, j < n * 2 → (w.cell? ⟨b, o + j, none⟩).isSome = true ∧ w.frozen? ⟨b, o + j, none⟩ = false := fun j hj => by
    have := hT (j / 2) (by omega) (j % 2) (by omega)
    rwa [show o + j / 2 * 2 + j % 2 = o + j by omega] at this
  have hst := run_storeCells_cells (P := Tryz.prog) b o ((List.replicate n y0).flatMap yenc) 0 w (fun j hj => (ht j (by rwa [hlen] at hj)).1) (fun j hj => (ht j (by rwa [hlen] at hj)).2) (by
    intro v hv'
    obtain ⟨x, _, hx⟩ := List.mem_flatMap.1 hv'
    exact yenc_one x v hx)
  simp only [Nat.add_zero] at hst
  have hz : (Builtin.zeroCells #[.string ByteArray.empty, .string ByteArray.empty] n).toList = (List.replicate n y0).flatMap yenc := zeroCellsG yenc_len (by decide) y0 n
  obtain ⟨m, rfl⟩ : ∃ m, n = m + 1 := ⟨n - 1, by omega⟩
  simp only [Builtin.clear_]
  simp only [List.size_toArray, List.length_cons, List.length_nil, getElem?_pos, List.getElem_toArray, List.getElem_cons_zero, Nat.zero_add, Nat.lt_add_one, Sem.run_bind, run_underlying Tryz.underlying38, Result.andThen_ok, hv, Value.cells, hz, hst, Sem.run_pure]
end
set_option maxHeartbeats 4000000 in
set_option maxRecDepth 1000000 in
theorem compactY_any  {w : World} {blk cap : Nat} {pv : Value} (d : Array (Yl)) (hs : CSt yenc 2 w blk d w) (hsz : d.size ≤ 900000) (hcap : d.size ≤ cap)
    (heq : ∀ (x y : Yl) (W : World), w.grownBy W (some blk) → Calls Tryz.prog 48 #[Yv x, Yv y, pv] W fun e w' => e = .returned (.bool (decide (ykey x = ykey y))) ∧ Below W.heap.size W w') :
    Calls Tryz.prog 47 #[.slice (some ⟨blk, 0, none⟩) d.size cap, .func (.func 48) #[] #[pv]] w fun e w' => e = .returned (.slice (some ⟨blk, 0, none⟩) (kpS ykey d d.size).length cap) ∧ w.grownBy w' (some blk) ∧ ∃ d' : Array (Yl), HoldsK yenc 2 w' blk 0 d' ∧ d'.size = d.size ∧ ∀ j, j < (kpS ykey d d.size).length → (kpS ykey d d.size)[j]? = some d'[j]! := by
  have HEQ := Lib.hid heq
  have HS := Lib.hid hs
  have HSZ := Lib.hid hsz
  have HCP := Lib.hid hcap
  clear heq hs
  by_cases h2 : d.size < 2
  · have HA := Lib.hid (kpS_all (key := ykey) (d := d) (m := d.size) (fun j h0 hj => by omega))
    go_enter Tryz.func47, Tryz.ntmps47
    go_wp2_with fail
    go_ret
    exact ⟨by rw [HA.out.1]; rfl, HS.out.1, d, HS.out.2.1, rfl, fun j hj => HA.out.2 j (by rw [HA.out.1] at hj; exact hj)⟩
  · go_enter Tryz.func47, Tryz.ntmps47
    go_wp2_with fail
    go_loopg [5] d.size (fun g s5 wr => ∃ k : Nat, 1 ≤ k ∧ k ≤ d.size ∧ d.size - k ≤ g ∧ s5 = .int .i64 k ∧ CSt yenc 2 w blk d wr ∧ ∀ j, 0 < j → j < k → ykey d[j]! ≠ ykey d[j - 1]!)
    case atStart => exact ⟨1, Nat.le_refl _, by omega, by omega, rfl, HS.out, fun j h0 hj => by omega⟩
    case round =>
      obtain ⟨k, hk1, hk, hg, rfl, hc, hall⟩ := hrel
      have HC := Lib.hid hc
      have A := Lib.hid hall
      clear hc hall
      by_cases hlt : k < d.size
      · have HW : Hid (IntKind.i64.wrap ((k : Int) - 1) = ((k - 1 : Nat) : Int)) := by show _ = _; rw [IntKind.wrap_i64]; omega
        have hk1' : k - 1 < d.size := by omega
        have c1 := Lib.hid (HC.out.drew.range yenc_len hlt)
        have c0 := Lib.hid (HC.out.drew.range yenc_len (i := k - 1) (by omega))
        have HC2 := Lib.hid HC.out.drew
        generalize hx : d[k]! = x at c1
        generalize hy : d[k - 1]! = y at c0
        have B := Lib.hid (And.intro hx hy)
        clear hx hy HC
        go_wp2_with fail
        refine region_tail 10 (by kernel_rfl) (by kernel_rfl) ?_
        simp only [List.take_succ_cons, List.take_zero, List.drop_succ_cons, List.drop_zero]
        repeat first
          | still_step
          | (rw [HW.out]; still_step)
          | ((with_reducible refine stillY (x := .tmp 21) (o := ⟨some 22, _, _, _, _, _⟩) c1.out ?_ ?_); exact ⟨rfl, rfl, by go_simp⟩)
          | ((with_reducible refine stillY (x := .tmp 26) (o := ⟨some 27, _, _, _, _, _⟩) c0.out ?_ ?_); exact ⟨rfl, rfl, by go_simp⟩)
        refine wpStill_nil ?_
        clear c0 c1
        generalize wr.drew = w2 at HC2 ⊢
        have HQ := Lib.hid (HEQ.out x y w2 HC2.out.1)
        go_wp2_with fail
        refine HQ.out.mono ?_
        rintro e w3 ⟨rfl, b3⟩
        have HC3 := Lib.hid (HC2.out.below b3)
        clear b3 HQ HC2
        by_cases hdup : ykey x = ykey y
        · rw [decide_eq_true hdup]
          have KS : Hid (KI ykey d (k + 1) k d) := KI.start (by omega) A.out (by rw [B.out.1, B.out.2]; exact hdup)
          clear hdup
          go_wp2_with fail
          go_loopg [5, 7] d.size (fun g s5 s7 wr => ∃ (kk k2 : Nat) (dk : Array (Yl)), s5 = .int .i64 kk ∧ s7 = .int .i64 k2 ∧ 1 ≤ k2 ∧ k + k2 ≤ d.size ∧ d.size - (k + k2) ≤ g ∧ CSt yenc 2 w blk dk wr ∧ KI ykey d (k + k2) kk dk)
          case atStart => exact ⟨k, 1, d, rfl, rfl, Nat.le_refl _, by omega, by omega, HC3.out, KS.out⟩
          case round =>
            obtain ⟨kk, k2, dk, rfl, rfl, h1, hle, hg2, hc, hI⟩ := hrel
            have hkk := hI.lt
            have hds := hI.size
            have HC := Lib.hid hc
            have I2 := Lib.hid hI
            clear hc HC3 KS
            by_cases hlt2 : k + k2 < d.size
            · have cm := Lib.hid (HC.out.drew.range yenc_len (i := k + k2) (by omega))
              have cp := Lib.hid (HC.out.drew.range yenc_len (i := k + k2 - 1) (by omega))
              have hk2' : k2 - 1 < d.size - k := by omega
              have HW2 : Hid (IntKind.i64.wrap ((k2 : Int) - 1) = ((k2 - 1 : Nat) : Int)) := by show _ = _; rw [IntKind.wrap_i64]; omega
              rw [hI.high (k + k2) (by omega), show (k + k2) * 2 = k * 2 + k2 * 2 by omega] at cm
              rw [hI.high (k + k2 - 1) (by omega), show (k + k2 - 1) * 2 = k * 2 + (k2 - 1) * 2 by omega] at cp
              have HC2 := Lib.hid HC.out.drew
              have HIH := Lib.hid (hI.high (k + k2) (by omega))
              clear hI HC
              generalize hu : d[k + k2]! = u at cm HIH
              generalize hv : d[k + k2 - 1]! = v at cp
              have C := Lib.hid (And.intro hu hv)
              clear hu hv
              go_wp2_with fail
              refine region_tail 10 (by kernel_rfl) (by kernel_rfl) ?_
              simp only [List.take_succ_cons, List.take_zero, List.drop_succ_cons, List.drop_zero]
              repeat first
                | still_step
                | (rw [HW2.out]; still_step)
                | ((with_reducible refine stillY (x := .tmp 41) (o := ⟨some 42, _, _, _, _, _⟩) cm.out ?_ ?_); exact ⟨rfl, rfl, by go_simp⟩)
                | ((with_reducible refine stillY (x := .tmp 46) (o := ⟨some 47, _, _, _, _, _⟩) cp.out ?_ ?_); exact ⟨rfl, rfl, by go_simp⟩)
              refine wpStill_nil ?_
              clear cp cm
              generalize wr.drew = w4 at HC2 ⊢
              have HQ := Lib.hid (HEQ.out u v w4 HC2.out.1)
              go_wp2_with fail
              refine HQ.out.mono ?_
              rintro e w5 ⟨rfl, b5⟩
              have HC5 := Lib.hid (HC2.out.below b5)
              clear b5 HQ HC2
              by_cases huv : ykey u = ykey v
              · rw [decide_eq_true huv]
                have HK : Hid (KI ykey d (k + k2 + 1) kk dk) := I2.out.skip (by rw [C.out.1, C.out.2, huv])
                clear huv
                go_wp2_with fail
                go_roundg (d.size - (k + (k2 + 1)))
                case measure => omega
                case rel => exact ⟨kk, k2 + 1, dk, rfl, by go_num, by omega, by omega, Nat.le_refl _, HC5.out, HK.out⟩
              · rw [decide_eq_false huv]
                have HK : Hid (KI ykey d (k + k2 + 1) (kk + 1) (dk.setIfInBounds kk u)) := by
                  have := I2.out.keep hlt2 (by rw [C.out.1, C.out.2]; exact huv)
                  rwa [C.out.1] at this
                have cm := Lib.hid (HC5.out.range yenc_len (i := k + k2) (by omega))
                rw [HIH.out, show (k + k2) * 2 = k * 2 + k2 * 2 by omega] at cm
                have ck := Lib.hid (HC5.out.there (i := kk) (by omega))
                have HC6 := Lib.hid (HC5.out.put yenc_len (by decide) (i := kk) (by omega) u)
                have hkd : kk < d.size := by omega
                clear huv HC5
                go_wp2_with (first
                  | ((with_reducible refine loadY (x := .tmp 54) (o := ⟨some 55, _, _, _, _, _⟩) cm.out ?_ ?_); exact ⟨rfl, rfl, by go_simp⟩)
                  | ((with_reducible refine storeY (x := .tmp 56) (y := .tmp 55) (u := u) (o := ⟨none, .store _ _ _, _, _, _, _⟩) ck.out ?_ ?_); exact ⟨rfl, rfl, by go_simp, rfl⟩))
                go_roundg (d.size - (k + (k2 + 1)))
                case measure => omega
                case rel => exact ⟨kk + 1, k2 + 1, dk.setIfInBounds kk u, by go_num, by go_num, by omega, by omega, Nat.le_refl _, HC6.out, HK.out⟩
            · have hend : k + k2 = d.size := by omega
              have hcl : ∀ ty, (Builtin.clear_ #[38] ty #[.slice (some ⟨blk, kk * 2, none⟩) (d.size - kk) (cap - kk)]).run Tryz.prog wr = .ok (.tuple #[]) (wr.setCells blk (kk * 2) ((List.replicate (d.size - kk) y0).flatMap yenc)) :=
                fun ty => run_clearY wr ty blk (kk * 2) (d.size - kk) _ (by omega) (fun i hi => by
                  have := HC.out.there (i := kk + i) (by omega)
                  rwa [show (kk + i) * 2 = kk * 2 + i * 2 by omega] at this)
              obtain ⟨d', g1, g2, g3⟩ := putsG yenc_len (by decide) (List.replicate (d.size - kk) y0) dk kk wr HC.out.2.1 (by simp; omega)
              rw [Nat.zero_add] at g1
              have G1 := Lib.hid g1
              have G2 := Lib.hid (g2.trans hds)
              have G3 := Lib.hid g3
              have HGR : Hid (w.grownBy (wr.setCells blk (kk * 2) ((List.replicate (d.size - kk) y0).flatMap yenc)) (some blk)) := grown_tr HC.out.1 (grown_cells blk _ _ _)
              clear g1 g2 g3 hI HC
              go_wp2_with fail
              go_ret
              have hI := I2.out
              rw [hend] at hI
              exact ⟨by rw [hI.len]; rfl, HGR.out, d', G1.out, G2.out, fun j hj => by rw [hI.len] at hj; rw [G3.out j hj]; exact hI.low j hj⟩
        · rw [decide_eq_false hdup]
          have A2 : Hid (∀ j, 0 < j → j < k + 1 → ykey d[j]! ≠ ykey d[j - 1]!) := fun j h0 hj => by
            by_cases e : j = k
            · subst e
              rw [B.out.1, B.out.2]; exact hdup
            · exact A.out j h0 (by omega)
          clear hdup
          go_wp2_with fail
          go_roundg (d.size - (k + 1))
          case measure => omega
          case rel => exact ⟨k + 1, by omega, by omega, Nat.le_refl _, by go_num, HC3.out, A2.out⟩
      · have HA := Lib.hid (kpS_all (key := ykey) (d := d) (m := d.size) (fun j h0 hj => A.out j h0 (by omega)))
        go_wp2_with fail
        go_ret
        exact ⟨by rw [HA.out.1]; rfl, HC.out.1, d, HC.out.2.1, rfl, fun j hj => HA.out.2 j (by rw [HA.out.1] at hj; exact hj)⟩
end Go.Proofs.YtdnmgemjhpkekaaGreat
