/-
  slices.CompactFunc with the closure of canon.ordered (expressions).
-/
import Derived.Test.YtdnmgemjhpkekaaGreatCnD
namespace Go.Proofs.YtdnmgemjhpkekaaGreat
open Go.ChangeShapes Go.WideShapes Go.ChangeAt Go.RowKit Go.Lib Go.Sort
set_option linter.unusedVariables false

theorem zeroCellsG {α : Type} [Inhabited α] {enc : α → List Value} {k : Nat} (hk : ∀ x, (enc x).length = k) (hpos : 0 < k) (z : α) (n : Nat) : (Builtin.zeroCells (enc z).toArray n).toList = (List.replicate n z).flatMap enc := by
  apply List.ext_getElem?
  intro t
  rw [flat_getG hk hpos, Array.getElem?_toList]
  unfold Builtin.zeroCells
  rw [Array.getElem?_map]
  have hs : (enc z).toArray.size = k := by simp [hk]
  rw [hs]
  by_cases h : t < n * k
  · have h6 : t / k < n := Nat.div_lt_of_lt_mul (by rw [Nat.mul_comm]; exact h)
    have hm : t % k < (enc z).length := by rw [hk]; exact Nat.mod_lt _ hpos
    rw [Array.getElem?_eq_getElem (by simpa using h), List.getElem?_replicate, if_pos h6, Option.bind_some, List.getElem?_eq_getElem hm, Option.map_some, Array.getElem_range]
    simp [hm]
  · have h6 : ¬ t / k < n := fun e => h (by have := (Nat.div_lt_iff_lt_mul hpos).1 e; omega)
    rw [Array.getElem?_eq_none (by simpa using h), List.getElem?_replicate, if_neg h6]; rfl
/-- The row in the block blk holds dk; what else there was is as it was. -/
def CSt {α : Type} [Inhabited α] (enc : α → List Value) (k : Nat) (w : World) (blk : Nat) (dk : Array α) (wr : World) : Prop := w.grownBy wr (some blk) ∧ HoldsK enc k wr blk 0 dk ∧ blk < w.heap.size
section
variable {α : Type} [Inhabited α] {enc : α → List Value} {k : Nat} {w wr w' : World} {blk : Nat} {dk : Array α}
theorem CSt.below (h : CSt enc k w blk dk wr) (hb : Below wr.heap.size wr w') : CSt enc k w blk dk w' := ⟨grown_below h.1 hb, holdsK_below h.2.1 (Nat.lt_of_lt_of_le h.2.2 h.1.size) hb, h.2.2⟩
theorem CSt.drew (h : CSt enc k w blk dk wr) : CSt enc k w blk dk wr.drew := h.below (Below.refl _ _).drew
theorem CSt.put (hk : ∀ x, (enc x).length = k) (hpos : 0 < k) (h : CSt enc k w blk dk wr) {i : Nat} (hi : i < dk.size) (x : α) : CSt enc k w blk (dk.setIfInBounds i x) (wr.setCells blk (i * k) (enc x)) := by
  have h2 := putG hk hpos h.2.1 hi x
  rw [Nat.zero_add] at h2
  exact ⟨grown_tr h.1 (grown_cells blk _ _ _), h2, h.2.2⟩
theorem CSt.range (hk : ∀ x, (enc x).length = k) (h : CSt enc k w blk dk wr) {i : Nat} (hi : i < dk.size) : wr.rangeAt blk (i * k) (enc dk[i]!) := by
  have h2 := rangeG hk h.2.1 hi
  rwa [Nat.zero_add] at h2
theorem CSt.there (h : CSt enc k w blk dk wr) {i : Nat} (hi : i < dk.size) : wr.there blk (i * k) k := by
  have h2 := thereG h.2.1 hi
  rwa [Nat.zero_add] at h2
end
def Xv {P : Nat → Prop} {w0 : World} (u : Xs P w0) : Value := .agg (xenc u).toArray
section
variable {P : Nat → Prop} {w0 : World} {ops : Array Oper} {rest : List Oper} {o : Oper} {a : Act} {Q : Exit → Act → World → Prop} {w : World} {b off : Nat} {x y : Operand} {u v : Xs P w0}
theorem loadX (hr : w.rangeAt b off (xenc u)) (hs : o.guard = none ∧ o.op = .load 24 x ∧ a.eval x = .pointer (some ⟨b, off, none⟩))
    (hk : wpList Tryz.prog ops Q rest (a.put o.dst (Xv u)) w) : wpList Tryz.prog ops Q (o :: rest) a w :=
  wpList_load_mid hs.1 _ x hs.2.1 b off hs.2.2 _ _ hr Tryz.underlying24 rfl (by kernel_rfl) hk
theorem stillX {Q' : Act → Prop} (hr : w.rangeAt b off (xenc u)) (hs : o.guard = none ∧ o.op = .load 24 x ∧ a.eval x = .pointer (some ⟨b, off, none⟩))
    (hk : wpStill Tryz.prog ops w Q' rest (a.put o.dst (Xv u))) : wpStill Tryz.prog ops w Q' (o :: rest) a :=
  still_load hs.1 _ x hs.2.1 b off hs.2.2 _ _ hr Tryz.underlying24 rfl (by kernel_rfl) hk
theorem storeX (ht : w.there b off 4) (hs : o.guard = none ∧ o.op = .store 24 x y ∧ a.eval x = .pointer (some ⟨b, off, none⟩) ∧ a.eval y = Xv u)
    (hk : wpList Tryz.prog ops Q rest (a.put o.dst undef) (w.setCells b off (xenc u))) : wpList Tryz.prog ops Q (o :: rest) a w :=
  wpList_store_mid hs.1 _ x y hs.2.1 b off (xenc u).toArray hs.2.2.1 hs.2.2.2 ht (by kernel_rfl) (all_oneCell_toArray (xenc_one u)) hk
/-- clear. -/
theorem run_clearX (w : World) (ty : TypeId) (b o n c : Nat) (hn : 0 < n) (hT : ∀ i, i < n → w.there b (o + i * 4) 4) :
    (Builtin.clear_ #[22] ty #[.slice (some ⟨b, o, none⟩) n c]).run Tryz.prog w = .ok (.tuple #[]) (w.setCells b o ((List.replicate n (x0 P w0)).flatMap xenc)) := by
  have hv : ∀ w, (zeroValue 24).run Tryz.prog w = .ok (.agg #[.int .i64 0, .string ByteArray.empty, .string ByteArray.empty, .slice none 0 0]) w := fun w => by kernel_rfl
  have hlen : ((List.replicate n (x0 P w0)).flatMap xenc).length = n * 4 := by rw [flatG_len xenc_len, List.length_replicate]
  have ht : ∀ j, j < n * 4 → (w.cell? ⟨b, o + j, none⟩).isSome = true ∧ w.frozen? ⟨b, o + j, none⟩ = false := fun j hj => by
    have := hT (j / 4) (by omega) (j % 4) (by omega)
    rwa [show o + j / 4 * 4 + j % 4 = o + j by omega] at this
  have hst := run_storeCells_cells (P := Tryz.prog) b o ((List.replicate n (x0 P w0)).flatMap xenc) 0 w (fun j hj => (ht j (by rwa [hlen] at hj)).1) (fun j hj => (ht j (by rwa [hlen] at hj)).2) (by
    intro v hv'
    obtain ⟨x, _, hx⟩ := List.mem_flatMap.1 hv'
    exact xenc_one x v hx)
  simp only [Nat.add_zero] at hst
  have hz : (Builtin.zeroCells #[.int .i64 0, .string ByteArray.empty, .string ByteArray.empty, .slice none 0 0] n).toList = (List.replicate n (x0 P w0)).flatMap xenc := zeroCellsG xenc_len (by decide) (x0 P w0) n
  obtain ⟨m, rfl⟩ : ∃ m, n = m + 1 := ⟨n - 1, by omega⟩
  simp only [Builtin.clear_]
  simp only [List.size_toArray, List.length_cons, List.length_nil, getElem?_pos, List.getElem_toArray, List.getElem_cons_zero, Nat.zero_add, Nat.lt_add_one, Sem.run_bind, run_underlying Tryz.underlying22, Result.andThen_ok, hv, Value.cells, hz, hst, Sem.run_pure]
end
set_option maxHeartbeats 4000000 in
set_option maxRecDepth 1000000 in
theorem compactX_any {P : Nat → Prop} {w0 : World} {w : World} {blk cap : Nat} {pv : Value} (d : Array (Xs P w0)) (hs : CSt xenc 4 w blk d w) (hsz : d.size ≤ 900000) (hcap : d.size ≤ cap)
    (heq : ∀ (x y : Xs P w0) (W : World), w.grownBy W (some blk) → Calls Tryz.prog 56 #[Xv x, Xv y, pv] W fun e w' => e = .returned (.bool (decide (xkey x = xkey y))) ∧ Below W.heap.size W w') :
    Calls Tryz.prog 55 #[.slice (some ⟨blk, 0, none⟩) d.size cap, .func (.func 56) #[] #[pv]] w fun e w' => e = .returned (.slice (some ⟨blk, 0, none⟩) (kpS xkey d d.size).length cap) ∧ w.grownBy w' (some blk) ∧ ∃ d' : Array (Xs P w0), HoldsK xenc 4 w' blk 0 d' ∧ d'.size = d.size ∧ ∀ j, j < (kpS xkey d d.size).length → (kpS xkey d d.size)[j]? = some d'[j]! := by
  have HEQ := Lib.hid heq
  have HS := Lib.hid hs
  have HSZ := Lib.hid hsz
  have HCP := Lib.hid hcap
  clear heq hs
  by_cases h2 : d.size < 2
  · have HA := Lib.hid (kpS_all (key := xkey) (d := d) (m := d.size) (fun j h0 hj => by omega))
    go_enter Tryz.func55, Tryz.ntmps55
    go_wp2_with fail
    go_ret
    exact ⟨by rw [HA.out.1]; rfl, HS.out.1, d, HS.out.2.1, rfl, fun j hj => HA.out.2 j (by rw [HA.out.1] at hj; exact hj)⟩
  · go_enter Tryz.func55, Tryz.ntmps55
    go_wp2_with fail
    go_loopg [5] d.size (fun g s5 wr => ∃ k : Nat, 1 ≤ k ∧ k ≤ d.size ∧ d.size - k ≤ g ∧ s5 = .int .i64 k ∧ CSt xenc 4 w blk d wr ∧ ∀ j, 0 < j → j < k → xkey d[j]! ≠ xkey d[j - 1]!)
    case atStart => exact ⟨1, Nat.le_refl _, by omega, by omega, rfl, HS.out, fun j h0 hj => by omega⟩
    case round =>
      obtain ⟨k, hk1, hk, hg, rfl, hc, hall⟩ := hrel
      have HC := Lib.hid hc
      have A := Lib.hid hall
      clear hc hall
      by_cases hlt : k < d.size
      · have HW : Hid (IntKind.i64.wrap ((k : Int) - 1) = ((k - 1 : Nat) : Int)) := by show _ = _; rw [IntKind.wrap_i64]; omega
        have hk1' : k - 1 < d.size := by omega
        have c1 := Lib.hid (HC.out.drew.range xenc_len hlt)
        have c0 := Lib.hid (HC.out.drew.range xenc_len (i := k - 1) (by omega))
        have HC2 := Lib.hid HC.out.drew
        generalize hx : d[k]! = x at c1
        generalize hy : d[k - 1]! = y at c0
        have B := Lib.hid (And.intro hx hy)
        clear hx hy HC
        go_wp2_with fail
        refine region_tail 10 (by kernel_rfl) (by kernel_rfl) ?_
        simp only [List.take_succ_cons, List.take_zero, List.drop_succ_cons, List.drop_zero]
        repeat first
          | still_step
          | (rw [HW.out]; still_step)
          | ((with_reducible refine stillX (x := .tmp 21) (o := ⟨some 22, _, _, _, _, _⟩) c1.out ?_ ?_); exact ⟨rfl, rfl, by go_simp⟩)
          | ((with_reducible refine stillX (x := .tmp 26) (o := ⟨some 27, _, _, _, _, _⟩) c0.out ?_ ?_); exact ⟨rfl, rfl, by go_simp⟩)
        refine wpStill_nil ?_
        clear c0 c1
        generalize wr.drew = w2 at HC2 ⊢
        have HQ := Lib.hid (HEQ.out x y w2 HC2.out.1)
        go_wp2_with fail
        refine HQ.out.mono ?_
        rintro e w3 ⟨rfl, b3⟩
        have HC3 := Lib.hid (HC2.out.below b3)
        clear b3 HQ HC2
        by_cases hdup : xkey x = xkey y
        · rw [decide_eq_true hdup]
          have KS : Hid (KI xkey d (k + 1) k d) := KI.start (by omega) A.out (by rw [B.out.1, B.out.2]; exact hdup)
          clear hdup
          go_wp2_with fail
          go_loopg [5, 7] d.size (fun g s5 s7 wr => ∃ (kk k2 : Nat) (dk : Array (Xs P w0)), s5 = .int .i64 kk ∧ s7 = .int .i64 k2 ∧ 1 ≤ k2 ∧ k + k2 ≤ d.size ∧ d.size - (k + k2) ≤ g ∧ CSt xenc 4 w blk dk wr ∧ KI xkey d (k + k2) kk dk)
          case atStart => exact ⟨k, 1, d, rfl, rfl, Nat.le_refl _, by omega, by omega, HC3.out, KS.out⟩
          case round =>
            obtain ⟨kk, k2, dk, rfl, rfl, h1, hle, hg2, hc, hI⟩ := hrel
            have hkk := hI.lt
            have hds := hI.size
            have HC := Lib.hid hc
            have I2 := Lib.hid hI
            clear hc HC3 KS
            by_cases hlt2 : k + k2 < d.size
            · have cm := Lib.hid (HC.out.drew.range xenc_len (i := k + k2) (by omega))
              have cp := Lib.hid (HC.out.drew.range xenc_len (i := k + k2 - 1) (by omega))
              have hk2' : k2 - 1 < d.size - k := by omega
              have HW2 : Hid (IntKind.i64.wrap ((k2 : Int) - 1) = ((k2 - 1 : Nat) : Int)) := by show _ = _; rw [IntKind.wrap_i64]; omega
              rw [hI.high (k + k2) (by omega), show (k + k2) * 4 = k * 4 + k2 * 4 by omega] at cm
              rw [hI.high (k + k2 - 1) (by omega), show (k + k2 - 1) * 4 = k * 4 + (k2 - 1) * 4 by omega] at cp
              have HC2 := Lib.hid HC.out.drew
              have HIH := Lib.hid (hI.high (k + k2) (by omega))
              clear hI HC
              generalize hu : d[k + k2]! = u at cm HIH
              generalize hv : d[k + k2 - 1]! = v at cp
              have C := Lib.hid (And.intro hu hv)
              clear hu hv
              go_wp2_with fail
              refine region_tail 10 (by kernel_rfl) (by kernel_rfl) ?_
              simp only [List.take_succ_cons, List.take_zero, List.drop_succ_cons, List.drop_zero]
              repeat first
                | still_step
                | (rw [HW2.out]; still_step)
                | ((with_reducible refine stillX (x := .tmp 41) (o := ⟨some 42, _, _, _, _, _⟩) cm.out ?_ ?_); exact ⟨rfl, rfl, by go_simp⟩)
                | ((with_reducible refine stillX (x := .tmp 46) (o := ⟨some 47, _, _, _, _, _⟩) cp.out ?_ ?_); exact ⟨rfl, rfl, by go_simp⟩)
              refine wpStill_nil ?_
              clear cp cm
              generalize wr.drew = w4 at HC2 ⊢
              have HQ := Lib.hid (HEQ.out u v w4 HC2.out.1)
              go_wp2_with fail
              refine HQ.out.mono ?_
              rintro e w5 ⟨rfl, b5⟩
              have HC5 := Lib.hid (HC2.out.below b5)
              clear b5 HQ HC2
              by_cases huv : xkey u = xkey v
              · rw [decide_eq_true huv]
                have HK : Hid (KI xkey d (k + k2 + 1) kk dk) := I2.out.skip (by rw [C.out.1, C.out.2, huv])
                clear huv
                go_wp2_with fail
                go_roundg (d.size - (k + (k2 + 1)))
                case measure => omega
                case rel => exact ⟨kk, k2 + 1, dk, rfl, by go_num, by omega, by omega, Nat.le_refl _, HC5.out, HK.out⟩
              · rw [decide_eq_false huv]
                have HK : Hid (KI xkey d (k + k2 + 1) (kk + 1) (dk.setIfInBounds kk u)) := by
                  have := I2.out.keep hlt2 (by rw [C.out.1, C.out.2]; exact huv)
                  rwa [C.out.1] at this
                have cm := Lib.hid (HC5.out.range xenc_len (i := k + k2) (by omega))
                rw [HIH.out, show (k + k2) * 4 = k * 4 + k2 * 4 by omega] at cm
                have ck := Lib.hid (HC5.out.there (i := kk) (by omega))
                have HC6 := Lib.hid (HC5.out.put xenc_len (by decide) (i := kk) (by omega) u)
                have hkd : kk < d.size := by omega
                clear huv HC5
                go_wp2_with (first
                  | ((with_reducible refine loadX (x := .tmp 54) (o := ⟨some 55, _, _, _, _, _⟩) cm.out ?_ ?_); exact ⟨rfl, rfl, by go_simp⟩)
                  | ((with_reducible refine storeX (x := .tmp 56) (y := .tmp 55) (u := u) (o := ⟨none, .store _ _ _, _, _, _, _⟩) ck.out ?_ ?_); exact ⟨rfl, rfl, by go_simp, rfl⟩))
                go_roundg (d.size - (k + (k2 + 1)))
                case measure => omega
                case rel => exact ⟨kk + 1, k2 + 1, dk.setIfInBounds kk u, by go_num, by go_num, by omega, by omega, Nat.le_refl _, HC6.out, HK.out⟩
            · have hend : k + k2 = d.size := by omega
              have hcl : ∀ ty, (Builtin.clear_ #[22] ty #[.slice (some ⟨blk, kk * 4, none⟩) (d.size - kk) (cap - kk)]).run Tryz.prog wr = .ok (.tuple #[]) (wr.setCells blk (kk * 4) ((List.replicate (d.size - kk) (x0 P w0)).flatMap xenc)) :=
                fun ty => run_clearX wr ty blk (kk * 4) (d.size - kk) _ (by omega) (fun i hi => by
                  have := HC.out.there (i := kk + i) (by omega)
                  rwa [show (kk + i) * 4 = kk * 4 + i * 4 by omega] at this)
              obtain ⟨d', g1, g2, g3⟩ := putsG xenc_len (by decide) (List.replicate (d.size - kk) (x0 P w0)) dk kk wr HC.out.2.1 (by simp; omega)
              rw [Nat.zero_add] at g1
              have G1 := Lib.hid g1
              have G2 := Lib.hid (g2.trans hds)
              have G3 := Lib.hid g3
              have HGR : Hid (w.grownBy (wr.setCells blk (kk * 4) ((List.replicate (d.size - kk) (x0 P w0)).flatMap xenc)) (some blk)) := grown_tr HC.out.1 (grown_cells blk _ _ _)
              clear g1 g2 g3 hI HC
              go_wp2_with fail
              go_ret
              have hI := I2.out
              rw [hend] at hI
              exact ⟨by rw [hI.len]; rfl, HGR.out, d', G1.out, G2.out, fun j hj => by rw [hI.len] at hj; rw [G3.out j hj]; exact hI.low j hj⟩
        · rw [decide_eq_false hdup]
          have A2 : Hid (∀ j, 0 < j → j < k + 1 → xkey d[j]! ≠ xkey d[j - 1]!) := fun j h0 hj => by
            by_cases e : j = k
            · subst e
              rw [B.out.1, B.out.2]; exact hdup
            · exact A.out j h0 (by omega)
          clear hdup
          go_wp2_with fail
          go_roundg (d.size - (k + 1))
          case measure => omega
          case rel => exact ⟨k + 1, by omega, by omega, Nat.le_refl _, by go_num, HC3.out, A2.out⟩
      · have HA := Lib.hid (kpS_all (key := xkey) (d := d) (m := d.size) (fun j h0 hj => A.out j h0 (by omega)))
        go_wp2_with fail
        go_ret
        exact ⟨by rw [HA.out.1]; rfl, HC.out.1, d, HC.out.2.1, rfl, fun j hj => HA.out.2 j (by rw [HA.out.1] at hj; exact hj)⟩
end Go.Proofs.YtdnmgemjhpkekaaGreat
