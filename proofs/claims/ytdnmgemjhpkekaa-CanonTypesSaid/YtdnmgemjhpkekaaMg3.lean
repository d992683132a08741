/-
  The reference's Types; slices.Equal at allowed types.
-/
import Derived.Test.YtdnmgemjhpkekaaMg2
import Derived.Laws.AppendOwnNone
namespace Go.Proofs.Ytdnmgemjhpkekaa
open Go.ChangeShapes Go.WideShapes Go.ChangeAt Go.RowKit Go.Lib Go.Sort
set_option linter.unusedVariables false
set_option linter.unusedSectionVars false
set_option linter.unusedSimpArgs false

set_option maxRecDepth 100000 in
set_option maxHeartbeats 2000000 in
theorem equalY_any {l : List Yl} {v1 v2 : Value} {w : World} (h1 : RdS yenc w v1 l) (h2 : RdS yenc w v2 l) (hl : l.length ≤ 100000) :
    Calls Try.prog 6 #[v1, v2] w fun e w' => e = .returned (.bool true) ∧ Below w.heap.size w w' := by
  obtain ⟨q1, c1, rfl, g1⟩ := h1.form yenc_len (by decide)
  obtain ⟨q2, c2, rfl, g2⟩ := h2.form yenc_len (by decide)
  have H1 := Lib.hid g1
  have H2 := Lib.hid g2
  have hz : (l.length : Int) ≤ 100000 := by omega
  clear h1 h2 g1 g2 hl
  go_enter Try.func6, Try.ntmps6
  go_wp2_with fail
  go_loopw [13] (fun iv wr => ∃ i : Nat, i ≤ l.length ∧ iv = .int .i64 i ∧ Hid (Below w.heap.size w wr)) (fun iv _ => l.length - (intOf iv).toNat)
  case atStart => exact ⟨0, Nat.zero_le _, rfl, Below.refl _ _⟩
  case round =>
    obtain ⟨i, hi, rfl, HB⟩ := hrel
    have hi0 : (0 : Int) ≤ i := by omega
    by_cases hlt : i < l.length
    · have hi1 : (i : Int) < l.length := by omega
      obtain ⟨b, o, rfl, hb, hx⟩ := H1.out i hlt
      obtain ⟨b2, o2, rfl, hb2, hy⟩ := H2.out i hlt
      obtain ⟨⟨t0, t1⟩, ht⟩ : ∃ t, t = l[i] := ⟨_, rfl⟩
      rw [← ht] at hx hy
      have x0 : w.cell? ⟨b, o + i * 2, none⟩ = some (.string t0) := hx 0 _ rfl
      have x1 : w.cell? ⟨b, o + i * 2 + 1, none⟩ = some (.string t1) := hx 1 _ rfl
      have y0 : w.cell? ⟨b2, o2 + i * 2, none⟩ = some (.string t0) := hy 0 _ rfl
      have y1 : w.cell? ⟨b2, o2 + i * 2 + 1, none⟩ = some (.string t1) := hy 1 _ rfl
      clear hx hy ht
      have HCL : Hid (wr.cell? ⟨b, o + i * 2, none⟩ = some (.string t0) ∧ wr.cell? ⟨b, o + i * 2 + 1, none⟩ = some (.string t1) ∧ wr.cell? ⟨b2, o2 + i * 2, none⟩ = some (.string t0) ∧ wr.cell? ⟨b2, o2 + i * 2 + 1, none⟩ = some (.string t1)) :=
        ⟨(HB.out.cell (p := ⟨b, _, none⟩) hb).trans x0, (HB.out.cell (p := ⟨b, _, none⟩) hb).trans x1, (HB.out.cell (p := ⟨b2, _, none⟩) hb2).trans y0, (HB.out.cell (p := ⟨b2, _, none⟩) hb2).trans y1⟩
      clear x0 x1 y0 y1 hb hb2 hlt
      go_upto_region 6 with (fail)
      refine wp_region_held_drew (S := fun W' => W'.cell? ⟨b, o + i * 2, none⟩ = some (.string t0) ∧ W'.cell? ⟨b, o + i * 2 + 1, none⟩ = some (.string t1) ∧ W'.cell? ⟨b2, o2 + i * 2, none⟩ = some (.string t0) ∧ W'.cell? ⟨b2, o2 + i * 2 + 1, none⟩ = some (.string t1)) (by kernel_rfl) HCL.out (fun hHeld => ?_)
      try simp only [Act.put]
      have HB := Lib.hid (HB.out.trans ((Below.refl wr.heap.size wr).drew.mono HB.out.size))
      generalize wr.drew = w3 at hHeld HB ⊢
      refine wpAnyH_take (i := 0) (oi := ⟨some 16, _, _, _, _, _⟩) (v := .slice (some ⟨b, o, none⟩) l.length c1) rfl (by kernel_rfl) (by kernel_rfl) (by kernel_rfl) (fun _ _ _ h => h) (.inl ⟨by rfl, fun w' hSw => ?_⟩) hHeld ?_
      focus (skip; clear hHeld; go_simp)
      try simp only [Act.put, List.setIfInBounds_toArray, List.set_cons_zero, List.set_cons_succ]
      refine wpAnyH_take (i := 1) (oi := ⟨some 17, _, _, _, _, _⟩) (v := .int .i64 (i : Nat)) rfl (by kernel_rfl) (by kernel_rfl) (by kernel_rfl) (fun _ _ _ h => h) (.inl ⟨by rfl, fun w' hSw => ?_⟩) hHeld ?_
      focus (skip; clear hHeld; go_simp)
      try simp only [Act.put, List.setIfInBounds_toArray, List.set_cons_zero, List.set_cons_succ]
      refine wpAnyH_take (i := 2) (oi := ⟨some 18, _, _, _, _, _⟩) (v := .pointer (some ⟨b, o + i * 2, none⟩)) rfl (by kernel_rfl) (by kernel_rfl) (by kernel_rfl) (fun _ _ _ h => h) (.inl ⟨by rfl, fun w' hSw => ?_⟩) hHeld ?_
      focus (skip; clear hHeld; go_simp)
      try simp only [Act.put, List.setIfInBounds_toArray, List.set_cons_zero, List.set_cons_succ]
      refine wpAnyH_take (i := 3) (oi := ⟨some 19, _, _, _, _, _⟩) (v := .agg #[.string t0, .string t1]) rfl (by kernel_rfl) (by kernel_rfl) (by kernel_rfl) (fun _ _ _ h => h) (.inl ⟨by rfl, fun w' hSw => ?_⟩) hHeld ?_
      focus (obtain ⟨q0, q1, q2, q3⟩ := hSw; clear hHeld; go_simp)
      try simp only [Act.put, List.setIfInBounds_toArray, List.set_cons_zero, List.set_cons_succ]
      refine wpAnyH_take (i := 4) (oi := ⟨some 20, _, _, _, _, _⟩) (v := .slice (some ⟨b2, o2, none⟩) l.length c2) rfl (by kernel_rfl) (by kernel_rfl) (by kernel_rfl) (fun _ _ _ h => h) (.inl ⟨by rfl, fun w' hSw => ?_⟩) hHeld ?_
      focus (skip; clear hHeld; go_simp)
      try simp only [Act.put, List.setIfInBounds_toArray, List.set_cons_zero, List.set_cons_succ]
      refine wpAnyH_take (i := 5) (oi := ⟨some 21, _, _, _, _, _⟩) (v := .int .i64 (i : Nat)) rfl (by kernel_rfl) (by kernel_rfl) (by kernel_rfl) (fun _ _ _ h => h) (.inl ⟨by rfl, fun w' hSw => ?_⟩) hHeld ?_
      focus (skip; clear hHeld; go_simp)
      try simp only [Act.put, List.setIfInBounds_toArray, List.set_cons_zero, List.set_cons_succ]
      refine wpAnyH_take (i := 6) (oi := ⟨some 22, _, _, _, _, _⟩) (v := .pointer (some ⟨b2, o2 + i * 2, none⟩)) rfl (by kernel_rfl) (by kernel_rfl) (by kernel_rfl) (fun _ _ _ h => h) (.inl ⟨by rfl, fun w' hSw => ?_⟩) hHeld ?_
      focus (skip; clear hHeld; go_simp)
      try simp only [Act.put, List.setIfInBounds_toArray, List.set_cons_zero, List.set_cons_succ]
      refine wpAnyH_take (i := 7) (oi := ⟨some 23, _, _, _, _, _⟩) (v := .agg #[.string t0, .string t1]) rfl (by kernel_rfl) (by kernel_rfl) (by kernel_rfl) (fun _ _ _ h => h) (.inl ⟨by rfl, fun w' hSw => ?_⟩) hHeld ?_
      focus (obtain ⟨q0, q1, q2, q3⟩ := hSw; clear hHeld; go_simp)
      try simp only [Act.put, List.setIfInBounds_toArray, List.set_cons_zero, List.set_cons_succ]
      refine wpAnyH_take (i := 8) (oi := ⟨some 24, _, _, _, _, _⟩) (v := .bool false) rfl (by kernel_rfl) (by kernel_rfl) (by kernel_rfl) (fun _ _ _ h => h) (.inl ⟨by rfl, fun w' hSw => ?_⟩) hHeld ?_
      focus (skip; clear hHeld; go_simp)
      try simp only [Act.put, List.setIfInBounds_toArray, List.set_cons_zero, List.set_cons_succ]
      refine wpAnyH_done (by kernel_rfl) ?_ _
      go_wp2_with fail
      go_roundw
      case rel => exact ⟨i + 1, by omega, by go_num, HB.out⟩
      case measure => simp [intOf]; omega
    · have hi1 : ¬ (i : Int) < l.length := by omega
      go_wp2_with fail
      go_ret
      exact ⟨rfl, HB.out⟩

/-- v is a slice that holds the allowed types L. -/
def YSl (w : World) (v : Value) (L : List Yl) : Prop := (v = .slice none 0 0 ∧ L = []) ∨ ∃ b off c, v = .slice (some ⟨b, off, none⟩) L.length c ∧ L.length ≤ c ∧ b < w.heap.size ∧ w.rangeAt b off (L.flatMap yenc)
theorem YSl.rd {w : World} {v : Value} {L : List Yl} (h : YSl w v L) : RdS yenc w v L := by
  rcases h with h | ⟨b, off, c, h1, h2, h3, h4⟩
  · exact .inl h
  · exact .inr ⟨⟨b, off, none⟩, c, h1, h2, fun _ => ⟨b, off, rfl, h3, h4⟩⟩
theorem own_rangeY {w : World} {base n c g : Nat} {L : List Yl} {q : Option Nat} (h : w.ownsRow base 27 2 (.slice (some ⟨g, 0, none⟩) n c) n (L.flatMap yenc)) : w.rangeAt g 0 (L.flatMap yenc) := fun j u hj => by
  have := h.cells rfl j u hj
  rw [Nat.zero_add]
  rwa [show (Addr.add ⟨g, 0, none⟩ j) = ⟨g, j, none⟩ by cases j <;> simp [Addr.add]] at this
theorem own_ysl {w : World} {base : Nat} {v : Value} {L : List Yl} (h : w.ownsRow base 27 2 v L.length (L.flatMap yenc)) : YSl w v L := by
  have h' := h
  rcases h.2 with ⟨h1, h2⟩ | ⟨g, cap, cur, rfl, h1, h2, h3, _⟩
  · exact .inl ⟨h1, List.eq_nil_of_length_eq_zero h2⟩
  · exact .inr ⟨g, 0, cap, rfl, h3, (Array.getElem?_eq_some_iff.1 h2).1, own_rangeY (q := none) h'⟩
theorem appY {ops : Array Oper} {rest : List Oper} {o : Oper} {a : Act} {Q : Exit → Act → World → Prop} {w : World} (hgd : o.guard = none) (s x : Operand) (ho : o.op = .call { callee := .builtin .append, args := #[s, x], argTypes := #[22, 22] })
    {base n b : Nat} {v : Value} {xs : List Yl} {t : Yl} (hs : a.eval s = v) (hown : w.ownsRow base 27 2 v n (xs.flatMap yenc)) (hx : a.eval x = .slice (some ⟨b, 0, none⟩) 1 1) (h3 : w.rangeAt b 0 (yenc t))
    (hlen : n + 1 ≤ 1000000) (hbase : base ≤ w.heap.size)
    (h : ∀ v' w', w'.ownsRow base 27 2 v' (n + 1) ((xs ++ [t]).flatMap yenc) → Below base w w' → wpList Try.prog ops Q rest (a.put o.dst v') w') : wpList Try.prog ops Q (o :: rest) a w := by
  obtain ⟨i0, hi⟩ : ∃ i, Try.prog.info? 27 = some i := Option.isSome_iff_exists.1 (by kernel_rfl)
  have q1 : (Try.prog.info? 27).bind (·.zero) = some (.agg #[.string ByteArray.empty, .string ByteArray.empty]) := by kernel_rfl
  have q2 : (Try.prog.info? 27).map (·.size) = some 2 := by kernel_rfl
  have q3 : (Try.prog.info? 27).map (·.bytes) = some 32 := by kernel_rfl
  rw [hi] at q1 q2 q3
  refine wpList_append_own w hgd s x 22 ho base 27 i0 _ 2 32 Try.underlying22 hi q1 (Option.some.inj q2) (Option.some.inj q3) (by kernel_rfl) (by decide) v n _ hs hown ⟨b, 0, none⟩ 1 1 (yenc t) hx rfl ?_ (yenc_one t) (by unfold maxLen; omega) (by omega) hbase ?_
  · intro j u hj
    rw [show (Addr.add ⟨b, 0, none⟩ j) = ⟨b, 0 + j, none⟩ by cases j <;> simp [Addr.add]]
    exact h3 j u hj
  · intro v' w' r1 r2 _
    exact h v' w' (by rw [List.flatMap_append]; simpa using r1) ((Below.refl base w).grown r2 hbase fun k hk => (hown.lt k hk).1)
theorem own_keepY {w w' : World} {base e size n : Nat} {v : Value} {xs : List Value} (h : w.ownsRow base e size v n xs) (hb : Below w.heap.size w w') : w'.ownsRow base e size v n xs := own_keepX h hb
theorem range_belowY {w W : World} {b off : Nat} {xs : List Value} (h : w.rangeAt b off xs) (hb : b < w.heap.size) (hB : Below w.heap.size w W) : W.rangeAt b off xs := fun j v hv => by
  rw [← h j v hv]; exact World.cell?_of_block (hB.block b hb)
theorem take_snocY {α : Type} {l : List α} {k : Nat} (h : k < l.length) : l.take (k + 1) = l.take k ++ [l[k]] := by rw [List.take_add_one, List.getElem?_eq_getElem h]; rfl
theorem sortY_len (l : List Yl) : (sortedO ordY l).length ≤ l.length := by
  have : ∀ (l out : List Yl), (srtO ordY out l).length ≤ out.length + l.length := fun l => by
    induction l with
    | nil => intro out; simp [srtO]
    | cons t l ih =>
      intro out
      have h1 := ih (put1O ordY t out)
      have h2 : ∀ (m : List Yl), (put1O ordY t m).length ≤ m.length + 1 := fun m => by
        induction m with
        | nil => simp [put1O]
        | cons a m ih2 =>
          unfold put1O
          split
          · simp only [List.length_cons]; omega
          · split <;> simp
      have h3 := h2 out
      show (srtO ordY (put1O ordY t out) l).length ≤ _
      simp only [List.length_cons]; omega
  have := this l []
  simpa [sortedO] using this
theorem loadYx {ops : Array Oper} {rest : List Oper} {o : Oper} {a : Act} {Q : Exit → Act → World → Prop} {w : World} {b off : Nat} {x : Operand} {u : Yl} (hr : w.rangeAt b off (yenc u)) (hs : o.guard = none ∧ o.op = .load 27 x ∧ a.eval x = .pointer (some ⟨b, off, none⟩))
    (hk : wpList Try.prog ops Q rest (a.put o.dst (.agg #[.string u.1, .string u.2])) w) : wpList Try.prog ops Q (o :: rest) a w := loadY hr hs hk
theorem rputY_gt {e a : Yl} {p : Bool} {r : List Yl} (h : 0 < ordY e a) : rputO ordY e p (a :: r) = a :: rputO ordY e p r := by
  rw [rputO, if_neg (fun c => c.1 h), if_neg (by omega), show (p || decide (¬ 0 < ordY e a)) = p from by rw [decide_eq_false (by simpa using h), Bool.or_false]]
  rfl
theorem rputY_eq {e a : Yl} {p : Bool} {r : List Yl} (h : ordY e a = 0) : rputO ordY e p (a :: r) = (if p = true then [] else [e]) ++ rputO ordY e true r := by
  rw [rputO, if_pos h, show (p || decide (¬ 0 < ordY e a)) = true from by rw [decide_eq_true (by omega), Bool.or_true]]
  cases p
  · rw [if_pos ⟨by omega, rfl⟩]; rfl
  · rw [if_neg (by simp)]; rfl
theorem rputY_lt {e a : Yl} {p : Bool} {r : List Yl} (h : ordY e a < 0) : rputO ordY e p (a :: r) = (if p = true then [] else [e]) ++ (a :: rputO ordY e true r) := by
  rw [rputO, if_neg (show ¬ ordY e a = 0 by omega), show (p || decide (¬ 0 < ordY e a)) = true from by rw [decide_eq_true (by omega), Bool.or_true]]
  cases p
  · rw [if_pos ⟨by omega, rfl⟩]; rfl
  · rw [if_neg (by simp)]; rfl
end Go.Proofs.Ytdnmgemjhpkekaa
/-
  The reference's Types.
-/
namespace Go.Proofs.Ytdnmgemjhpkekaa
open Go.ChangeShapes Go.WideShapes Go.ChangeAt Go.RowKit Go.Lib Go.Sort
set_option linter.unusedVariables false
set_option linter.unusedSectionVars false
set_option linter.unusedSimpArgs false

set_option maxRecDepth 100000 in
set_option maxHeartbeats 4000000 in
theorem rtypes_any {w : World} {v : Value} {l : List Yl} (h : RdS yenc w v l) (hl : l.length ≤ 1000) (hzs : ∀ t ∈ l, t.1.size ≤ 9223372036854775807 ∧ t.2.size ≤ 9223372036854775807) :
    Calls Try.prog 7 #[v] w fun e w' => ∃ v', e = .returned v' ∧ Below w.heap.size w w' ∧ YSl w' v' (sortedO ordY l) := by
  have HZS := Lib.hid hzs
  have HLN := Lib.hid hl
  obtain ⟨p, cap, rfl, hrow⟩ := h.form yenc_len (by decide)
  have HROW := Lib.hid hrow
  clear h hl hzs hrow
  go_enter Try.func7, Try.ntmps7
  go_wp2_with fail
  go_loopg [3, 4] l.length (fun g s3 s4 wr => ∃ i : Nat, i ≤ l.length ∧ l.length - i ≤ g ∧ s4 = .int .i64 i ∧ Below w.heap.size w wr ∧ YSl wr s3 (sortedO ordY (l.take i)))
  case atStart => exact ⟨0, Nat.zero_le _, by omega, rfl, Below.refl _ _, .inl ⟨rfl, rfl⟩⟩
  case round =>
    obtain ⟨i, hi, hg, rfl, hB, hY⟩ := hrel
    have HBO := Lib.hid hB
    have HYO := Lib.hid hY
    clear hB hY
    obtain ⟨O, hO⟩ : ∃ O, O = sortedO ordY (l.take i) := ⟨_, rfl⟩
    rw [← hO] at HYO
    have HOO := Lib.hid hO
    have HRO : Hid (RisO ordY O) := by rw [hO]; exact sorted_risO ordYL _
    have HLL : Hid (O.length ≤ 1000) := by rw [hO]; have := sortY_len (l.take i); rw [List.length_take] at this; have := HLN.out; show _ ≤ _; omega
    clear hO
    by_cases hlt : i < l.length
    · obtain ⟨bl, ol, rfl, hbl, hxr⟩ := HROW.out i hlt
      have hzx := HZS.out _ (List.getElem_mem hlt)
      have hP1 : put1O ordY l[i] O = sortedO ordY (l.take (i + 1)) := by
        rw [HOO.out, take_snocY hlt]; exact (srtO_snoc _ _ _).symm
      have HZO : Hid (∀ t ∈ O, t.1.size ≤ 9223372036854775807 ∧ t.2.size ≤ 9223372036854775807) := fun t ht => by
        rw [HOO.out, sorted_memO ordYL] at ht
        exact HZS.out t (List.mem_of_mem_take ht)
      obtain ⟨x, hx⟩ : ∃ x, x = l[i] := ⟨_, rfl⟩
      rw [← hx] at hxr hzx hP1
      have HP1 := Lib.hid hP1
      have HZX := Lib.hid hzx
      have HXR : Hid (wr.rangeAt bl (ol + i * 2) (yenc x)) := range_belowY hxr hbl HBO.out
      have HXB : Hid (bl < wr.heap.size) := Nat.lt_of_lt_of_le hbl HBO.out.size
      have hw : wrap64 ((i : Int) + 1) = (i : Int) + 1 := by unfold wrap64; have := HLN.out; omega
      obtain ⟨po, co, rfl, hoel⟩ := HYO.out.rd.form yenc_len (by decide)
      have HOEL := Lib.hid hoel
      clear hxr hzx hP1 hx hbl HYO hoel
      generalize wr = wr0 at HBO HXR HXB HOEL ⊢
      go_wp2_with fail
      go_loopg [5, 6, 7] O.length (fun g s5 s6 s7 wr => ∃ (k : Nat) (N : List Yl) (pl : Bool), k ≤ O.length ∧ O.length - k ≤ g ∧ s7 = .int .i64 k ∧ s6 = .bool pl ∧ Below wr0.heap.size wr0 wr ∧ wr.ownsRow wr0.heap.size 27 2 s5 N.length (N.flatMap yenc) ∧ N.length ≤ 2 * k ∧ N ++ rputO ordY x pl (O.drop k) = put1O ordY x O)
      case atStart => exact ⟨0, [], false, Nat.zero_le _, by omega, rfl, rfl, Below.refl _ _, World.ownsRow_nil _ _ _ _, by simp, by rw [List.nil_append]; exact rput_eq ordYL x O HRO.out⟩
      case round =>
        obtain ⟨k, N, pl, hk, hgk, rfl, rfl, hQ, hR, hN, hE⟩ := hrel
        have HQ := Lib.hid hQ
        have HRW := Lib.hid hR
        have HNL := Lib.hid hN
        have HE := Lib.hid hE
        clear hQ hR hN hE
        generalize wr = wq at HQ HRW ⊢
        by_cases hlk : k < O.length
        · obtain ⟨bo, oo, rfl, hbo, hzr⟩ := HOEL.out k hlk
          have hzz := HZO.out _ (List.getElem_mem hlk)
          have hdr := List.drop_eq_getElem_cons hlk
          obtain ⟨z, hz⟩ : ∃ z, z = O[k] := ⟨_, rfl⟩
          rw [← hz] at hzr hzz hdr
          have HDR := Lib.hid hdr
          have HZZ := Lib.hid hzz
          have HZR := Lib.hid hzr
          have HZB := Lib.hid hbo
          have hwk : wrap64 ((k : Int) + 1) = (k : Int) + 1 := by unfold wrap64; have := HLL.out; omega
          clear hz hzr hzz hdr hbo
          rcases pl with _ | _
          · have bd : Below wq.heap.size wq wq.drew := (Below.refl _ _).drew
            have HRd := Lib.hid (own_keepY HRW.out bd)
            have HQd := Lib.hid (HQ.out.trans (bd.mono HQ.out.size))
            have hxr : wq.drew.rangeAt bl (ol + i * 2) (yenc x) := range_belowY HXR.out HXB.out HQd.out
            have hor : wq.drew.rangeAt bo (oo + k * 2) (yenc z) := range_belowY HZR.out HZB.out HQd.out
            have c1 := Lib.hid hxr
            have c0 := Lib.hid hor
            clear bd HRW HQ hxr hor
            go_wp2_with fail
            refine region_tail 8 (by kernel_rfl) (by kernel_rfl) ?_
            simp only [List.take_succ_cons, List.take_zero, List.drop_succ_cons, List.drop_zero]
            repeat first
              | still_step
              | ((with_reducible refine stillY (x := .tmp 23) (o := ⟨some 24, _, _, _, _, _⟩) c1.out ?_ ?_); exact ⟨rfl, rfl, by go_simp⟩)
              | ((with_reducible refine stillY (x := .tmp 27) (o := ⟨some 28, _, _, _, _, _⟩) c0.out ?_ ?_); exact ⟨rfl, rfl, by go_simp⟩)
            refine wpStill_nil ?_
            clear c1 c0
            generalize wq.drew = w2 at HRd HQd ⊢
            have HC := Lib.hid (rcompareA_any x.1 x.2 z.1 z.2 HZX.out.1 HZX.out.2 HZZ.out.1 HZZ.out.2 w2)
            obtain ⟨q, hq⟩ : ∃ q, q = ord2 x.1 x.2 z.1 z.2 := ⟨_, rfl⟩
            rw [← hq] at HC
            have HQE : Hid (ordY x z = q) := hq.symm
            clear hq
            go_wp2_with fail
            refine HC.out.mono ?_
            rintro e w3 ⟨rfl, b3⟩
            have HR3 := Lib.hid (own_keepY HRd.out b3)
            have HQ3 := Lib.hid (HQd.out.trans (b3.mono HQd.out.size))
            clear b3 HC HRd HQd
            have HLB : Hid (N.length + 1 ≤ 1000000) := by have := HNL.out; have := HLL.out; show _ ≤ _; omega
            by_cases hle : 0 < q
            · have hz : ¬ q = 0 := by omega
              have hb0 : (q != 0) = true := bne_iff_ne.2 hz
              have hb1 : ¬ q ≤ 0 := by omega
              have HNX : Hid (N ++ [z] ++ rputO ordY x false (O.drop (k + 1)) = put1O ordY x O) := by
                have h := HE.out
                show _ = _
                rw [HDR.out, rputY_gt (by rw [HQE.out]; exact hle)] at h
                rw [← h]
                first | rfl | simp [List.append_assoc] | simp
              have HZq := Lib.hid (range_belowY HZR.out HZB.out HQ3.out)
              have ba6 : Below w3.heap.size w3 (w3.alloc (.cells #[.string z.1, .string z.2] 27)) := (Below.refl _ _).alloc (Nat.le_refl _) _
              have HO6 := Lib.hid (own_keepY HR3.out ba6)
              have HN6 : Hid ((w3.alloc (.cells #[.string z.1, .string z.2] 27)).rangeAt w3.heap.size 0 (yenc z)) := (Arr.new' w3 27 #[.string z.1, .string z.2] (yenc z) rfl).range
              have HS6 := Lib.hid (HQ3.out.trans (ba6.mono HQ3.out.size))
              clear ba6
              go_wp2_with (first
                | ((with_reducible refine loadYx (x := .tmp 48) (o := ⟨some 49, _, _, _, _, _⟩) HZq.out ?_ ?_); exact ⟨rfl, rfl, by go_simp⟩)
                | (at_builtin; refine appY rfl _ _ rfl (base := wr0.heap.size) (xs := N) (t := z) rfl HO6.out rfl HN6.out HLB.out HS6.out.size ?_; intro v6 w6 h6 b6))
              have HR6 := Lib.hid h6
              have HQ6 := Lib.hid (HS6.out.trans b6)
              clear h6 b6 HO6 HN6 HS6
              clear HZq
              go_roundg (O.length - (k + 1))
              case measure => omega
              case rel => exact ⟨k + 1, N ++ [z], false, by omega, Nat.le_refl _, by go_num, rfl, HQ6.out, by rw [List.length_append]; exact HR6.out, by have := HNL.out; (try simp only [List.length_append, List.length_cons, List.length_nil]); omega, HNX.out⟩
            · by_cases hz : q = 0
              · have hb0 : (q != 0) = false := by rw [hz]; rfl
                have hb1 : q ≤ 0 := by omega
                have HNX : Hid ((N ++ [x]) ++ rputO ordY x true (O.drop (k + 1)) = put1O ordY x O) := by
                  have h := HE.out
                  show _ = _
                  rw [HDR.out, rputY_eq (by rw [HQE.out]; exact hz)] at h
                  rw [← h]
                  first | rfl | simp [List.append_assoc] | simp
                have HXq := Lib.hid (range_belowY HXR.out HXB.out HQ3.out)
                have ba4 : Below w3.heap.size w3 (w3.alloc (.cells #[.string x.1, .string x.2] 27)) := (Below.refl _ _).alloc (Nat.le_refl _) _
                have HO4 := Lib.hid (own_keepY HR3.out ba4)
                have HN4 : Hid ((w3.alloc (.cells #[.string x.1, .string x.2] 27)).rangeAt w3.heap.size 0 (yenc x)) := (Arr.new' w3 27 #[.string x.1, .string x.2] (yenc x) rfl).range
                have HS4 := Lib.hid (HQ3.out.trans (ba4.mono HQ3.out.size))
                clear ba4
                go_upto_region 14 with (first
                  | ((with_reducible refine loadYx (x := .tmp 39) (o := ⟨some 40, _, _, _, _, _⟩) HXq.out ?_ ?_); exact ⟨rfl, rfl, by go_simp⟩)
                  | (at_builtin; refine appY rfl _ _ rfl (base := wr0.heap.size) (xs := N) (t := x) rfl HO4.out rfl HN4.out HLB.out HS4.out.size ?_; intro v4 w4 h4 b4))
                have HR4 := Lib.hid h4
                have HQ4 := Lib.hid (HS4.out.trans b4)
                clear h4 b4 HO4 HN4 HS4
                clear HXq
                have HR5 : Hid (w4.ownsRow wr0.heap.size 27 2 v4 (N ++ [x]).length ((N ++ [x]).flatMap yenc)) := by show World.ownsRow _ _ _ _ _ _ _; rw [List.length_append]; exact HR4.out
                clear HR4
                go_wp2_with fail
                go_roundg (O.length - (k + 1))
                case measure => omega
                case rel => exact ⟨k + 1, (N ++ [x]), true, by omega, Nat.le_refl _, by go_num, rfl, HQ4.out, HR5.out, by have := HNL.out; (try simp only [List.length_append, List.length_cons, List.length_nil]); omega, HNX.out⟩
              · have hb0 : (q != 0) = true := bne_iff_ne.2 hz
                have hb1 : q ≤ 0 := by omega
                have HNX : Hid ((N ++ [x]) ++ [z] ++ rputO ordY x true (O.drop (k + 1)) = put1O ordY x O) := by
                  have h := HE.out
                  show _ = _
                  rw [HDR.out, rputY_lt (by rw [HQE.out]; omega)] at h
                  rw [← h]
                  first | rfl | simp [List.append_assoc] | simp
                have HXq := Lib.hid (range_belowY HXR.out HXB.out HQ3.out)
                have ba4 : Below w3.heap.size w3 (w3.alloc (.cells #[.string x.1, .string x.2] 27)) := (Below.refl _ _).alloc (Nat.le_refl _) _
                have HO4 := Lib.hid (own_keepY HR3.out ba4)
                have HN4 : Hid ((w3.alloc (.cells #[.string x.1, .string x.2] 27)).rangeAt w3.heap.size 0 (yenc x)) := (Arr.new' w3 27 #[.string x.1, .string x.2] (yenc x) rfl).range
                have HS4 := Lib.hid (HQ3.out.trans (ba4.mono HQ3.out.size))
                clear ba4
                go_upto_region 14 with (first
                  | ((with_reducible refine loadYx (x := .tmp 39) (o := ⟨some 40, _, _, _, _, _⟩) HXq.out ?_ ?_); exact ⟨rfl, rfl, by go_simp⟩)
                  | (at_builtin; refine appY rfl _ _ rfl (base := wr0.heap.size) (xs := N) (t := x) rfl HO4.out rfl HN4.out HLB.out HS4.out.size ?_; intro v4 w4 h4 b4))
                have HR4 := Lib.hid h4
                have HQ4 := Lib.hid (HS4.out.trans b4)
                clear h4 b4 HO4 HN4 HS4
                clear HXq
                have HR5 : Hid (w4.ownsRow wr0.heap.size 27 2 v4 (N ++ [x]).length ((N ++ [x]).flatMap yenc)) := by show World.ownsRow _ _ _ _ _ _ _; rw [List.length_append]; exact HR4.out
                clear HR4
                have HLB : Hid ((N ++ [x]).length + 1 ≤ 1000000) := by have := HNL.out; have := HLL.out; show (N ++ [x]).length + 1 ≤ 1000000; simp only [List.length_append, List.length_cons, List.length_nil]; omega
                have HZq := Lib.hid (range_belowY HZR.out HZB.out HQ4.out)
                have ba6 : Below w4.heap.size w4 (w4.alloc (.cells #[.string z.1, .string z.2] 27)) := (Below.refl _ _).alloc (Nat.le_refl _) _
                have HO6 := Lib.hid (own_keepY HR5.out ba6)
                have HN6 : Hid ((w4.alloc (.cells #[.string z.1, .string z.2] 27)).rangeAt w4.heap.size 0 (yenc z)) := (Arr.new' w4 27 #[.string z.1, .string z.2] (yenc z) rfl).range
                have HS6 := Lib.hid (HQ4.out.trans (ba6.mono HQ4.out.size))
                clear ba6
                go_wp2_with (first
                  | ((with_reducible refine loadYx (x := .tmp 48) (o := ⟨some 49, _, _, _, _, _⟩) HZq.out ?_ ?_); exact ⟨rfl, rfl, by go_simp⟩)
                  | (at_builtin; refine appY rfl _ _ rfl (base := wr0.heap.size) (xs := (N ++ [x])) (t := z) rfl HO6.out rfl HN6.out HLB.out HS6.out.size ?_; intro v6 w6 h6 b6))
                have HR6 := Lib.hid h6
                have HQ6 := Lib.hid (HS6.out.trans b6)
                clear h6 b6 HO6 HN6 HS6
                clear HZq
                go_roundg (O.length - (k + 1))
                case measure => omega
                case rel => exact ⟨k + 1, (N ++ [x]) ++ [z], true, by omega, Nat.le_refl _, by go_num, rfl, HQ6.out, by rw [List.length_append]; exact HR6.out, by have := HNL.out; (try simp only [List.length_append, List.length_cons, List.length_nil]); omega, HNX.out⟩
          · have bd : Below wq.heap.size wq wq.drew := (Below.refl _ _).drew
            have HRd := Lib.hid (own_keepY HRW.out bd)
            have HQd := Lib.hid (HQ.out.trans (bd.mono HQ.out.size))
            have hxr : wq.drew.rangeAt bl (ol + i * 2) (yenc x) := range_belowY HXR.out HXB.out HQd.out
            have hor : wq.drew.rangeAt bo (oo + k * 2) (yenc z) := range_belowY HZR.out HZB.out HQd.out
            have c1 := Lib.hid hxr
            have c0 := Lib.hid hor
            clear bd HRW HQ hxr hor
            go_wp2_with fail
            refine region_tail 8 (by kernel_rfl) (by kernel_rfl) ?_
            simp only [List.take_succ_cons, List.take_zero, List.drop_succ_cons, List.drop_zero]
            repeat first
              | still_step
              | ((with_reducible refine stillY (x := .tmp 23) (o := ⟨some 24, _, _, _, _, _⟩) c1.out ?_ ?_); exact ⟨rfl, rfl, by go_simp⟩)
              | ((with_reducible refine stillY (x := .tmp 27) (o := ⟨some 28, _, _, _, _, _⟩) c0.out ?_ ?_); exact ⟨rfl, rfl, by go_simp⟩)
            refine wpStill_nil ?_
            clear c1 c0
            generalize wq.drew = w2 at HRd HQd ⊢
            have HC := Lib.hid (rcompareA_any x.1 x.2 z.1 z.2 HZX.out.1 HZX.out.2 HZZ.out.1 HZZ.out.2 w2)
            obtain ⟨q, hq⟩ : ∃ q, q = ord2 x.1 x.2 z.1 z.2 := ⟨_, rfl⟩
            rw [← hq] at HC
            have HQE : Hid (ordY x z = q) := hq.symm
            clear hq
            go_wp2_with fail
            refine HC.out.mono ?_
            rintro e w3 ⟨rfl, b3⟩
            have HR3 := Lib.hid (own_keepY HRd.out b3)
            have HQ3 := Lib.hid (HQd.out.trans (b3.mono HQd.out.size))
            clear b3 HC HRd HQd
            have HLB : Hid (N.length + 1 ≤ 1000000) := by have := HNL.out; have := HLL.out; show _ ≤ _; omega
            by_cases hle : 0 < q
            · have hz : ¬ q = 0 := by omega
              have hb0 : (q != 0) = true := bne_iff_ne.2 hz
              have hb1 : ¬ q ≤ 0 := by omega
              have HNX : Hid (N ++ [z] ++ rputO ordY x true (O.drop (k + 1)) = put1O ordY x O) := by
                have h := HE.out
                show _ = _
                rw [HDR.out, rputY_gt (by rw [HQE.out]; exact hle)] at h
                rw [← h]
                first | rfl | simp [List.append_assoc] | simp
              have HZq := Lib.hid (range_belowY HZR.out HZB.out HQ3.out)
              have ba6 : Below w3.heap.size w3 (w3.alloc (.cells #[.string z.1, .string z.2] 27)) := (Below.refl _ _).alloc (Nat.le_refl _) _
              have HO6 := Lib.hid (own_keepY HR3.out ba6)
              have HN6 : Hid ((w3.alloc (.cells #[.string z.1, .string z.2] 27)).rangeAt w3.heap.size 0 (yenc z)) := (Arr.new' w3 27 #[.string z.1, .string z.2] (yenc z) rfl).range
              have HS6 := Lib.hid (HQ3.out.trans (ba6.mono HQ3.out.size))
              clear ba6
              go_wp2_with (first
                | ((with_reducible refine loadYx (x := .tmp 48) (o := ⟨some 49, _, _, _, _, _⟩) HZq.out ?_ ?_); exact ⟨rfl, rfl, by go_simp⟩)
                | (at_builtin; refine appY rfl _ _ rfl (base := wr0.heap.size) (xs := N) (t := z) rfl HO6.out rfl HN6.out HLB.out HS6.out.size ?_; intro v6 w6 h6 b6))
              have HR6 := Lib.hid h6
              have HQ6 := Lib.hid (HS6.out.trans b6)
              clear h6 b6 HO6 HN6 HS6
              clear HZq
              go_roundg (O.length - (k + 1))
              case measure => omega
              case rel => exact ⟨k + 1, N ++ [z], true, by omega, Nat.le_refl _, by go_num, rfl, HQ6.out, by rw [List.length_append]; exact HR6.out, by have := HNL.out; (try simp only [List.length_append, List.length_cons, List.length_nil]); omega, HNX.out⟩
            · by_cases hz : q = 0
              · have hb0 : (q != 0) = false := by rw [hz]; rfl
                have hb1 : q ≤ 0 := by omega
                have HNX : Hid (N ++ rputO ordY x true (O.drop (k + 1)) = put1O ordY x O) := by
                  have h := HE.out
                  show _ = _
                  rw [HDR.out, rputY_eq (by rw [HQE.out]; exact hz)] at h
                  rw [← h]
                  first | rfl | simp [List.append_assoc] | simp
                go_wp2_with fail
                go_roundg (O.length - (k + 1))
                case measure => omega
                case rel => exact ⟨k + 1, N, true, by omega, Nat.le_refl _, by go_num, rfl, HQ3.out, HR3.out, by have := HNL.out; (try simp only [List.length_append, List.length_cons, List.length_nil]); omega, HNX.out⟩
              · have hb0 : (q != 0) = true := bne_iff_ne.2 hz
                have hb1 : q ≤ 0 := by omega
                have HNX : Hid (N ++ [z] ++ rputO ordY x true (O.drop (k + 1)) = put1O ordY x O) := by
                  have h := HE.out
                  show _ = _
                  rw [HDR.out, rputY_lt (by rw [HQE.out]; omega)] at h
                  rw [← h]
                  first | rfl | simp [List.append_assoc] | simp
                have HZq := Lib.hid (range_belowY HZR.out HZB.out HQ3.out)
                have ba6 : Below w3.heap.size w3 (w3.alloc (.cells #[.string z.1, .string z.2] 27)) := (Below.refl _ _).alloc (Nat.le_refl _) _
                have HO6 := Lib.hid (own_keepY HR3.out ba6)
                have HN6 : Hid ((w3.alloc (.cells #[.string z.1, .string z.2] 27)).rangeAt w3.heap.size 0 (yenc z)) := (Arr.new' w3 27 #[.string z.1, .string z.2] (yenc z) rfl).range
                have HS6 := Lib.hid (HQ3.out.trans (ba6.mono HQ3.out.size))
                clear ba6
                go_wp2_with (first
                  | ((with_reducible refine loadYx (x := .tmp 48) (o := ⟨some 49, _, _, _, _, _⟩) HZq.out ?_ ?_); exact ⟨rfl, rfl, by go_simp⟩)
                  | (at_builtin; refine appY rfl _ _ rfl (base := wr0.heap.size) (xs := N) (t := z) rfl HO6.out rfl HN6.out HLB.out HS6.out.size ?_; intro v6 w6 h6 b6))
                have HR6 := Lib.hid h6
                have HQ6 := Lib.hid (HS6.out.trans b6)
                clear h6 b6 HO6 HN6 HS6
                clear HZq
                go_roundg (O.length - (k + 1))
                case measure => omega
                case rel => exact ⟨k + 1, N ++ [z], true, by omega, Nat.le_refl _, by go_num, rfl, HQ6.out, by rw [List.length_append]; exact HR6.out, by have := HNL.out; (try simp only [List.length_append, List.length_cons, List.length_nil]); omega, HNX.out⟩
        · rcases pl with _ | _
          · have HNE : Hid (N ++ [x] = sortedO ordY (l.take (i + 1))) := by
              have h := HE.out
              rw [List.drop_of_length_le (by omega), rputO, if_neg (by simp)] at h
              rw [h]; exact HP1.out
            have HLB : Hid (N.length + 1 ≤ 1000000) := by have := HNL.out; have := HLL.out; show _ ≤ _; omega
            have HXq := Lib.hid (range_belowY HXR.out HXB.out HQ.out)
            have ba7 : Below wq.heap.size wq (wq.alloc (.cells #[.string x.1, .string x.2] 27)) := (Below.refl _ _).alloc (Nat.le_refl _) _
            have HO7 := Lib.hid (own_keepY HRW.out ba7)
            have HN7 : Hid ((wq.alloc (.cells #[.string x.1, .string x.2] 27)).rangeAt wq.heap.size 0 (yenc x)) := (Arr.new' wq 27 #[.string x.1, .string x.2] (yenc x) rfl).range
            have HS7 := Lib.hid (HQ.out.trans (ba7.mono HQ.out.size))
            clear ba7
            go_wp2_with (first
              | ((with_reducible refine loadYx (x := .tmp 57) (o := ⟨some 58, _, _, _, _, _⟩) HXq.out ?_ ?_); exact ⟨rfl, rfl, by go_simp⟩)
              | (at_builtin; refine appY rfl _ _ rfl (base := wr0.heap.size) (xs := N) (t := x) rfl HO7.out rfl HN7.out HLB.out HS7.out.size ?_; intro v7 w7 h7 b7))
            have HR7 := Lib.hid h7
            have HQ7 := Lib.hid (HS7.out.trans b7)
            clear h7 b7 HO7 HN7 HS7
            have HYF : Hid (YSl w7 v7 (sortedO ordY (l.take (i + 1)))) := by show YSl _ _ _; rw [← HNE.out]; exact own_ysl (by rw [List.length_append]; exact HR7.out)
            have HBF := Lib.hid (HBO.out.trans (HQ7.out.mono HBO.out.size))
            clear HR7 HQ7 HXq
            go_roundg (l.length - (i + 1))
            case measure => omega
            case rel => exact ⟨i + 1, by omega, Nat.le_refl _, by go_num, HBF.out, HYF.out⟩
          · have HNE : Hid (N = sortedO ordY (l.take (i + 1))) := by
              have h := HE.out
              rw [List.drop_of_length_le (by omega), rputO, if_pos rfl, List.append_nil] at h
              rw [h]; exact HP1.out
            have HYF := Lib.hid (own_ysl HRW.out)
            rw [HNE.out] at HYF
            have HBF := Lib.hid (HBO.out.trans (HQ.out.mono HBO.out.size))
            clear HRW HQ
            go_wp2_with fail
            go_roundg (l.length - (i + 1))
            case measure => omega
            case rel => exact ⟨i + 1, by omega, Nat.le_refl _, by go_num, HBF.out, HYF.out⟩
    · have HK : Hid (l.take i = l) := List.take_of_length_le (by omega)
      have HYF := HYO
      rw [HOO.out, HK.out] at HYF
      clear HYO
      go_wp2_with fail
      go_ret
      exact ⟨_, rfl, HBO.out, HYF.out⟩
end Go.Proofs.Ytdnmgemjhpkekaa
/-
  vestrylaw15.CanonTypes.
-/
namespace Go.Proofs.Ytdnmgemjhpkekaa
open Go.ChangeShapes Go.WideShapes Go.ChangeAt Go.RowKit Go.Lib Go.Sort
set_option linter.unusedVariables false
set_option linter.unusedSectionVars false
set_option linter.unusedSimpArgs false

theorem appYs {ops : Array Oper} {rest : List Oper} {o : Oper} {a : Act} {Q : Exit → Act → World → Prop} {w : World} (hgd : o.guard = none) (s x : Operand) (ho : o.op = .call { callee := .builtin .append, args := #[s, x], argTypes := #[22, 22] })
    {base g : Nat} {xv : Value} {news : List Yl} (hs : a.eval s = .slice (some ⟨g, 0, none⟩) 0 0) (hown : w.ownsRow base 27 2 (.slice (some ⟨g, 0, none⟩) 0 0) 0 (([] : List Yl).flatMap yenc)) (hx : a.eval x = xv) (hy : RdS yenc w xv news)
    (hlen : news.length ≤ 1000000) (hbase : base ≤ w.heap.size)
    (h : ∀ g' c' w', w'.ownsRow base 27 2 (.slice (some ⟨g', 0, none⟩) news.length c') news.length (news.flatMap yenc) → Below base w w' → wpList Try.prog ops Q rest (a.put o.dst (.slice (some ⟨g', 0, none⟩) news.length c')) w') : wpList Try.prog ops Q (o :: rest) a w := by
  obtain ⟨i0, hi⟩ : ∃ i, Try.prog.info? 27 = some i := Option.isSome_iff_exists.1 (by kernel_rfl)
  have q1 : (Try.prog.info? 27).bind (·.zero) = some (.agg #[.string ByteArray.empty, .string ByteArray.empty]) := by kernel_rfl
  have q2 : (Try.prog.info? 27).map (·.size) = some 2 := by kernel_rfl
  have q3 : (Try.prog.info? 27).map (·.bytes) = some 32 := by kernel_rfl
  rw [hi] at q1 q2 q3
  rcases hy with ⟨h1, h2⟩ | ⟨ad, cap, h1, h2, h3⟩
  · subst h1 h2
    refine wpList_plain hgd fun K hK => ?_
    have hrun := run_append_owned_none (P := Try.prog) (w := w) base 22 o.type 27 i0 2 Try.underlying22 hi (.slice (some ⟨g, 0, none⟩) 0 0) 0 _ hown
    unfold Oper.wp
    simp [execOp, ho, resolve, invoke, builtin, hs, hx, hrun, Result.andThen]
    exact hK _ _ (h g 0 w hown (Below.refl _ _))
  · refine wpList_append_own w hgd s x 22 ho base 27 i0 _ 2 32 Try.underlying22 hi q1 (Option.some.inj q2) (Option.some.inj q3) (by kernel_rfl) (by decide) _ 0 _ hs hown ad news.length cap (news.flatMap yenc) (by rw [hx, h1]) (flatG_len yenc_len news) ?_ ?_ (by unfold maxLen; omega) (by omega) hbase ?_
    · intro j u hj
      have hj' := (List.getElem?_eq_some_iff.1 hj).1
      rw [flatG_len yenc_len] at hj'
      obtain ⟨b, off, rfl, _, hr⟩ := h3 (by omega)
      rw [show (Addr.add ⟨b, off, none⟩ j) = ⟨b, off + j, none⟩ by cases j <;> simp [Addr.add]]
      exact hr j u hj
    · intro u hu
      obtain ⟨y, _, hy⟩ := List.mem_flatMap.1 hu
      exact yenc_one y u hy
    · intro v' w' r1 r2 r3
      rw [Nat.zero_add] at r1
      have r1' : w'.ownsRow base 27 2 v' news.length (news.flatMap yenc) := r1
      have hne : v' ≠ .slice none 0 0 := fun e => by
        have := (r3.1 e).1
        cases this
      have r0 := r1'
      rcases r0.2 with ⟨e0, _⟩ | ⟨g', cap', cur, rfl, _⟩
      · exact absurd e0 hne
      · exact h g' cap' w' r1' ((Below.refl base w).grown r2 hbase fun k hk => (hown.lt k hk).1)
set_option maxRecDepth 100000 in
set_option maxHeartbeats 4000000 in
theorem ctlaw_any {w : World} {v : Value} {l : List Yl} (h : RdS yenc w v l) (hz : ∀ t ∈ l, t.1.size ≤ 9223372036854775807 ∧ t.2.size ≤ 9223372036854775807) :
    Calls Try.prog 3 #[v] w fun e w' => e = .returned (.bool true) ∧ Below w.heap.size w w' := by
  have HX0 := Lib.hid h
  have HZ := Lib.hid hz
  obtain ⟨p, cap, rfl, _⟩ := h.form yenc_len (by decide)
  have HAW := Lib.hid (awake_any w)
  clear h hz
  go_enter Try.func3, Try.ntmps3
  go_wp2_with fail
  refine HAW.out.mono ?_
  rintro e w1 ⟨rfl, b1⟩
  have HX1 := Lib.hid (HX0.out.below b1)
  have HB1 := Lib.hid b1
  clear b1 HAW HX0
  by_cases h100 : 100 < l.length
  · have h100i : (100 : Int) < (l.length : Int) := by omega
    have HAW := Lib.hid (awake_any w1)
    go_wp2_with fail
    refine HAW.out.mono ?_
    rintro e w2 ⟨rfl, b2⟩
    have HB2 := Lib.hid (HB1.out.trans (b2.mono HB1.out.size))
    clear b2 HAW
    go_wp2_with fail
    go_ret
    exact ⟨rfl, HB2.out⟩
  · have h100i : ¬ (100 : Int) < (l.length : Int) := by omega
    have HL : Hid (l.length ≤ 100) := by show _ ≤ _; omega
    have hba : Below w1.heap.size w1 (w1.alloc (.cells #[] 27)) := (Below.refl _ _).alloc (Nat.le_refl _) _
    have HXa := Lib.hid (HX1.out.below hba)
    have HBA := Lib.hid hba
    have HW1 : Hid (World.ownsRow (w1.alloc (.cells #[] 27)) w1.heap.size 27 2 (.slice (some ⟨w1.heap.size, 0, none⟩) 0 0) 0 (([] : List Yl).flatMap yenc)) := World.ownsRow_made w1 #[] 0 (Nat.le_refl _) (Nat.zero_le _) (by simp)
    clear hba h100
    go_wp2_with (at_builtin; refine appYs rfl _ _ rfl (base := w1.heap.size) (news := l) rfl HW1.out rfl HXa.out (by have := HL.out; omega) HBA.out.size ?_; intro g2 c2 w2 h2 b2)
    have HO2 := Lib.hid (own_ysl h2).rd
    have HR2 := Lib.hid (own_rangeY (q := none) h2)
    have HG2 : Hid (g2 < w2.heap.size) := (h2.lt g2 rfl).2
    have bb := HBA.out.trans b2
    have HX2 := Lib.hid (HX1.out.below bb)
    have HB2 := Lib.hid (HB1.out.trans (bb.mono HB1.out.size))
    clear h2 b2 bb HW1 HXa HBA HX1
    have HC := Lib.hid (ctypes_any (c := c2) HR2.out HG2.out (by have := HL.out; omega))
    go_wp2_with fail
    refine HC.out.mono ?_
    rintro e w3 ⟨g3, c3, rfl, hc3, _, hg3, b3, hr3⟩
    have HS3 : Hid (YSl w3 (.slice (some ⟨g3, 0, none⟩) (sortedO ordY l).length c3) (sortedO ordY l)) := .inr ⟨g3, 0, c3, rfl, hc3, hg3, hr3⟩
    have HX3 := Lib.hid (HX2.out.below b3)
    have HO3 := Lib.hid (HO2.out.below b3)
    have HB3 := Lib.hid (HB2.out.trans (b3.mono HB2.out.size))
    clear hc3 hg3 b3 hr3 HC HR2 HG2 HX2 HO2
    have HC := Lib.hid (rtypes_any HX3.out (by have := HL.out; omega) HZ.out)
    have HSL : Hid ((sortedO ordY l).length ≤ 100) := Nat.le_trans (sortY_len l) HL.out
    go_wp2_with fail
    refine HC.out.mono ?_
    rintro e w4 ⟨v4, rfl, b4, y4⟩
    have HX4 := Lib.hid (HX3.out.below b4)
    have HO4 := Lib.hid (HO3.out.below b4)
    have HE := Lib.hid (equalY_any (HS3.out.rd.below b4) y4.rd (by have := HSL.out; omega))
    have HB4 := Lib.hid (HB3.out.trans (b4.mono HB3.out.size))
    clear b4 y4 HC HX3 HO3 HS3
    go_wp2_with fail
    refine HE.out.mono ?_
    rintro e w5 ⟨rfl, b5⟩
    have HE2 := Lib.hid (equalY_any (HO4.out.below b5) (HX4.out.below b5) (by have := HL.out; omega))
    have HB5 := Lib.hid (HB4.out.trans (b5.mono HB4.out.size))
    clear b5 HE HX4 HO4
    go_wp2_with fail
    refine HE2.out.mono ?_
    rintro e w6 ⟨rfl, b6⟩
    have HB6 := Lib.hid (HB5.out.trans (b6.mono HB5.out.size))
    clear b6 HE2
    go_wp2_with fail
    go_ret
    exact ⟨rfl, HB6.out⟩
end Go.Proofs.Ytdnmgemjhpkekaa
