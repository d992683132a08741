/-
  merge.Fold.
-/
import Derived.Test.YtebbbiikphfjcaaMgN
namespace Go.Proofs.Ytebbbiikphfjcaa
open Go.ChangeShapes Go.WideShapes Go.ChangeAt Go.RowKit Go.Lib Go.Sort
open Go.Maps
set_option linter.unusedVariables false

/-- What the range over the map has come to: the lists of what was deleted and of what was touched, of the keys that are no longer to come. -/
def FI (c : List Cg) (left : Lit → Bool) (del tou : List Tu) : Prop :=
  (∀ kl, left kl = true → has (foldD c) kl = true) ∧ (∀ x, x ∈ del → lastC x c = some true ∧ left (klT x) = false) ∧ (∀ x, x ∈ tou → lastC x c = some false ∧ left (klT x) = false) ∧
    ∀ x d, lastC x c = some d → left (klT x) = false → x ∈ if d = true then del else tou
theorem lastC_in {x : Tu} {d : Bool} : ∀ {c : List Cg}, lastC x c = some d → ∃ y ∈ c, y.2 = x
  | [], h => by cases h
  | a :: r, h => by
    rw [lastC] at h
    cases hr : lastC x r with
    | some e =>
      obtain ⟨y, hy, e⟩ := lastC_in hr
      exact ⟨y, by simp [hy], e⟩
    | none =>
      rw [hr] at h
      by_cases e : eqT a.2 x = true
      · exact ⟨a, by simp, eqT_eq.1 e⟩
      · rw [if_neg e] at h; cases h
theorem FI.start {c : List Cg} (hz : ∀ y ∈ c, sizesT y.2 maxLen) : FI c (has (foldD c)) [] [] :=
  ⟨fun _ h => h, fun x h => (by cases h), fun x h => (by cases h), fun x d h h2 => by
    obtain ⟨y, hy, rfl⟩ := lastC_in h
    rw [(foldD_at y.2 (hz y hy) c hz).1, h] at h2
    cases h2⟩
theorem sameKey_klT {x u : Tu} {c : List Cg} (hx : sizesT x maxLen) (hu : sizesT u maxLen) (h : (klT x).sameKey (klT u) = true) : x = u :=
  klT_inj hx hu (WideAt.sameKey_eq h)
theorem FI.step {c : List Cg} {left : Lit → Bool} {del tou : List Tu} (h : FI c left del tou) (hz : ∀ y ∈ c, sizesT y.2 maxLen) {u : Tu} (hu : sizesT u maxLen) {d : Bool} (hd : lastC u c = some d) :
    FI c (fun z => left z && !z.sameKey (klT u)) (if d = true then del ++ [u] else del) (if d = true then tou else tou ++ [u]) := by
  obtain ⟨h1, h2, h3, h4⟩ := h
  have hs : (left (klT u) && !(klT u).sameKey (klT u)) = false := by rw [WideAt.sameKey_self (klT_key u)]; simp
  have mem2 : ∀ x, x ∈ del → lastC x c = some true ∧ (left (klT x) && !(klT x).sameKey (klT u)) = false := fun x hx => ⟨(h2 x hx).1, by rw [(h2 x hx).2]; rfl⟩
  have mem3 : ∀ x, x ∈ tou → lastC x c = some false ∧ (left (klT x) && !(klT x).sameKey (klT u)) = false := fun x hx => ⟨(h3 x hx).1, by rw [(h3 x hx).2]; rfl⟩
  refine ⟨fun kl hk => h1 kl (by simp only [Bool.and_eq_true] at hk; exact hk.1), fun x hx => ?_, fun x hx => ?_, fun x e hx hl => ?_⟩
  · cases d with
    | false => exact mem2 x hx
    | true =>
      rw [if_pos rfl, List.mem_append, List.mem_singleton] at hx
      rcases hx with hx | rfl
      · exact mem2 x hx
      · exact ⟨hd, hs⟩
  · cases d with
    | true => exact mem3 x hx
    | false =>
      rw [if_neg (by simp), List.mem_append, List.mem_singleton] at hx
      rcases hx with hx | rfl
      · exact mem3 x hx
      · exact ⟨hd, hs⟩
  · cases hlx : left (klT x) with
    | false =>
      have := h4 x e hx hlx
      cases d <;> cases e <;> simp at this ⊢ <;> first | exact this | exact .inl this
    | true =>
      have hl' : (left (klT x) && !(klT x).sameKey (klT u)) = false := hl
      rw [hlx, Bool.true_and, Bool.not_eq_false'] at hl'
      obtain ⟨y, hy, rfl⟩ := lastC_in hx
      have e2 := sameKey_klT (c := c) (hz y hy) hu hl'
      rw [e2] at hx ⊢
      rw [hd] at hx
      cases hx
      cases d <;> simp
theorem FI.done {c : List Cg} {left : Lit → Bool} {del tou l : List Tu} (h : FI c left del tou) (h0 : ∀ kl, left kl = false) (hl : Ris l) : unionT [minusT l (sortedT del), sortedT tou] = foldC l c := by
  obtain ⟨h1, h2, h3, h4⟩ := h
  exact fold_eq hl c (fun x => ⟨fun hx => (h2 x hx).1, fun hx => by have := h4 x true hx (h0 _); simpa using this⟩) (fun x => ⟨fun hx => (h3 x hx).1, fun hx => by have := h4 x false hx (h0 _); simpa using this⟩)
/-- A bool of its own (the walk splits what is said of every Bool). -/
structure Bx where
  d : Bool
def bxV (x : Bx) : Value := .bool x.d
set_option maxRecDepth 100000 in
set_option maxHeartbeats 4000000 in
theorem fold_any {w : World} {v cv : Value} {l : List Tu} {C : List Ce} (hl : TuSl w v l) (hris : Ris l) (hc : RdS cc w cv C) (hlen : l.length + C.length ≤ 9000) (hz : ∀ x ∈ C, sizesT x.2.2 maxLen) :
    Calls Try.prog 24 #[v, cv] w fun e w' => ∃ v', e = .returned v' ∧ Below w.heap.size w w' ∧ TuSl w' v' (foldC l (C.map Prod.snd)) := by
  obtain ⟨p, cap, rfl, hrow⟩ := hc.form cc_length (by decide)
  have HROW := Lib.hid hrow
  have HL := Lib.hid hl
  have HRIS := Lib.hid hris
  have HC := Lib.hid hlen
  have hzm : ∀ y ∈ C.map Prod.snd, sizesT y.2 maxLen := fun y hy => by
    obtain ⟨x, hx, rfl⟩ := List.mem_map.1 hy
    exact hz x hx
  have HZ := Lib.hid hzm
  have HZC := Lib.hid hz
  have hmm := @run_makeMap Try.prog
  have HM0 : Hid ((w.alloc (.map #[] 0)).ownsMap Try.prog 34 (plainElem (H := Unit) Try.prog 4) w.heap.size 0 (foldD [])) := World.ownsMap_made _ _ _ _
  have HB0 : Hid (Below w.heap.size w (w.alloc (.map #[] 0))) := (Below.refl _ _).alloc (Nat.le_refl _) _
  obtain ⟨c, hcm⟩ : ∃ c, c = C.map Prod.snd := ⟨_, rfl⟩
  rw [← hcm] at HZ ⊢
  have HCM := Lib.hid hcm
  clear hl hris hc hlen hrow hz hzm hcm
  go_enter Try.func24, Try.ntmps24
  go_wp2_with fail
  generalize w.alloc (.map #[] 0) = w1 at HM0 HB0 ⊢
  go_loopg [15] C.length (fun gg s15 wr => ∃ i : Nat, i ≤ C.length ∧ C.length - i ≤ gg ∧ s15 = .int .i64 i ∧ Below w.heap.size w wr ∧ wr.ownsMap Try.prog 34 (plainElem (H := Unit) Try.prog 4) w.heap.size i (foldD ((C.take i).map Prod.snd)))
  case atStart => exact ⟨0, Nat.zero_le _, by omega, rfl, HB0.out, HM0.out⟩
  case round =>
    obtain ⟨i, hi, hgi, rfl, hB, hM⟩ := hrel
    have HB := Lib.hid hB
    have HM := Lib.hid hM
    clear hB hM HM0 HB0
    by_cases hlt : i < C.length
    · obtain ⟨b, off, rfl, hb, hr⟩ := HROW.out i hlt
      have hzi := HZC.out _ (List.getElem_mem hlt)
      have hne : foldD ((C.take (i + 1)).map Prod.snd) = (foldD ((C.take i).map Prod.snd)).put (klT (C[i]).2.2) (bl (C[i]).2.1) := by
        rw [List.take_add_one, List.getElem?_eq_getElem hlt, List.map_append]
        exact foldD_snoc _ _
      obtain ⟨⟨n, d, u⟩, hx⟩ : ∃ x, x = C[i] := ⟨_, rfl⟩
      rw [← hx] at hr hzi hne
      have HRI : Hid (wr.rangeAt b (off + i * 8) (cc (n, d, u))) := range_below hr hb HB.out
      have HKY := Lib.hid (keyT_of u hzi)
      have HNE := Lib.hid hne
      have ba : Below wr.heap.size wr (wr.alloc (.cells #[.int .u64 n, .bool d, .string u.ot, .string u.oi, .string u.re, .string u.st, .string u.si, .string u.us] 45)) := (Below.refl _ _).alloc (Nat.le_refl _) _
      have HB2 := Lib.hid (HB.out.trans (ba.mono HB.out.size))
      have HM2 := Lib.hid (HM.out.alloc (.cells #[.int .u64 n, .bool d, .string u.ot, .string u.oi, .string u.re, .string u.st, .string u.si, .string u.us] 45))
      have HA2 : Hid (Arr (wr.alloc (.cells #[.int .u64 n, .bool d, .string u.ot, .string u.oi, .string u.re, .string u.st, .string u.si, .string u.us] 45)) 45 wr.heap.size (cc (n, d, u))) := ce_new wr n d u
      have hw : wrap64 ((i : Int) + 1) = (i : Int) + 1 := by unfold wrap64; have := HC.out; omega
      obtain ⟨gx, hgx⟩ : ∃ g, g = wr.heap.size := ⟨_, rfl⟩
      rw [← hgx] at HA2
      clear hx hr hb hzi hne ba
      go_upto_region 5 with ((with_reducible refine loadCe (x := .tmp 17) (n := n) (d := d) (u := u) (o := ⟨some 18, _, _, _, _, _⟩) HRI.out ?_ ?_); exact ⟨rfl, rfl, by go_simp⟩)
      rw [← hgx]
      clear hgx HRI HM HB
      generalize wr.alloc (.cells #[.int .u64 n, .bool d, .string u.ot, .string u.oi, .string u.re, .string u.st, .string u.si, .string u.us] 45) = w2 at HB2 HM2 HA2 ⊢
      have HT2 : Hid (w2.rangeAt gx 2 (tc u)) := by
        have h := cc_tail (x := (n, d, u)) (Arr.range HA2.out)
        rw [Nat.zero_add] at h; exact h
      have hd2 : w2.cell? ⟨gx, 1, none⟩ = some (.bool d) := Arr.cell HA2.out 1
      go_wp2_with (first
        | ((with_reducible refine loadMX (x := .tmp 20) (u := u) (o := ⟨some 21, _, _, _, _, _⟩) HT2.out ?_ ?_); exact ⟨rfl, rfl, rfl⟩)
        | (at_mapUpdate; refine wpList_mapUpdate_own _ rfl _ _ _ 63 rfl 34 4 Try.lawT Try.underlying63 _ w.heap.size i _ rfl HM2.out (by unfold maxLen; have := HC.out; omega) (tuV u) (.bool d) (klT u) rfl rfl HKY.out (bl d) [] (plainElem_bool Try.underlying4 d) ?_; intro w3 hm3 g3))
      have HM3 := Lib.hid hm3
      have HB3 := Lib.hid (HB2.out.grown g3 HB2.out.size (fun k hk => by cases hk; exact Nat.le_refl _))
      clear hm3 g3 HM2 HB2 HA2 HT2 hd2
      go_roundg (C.length - (i + 1))
      case measure => omega
      case rel => exact ⟨i + 1, by omega, Nat.le_refl _, by go_num, HB3.out, by rw [HNE.out]; exact HM3.out⟩
    · have hti : (C.take i).map Prod.snd = c := by rw [HCM.out, List.take_of_length_le (by omega)]
      have HM1 := HM.out
      rw [hti] at HM1
      have hil : i = C.length := by omega
      rw [hil] at HM1
      have HM2 := Lib.hid HM1
      clear HM HM1 hti hil
      go_wp2_with (at_range; refine wpList_range_own _ rfl _ 63 rfl 34 4 Try.lawT Try.underlying63 _ w.heap.size C.length (foldD c) rfl HM2.out ?_; intro w4 hr4 g4 hs4)
      go_frame
      obtain ⟨R, hR⟩ : ∃ R, R = wr.heap.size := ⟨_, rfl⟩
      have HWR : Hid (w.heap.size ≤ R) := by rw [hR]; exact HB.out.size
      have HMR : Hid (w.heap.size < R) := by rw [hR]; exact HM2.out.lt
      rw [← hR] at hr4 hs4 ⊢
      have HR4 := Lib.hid hr4
      have HB4 := Lib.hid (HB.out.grown g4 HB.out.size (fun k hk => by cases hk))
      have HS4 : Hid (R + 1 ≤ w4.heap.size) := by show _ ≤ _; omega
      have HSZ := Lib.hid HM2.out.size_le
      clear hr4 g4 hs4 HM2 HB hR
      go_loopw [8, 9] (fun s8 s9 wr => ∃ (left : Lit → Bool) (cnt : Nat) (del tou : List Tu) (q8 : Option Addr) (c8 : Nat) (q9 : Option Addr) (c9 : Nat), s8 = .slice q8 tou.length c8 ∧ s9 = .slice q9 del.length c9 ∧
        wr.ranges Try.prog 34 (plainElem (H := Unit) Try.prog 4) w.heap.size R C.length (foldD c) left cnt ∧ Below w.heap.size w wr ∧ R + 1 ≤ wr.heap.size ∧ wr.ownsRow (R + 1) 34 6 (.slice q8 tou.length c8) tou.length (tou.flatMap tc) ∧ wr.ownsRow (R + 1) 34 6 (.slice q9 del.length c9) del.length (del.flatMap tc) ∧
        Apt (.slice q8 tou.length c8) (.slice q9 del.length c9) ∧ del.length + tou.length + cnt ≤ C.length ∧ FI c left del tou) (fun _ _ wr => wr.rangeLeft w.heap.size R)
      case atStart => exact ⟨_, _, [], [], none, 0, none, 0, rfl, rfl, HR4.out, HB4.out, HS4.out, World.ownsRow_nil _ _ _ _, World.ownsRow_nil _ _ _ _, (fun k h => by cases h), by simpa using HSZ.out, FI.start HZ.out⟩
      case round =>
        obtain ⟨left, cnt, del, tou, q8, c8, q9, c9, rfl, rfl, hr, hB, hS, hT, hD, hA, hL, hF⟩ := hrel
        have HR := Lib.hid hr
        have HB := Lib.hid hB
        have HS := Lib.hid hS
        have HT := Lib.hid hT
        have HD := Lib.hid hD
        have HAP := Lib.hid hA
        have HLN := Lib.hid hL
        have HF := Lib.hid hF
        have HRL := Lib.hid hr.left_eq
        clear hr hB hS hT hD hA hL hF HR4 HB4 HS4
        go_wp2_with (at_next; refine wpList_next_ranges _ rfl _ rfl 34 Try.lawT _ tuV bxV (fun key kl hk => by obtain ⟨x, e, _⟩ := keyT_inv hk; exact ⟨x, e⟩) (fun v y hv => by obtain ⟨d, e, _⟩ := plainElem_bool_inv Try.underlying4 hv; exact ⟨⟨d⟩, e⟩) w.heap.size R C.length (foldD c) left cnt rfl HR.out ?_ ?_)
        · intro _ hl0
          have HE := Lib.hid (HF.out.done hl0 HRIS.out)
          clear hl0
          have hld : del.length ≤ 9000 := by have := HLN.out; have := HC.out; omega
          have hlt2 : tou.length ≤ 9000 := by have := HLN.out; have := HC.out; omega
          have HLT2 := Lib.hid hlt2
          have HSL : Hid (∀ l : List Tu, (sortedT l).length ≤ l.length) := fun l => by
            have h := srt_len l []
            unfold sortedT
            simp only [List.length_nil] at h
            omega
          have htt : TuSl wr (.slice q8 tou.length c8) tou := ownsRow_sl HT.out
          have HTT := Lib.hid htt
          have HSO := Lib.hid (tsorted_any (ownsRow_sl HD.out) (Nat.le_trans hld (by decide)))
          have hsd := Nat.le_trans (HSL.out del) hld
          have HSD := Lib.hid hsd
          have HSM : Hid ((minusT l (sortedT del)).length + (sortedT tou).length ≤ 9000) := by
            have h1 : (minusT l (sortedT del)).length ≤ l.length := List.length_filter_le _ _
            have h2 := HSL.out tou
            have h3 := HLN.out
            have h4 := HC.out
            show _ ≤ _
            omega
          have HLL : Hid (l.length ≤ 100000) := by have := HC.out; show _ ≤ _; omega
          have hminus := minG_eq l (sortedT del) HRIS.out (sorted_ris del)
          have HMN := Lib.hid hminus
          clear hld hlt2 htt hsd hminus HR HT HD HAP HLN HF HRL HS
          go_wp2_with fail
          refine HSO.out.mono ?_
          rintro e w5 ⟨v5, rfl, b5, t5⟩
          have HB5 := Lib.hid (HB.out.trans (b5.mono HB.out.size))
          have HT5 := Lib.hid (HTT.out.below b5)
          have HMI := Lib.hid (minus_any (HL.out.below HB5.out) t5 HLL.out (Nat.le_trans HSD.out (by decide)))
          rw [HMN.out] at HMI
          clear b5 t5 HSO HTT HB
          go_wp2_with fail
          refine HMI.out.mono ?_
          rintro e w6 ⟨v6, rfl, b6, t6⟩
          have HB6 := Lib.hid (HB5.out.trans (b6.mono HB5.out.size))
          have HT6 := Lib.hid (HT5.out.below b6)
          have HS6 := Lib.hid (tsorted_any HT6.out (Nat.le_trans HLT2.out (by decide)))
          obtain ⟨M, hM⟩ : ∃ M, M = minusT l (sortedT del) := ⟨_, rfl⟩
          have HRM : Hid (Ris M) := by rw [hM]; exact minusT_ris HRIS.out _
          rw [← hM] at t6 HSM HE
          have HM6 := Lib.hid t6
          obtain ⟨q6, m6, rfl, _⟩ := t6.src
          clear b6 hM HMI HMN HT5 HB5
          go_wp2_with fail
          refine HS6.out.mono ?_
          rintro e w7 ⟨v7, rfl, b7, t7⟩
          have HB7 := Lib.hid (HB6.out.trans (b7.mono HB6.out.size))
          have HM7 := Lib.hid (HM6.out.below b7)
          obtain ⟨S, hS⟩ : ∃ S, S = sortedT tou := ⟨_, rfl⟩
          have HRS : Hid (Ris S) := by rw [hS]; exact sorted_ris tou
          rw [← hS] at t7 HSM HE
          have HS7 := Lib.hid t7
          obtain ⟨q7, m7, rfl, _⟩ := t7.src
          clear b7 hS HS6 HT6 HM6 HB6
          have ba : Below w7.heap.size w7 (w7.alloc (.cells #[.slice q6 M.length m6, .slice q7 S.length m7] 24)) := (Below.refl _ _).alloc (Nat.le_refl _) _
          have HB8 := Lib.hid (HB7.out.trans (ba.mono HB7.out.size))
          have HA8 : Arr (w7.alloc (.cells #[.slice q6 M.length m6, .slice q7 S.length m7] 24)) 24 w7.heap.size [.slice q6 M.length m6, .slice q7 S.length m7] := Arr.new' w7 _ _ _ rfl
          have hlls : LLs (w7.alloc (.cells #[.slice q6 M.length m6, .slice q7 S.length m7] 24)) (.slice (some ⟨w7.heap.size, 0, none⟩) 2 2) [M, S] := ⟨_, _, rfl, fun i hi => by
            match i, hi with
            | 0, _ => exact ⟨_, 0, _, rfl, by simp, Arr.cell HA8 0, HM7.out.below ba⟩
            | 1, _ => exact ⟨_, 0, _, rfl, by simp, Arr.cell HA8 1, HS7.out.below ba⟩⟩
          have HU := Lib.hid (union_any hlls (fun x hx => by
            simp only [List.mem_cons, List.not_mem_nil, or_false] at hx
            rcases hx with rfl | rfl
            · exact HRM.out
            · exact HRS.out) (by show 2 ≤ 100000; decide) (by have := HSM.out; simpa using this))
          clear ba HA8 hlls HM7 HS7 HB7
          go_wp2_with fail
          refine HU.out.mono ?_
          rintro e w9 ⟨v9, rfl, b9, t9⟩
          have HB9 := Lib.hid (HB8.out.trans (b9.mono HB8.out.size))
          have HT9 : Hid (TuSl w9 v9 (foldC l c)) := by
            rw [← HE.out]; exact t9
          clear b9 t9 HU HB8
          go_wp2_with fail
          go_ret
          exact ⟨_, rfl, HB9.out, HT9.out⟩
        · intro u ⟨d⟩ kl y1 y2 w5 cnt5 hkey hlk hv hat hr5 hlt5 hg5 hs5 hen
          simp only [bxV] at hv hen ⊢
          obtain ⟨u', e0, hu, hkl⟩ := keyT_inv hkey
          obtain rfl : u = u' := tuV_inj e0
          obtain ⟨d', e1, hy⟩ := plainElem_bool_inv Try.underlying4 hv
          cases e1
          have hlast : lastC u c = some d := by
            have h1 := HF.out.1 kl hlk
            rw [hkl] at h1 hat
            have h2 := foldD_at u hu c HZ.out
            rw [h2.1] at h1
            cases h3 : lastC u c with
            | none => rw [h3] at h1; cases h1
            | some e =>
              have h4 := (h2.2 e h3 (bl true)).symm.trans (hat (bl true))
              rw [(Prod.mk.inj hy).1] at h4
              unfold bl at h4
              simp only [DataW.lit.injEq, Lit.bool.injEq] at h4
              rw [h4]
          rw [hkl] at hr5
          have HFN := Lib.hid (HF.out.step HZ.out hu hlast)
          have HB5 := Lib.hid (HB.out.grown hg5 HB.out.size (fun k hk => by cases hk; exact HWR.out))
          have HT5 := Lib.hid (HT.out.kept hg5 (by right; intro e; have := own_fresh HT.out R e; omega))
          have HD5 := Lib.hid (HD.out.kept hg5 (by right; intro e; have := own_fresh HD.out R e; omega))
          have HR5 := Lib.hid hr5
          have HLT := Lib.hid hlt5
          have HS5 : Hid (R + 1 ≤ w5.heap.size) := by show _ ≤ _; rw [hs5]; exact HS.out
          simp only [tuV_x] at hen ⊢
          have ba : Below w5.heap.size w5 (w5.alloc (.cells #[.string u.ot, .string u.oi, .string u.re, .string u.st, .string u.si, .string u.us] 34)) := (Below.refl _ _).alloc (Nat.le_refl _) _
          have HB6 := Lib.hid (HB5.out.trans (ba.mono HB5.out.size))
          have HT6 := Lib.hid (own_keep HT5.out ba)
          have HD6 := Lib.hid (own_keep HD5.out ba)
          have HR6 := Lib.hid (HR5.out.kept (grown_of ba none) (by simp) (by simp))
          have HS6 : Hid (R + 1 ≤ (w5.alloc (.cells #[.string u.ot, .string u.oi, .string u.re, .string u.st, .string u.si, .string u.us] 34)).heap.size) := Nat.le_trans HS5.out ba.size
          have HX6 : Hid (Arr (w5.alloc (.cells #[.string u.ot, .string u.oi, .string u.re, .string u.st, .string u.si, .string u.us] 34)) 34 w5.heap.size (tc u)) := tu_new w5 u
          clear hkey hlk hv hat hr5 hlt5 hg5 hs5 hkl hlast hy ba HT HD HR HB HF HS
          go_upto_region 11 with (fail)
          clear hen HB5 HT5 HD5 HR5 HS5
          generalize w5.alloc (.cells #[.string u.ot, .string u.oi, .string u.re, .string u.st, .string u.si, .string u.us] 34) = w6 at HB6 HT6 HD6 HR6 HS6 HX6 ⊢
          cases d with
          | true =>
            rw [if_pos rfl, if_pos rfl] at HFN
            have ba : Below w6.heap.size w6 (w6.alloc (.cells #[.string u.ot, .string u.oi, .string u.re, .string u.st, .string u.si, .string u.us] 34)) := (Below.refl _ _).alloc (Nat.le_refl _) _
            have HB7 := Lib.hid (HB6.out.trans (ba.mono HB6.out.size))
            have HD2 := Lib.hid (own_keep HD6.out ba)
            have HT2 := Lib.hid (own_keep HT6.out ba)
            have HR7 := Lib.hid (HR6.out.kept (grown_of ba none) (by simp) (by simp))
            have HN7 : Hid ((w6.alloc (.cells #[.string u.ot, .string u.oi, .string u.re, .string u.st, .string u.si, .string u.us] 34)).rangeAt w6.heap.size 0 (tc u)) := Arr.range (Arr.new' w6 34 _ _ rfl)
            have HS7 : Hid (R + 1 ≤ (w6.alloc (.cells #[.string u.ot, .string u.oi, .string u.re, .string u.st, .string u.si, .string u.us] 34)).heap.size) := Nat.le_trans HS6.out ba.size
            clear ba
            go_wp2_with (first | ((with_reducible refine loadX (x := .tmp 10) (t := u) (o := ⟨some 34, _, _, _, _, _⟩) HX6.out ?_ ?_); exact ⟨rfl, rfl, rfl⟩) | (at_builtin; refine appTw rfl _ _ rfl (base := R + 1) (t := u) rfl HD2.out HT2.out HAP.out.swap rfl HN7.out (by have := HLN.out; have := HC.out; omega) HS7.out ?_; intro v8 w8 h8 k8 a8 g8))
            have HB8 := Lib.hid (HB7.out.grown g8.out HB7.out.size (fun k hk => Nat.le_trans HWR.out (Nat.le_trans (Nat.le_succ _) (own_fresh HD2.out k hk))))
            have HR8 := Lib.hid (HR7.out.kept g8.out (by intro e; have := own_fresh HD2.out _ e.symm; have := HMR.out; omega) (by intro e; have := own_fresh HD2.out _ e.symm; omega))
            have HS8 : Hid (R + 1 ≤ w8.heap.size) := Nat.le_trans HS7.out g8.out.size
            obtain ⟨q, c, rfl⟩ := own_formT h8
            clear g8 HB7 HD2 HT2 HR7 HN7 HS7
            go_roundw
            case rel => exact ⟨_, cnt5, del ++ [u], tou, q8, c8, q, c, rfl, by rw [List.length_append]; rfl, HR8.out, HB8.out, HS8.out, k8, by rw [List.length_append]; exact h8, by rw [List.length_append]; exact a8.swap, by have := HLN.out; have := HLT.out; simp only [List.length_append, List.length_singleton]; omega, HFN.out⟩
            case measure => rw [HR8.out.left_eq, HRL.out]; exact HLT.out
          | false =>
            rw [if_neg (by simp), if_neg (by simp)] at HFN
            have ba : Below w6.heap.size w6 (w6.alloc (.cells #[.string u.ot, .string u.oi, .string u.re, .string u.st, .string u.si, .string u.us] 34)) := (Below.refl _ _).alloc (Nat.le_refl _) _
            have HB7 := Lib.hid (HB6.out.trans (ba.mono HB6.out.size))
            have HD2 := Lib.hid (own_keep HD6.out ba)
            have HT2 := Lib.hid (own_keep HT6.out ba)
            have HR7 := Lib.hid (HR6.out.kept (grown_of ba none) (by simp) (by simp))
            have HN7 : Hid ((w6.alloc (.cells #[.string u.ot, .string u.oi, .string u.re, .string u.st, .string u.si, .string u.us] 34)).rangeAt w6.heap.size 0 (tc u)) := Arr.range (Arr.new' w6 34 _ _ rfl)
            have HS7 : Hid (R + 1 ≤ (w6.alloc (.cells #[.string u.ot, .string u.oi, .string u.re, .string u.st, .string u.si, .string u.us] 34)).heap.size) := Nat.le_trans HS6.out ba.size
            clear ba
            go_wp2_with (first | ((with_reducible refine loadX (x := .tmp 10) (t := u) (o := ⟨some 38, _, _, _, _, _⟩) HX6.out ?_ ?_); exact ⟨rfl, rfl, rfl⟩) | (at_builtin; refine appTw rfl _ _ rfl (base := R + 1) (t := u) rfl HT2.out HD2.out HAP.out rfl HN7.out (by have := HLN.out; have := HC.out; omega) HS7.out ?_; intro v8 w8 h8 k8 a8 g8))
            have HB8 := Lib.hid (HB7.out.grown g8.out HB7.out.size (fun k hk => Nat.le_trans HWR.out (Nat.le_trans (Nat.le_succ _) (own_fresh HT2.out k hk))))
            have HR8 := Lib.hid (HR7.out.kept g8.out (by intro e; have := own_fresh HT2.out _ e.symm; have := HMR.out; omega) (by intro e; have := own_fresh HT2.out _ e.symm; omega))
            have HS8 : Hid (R + 1 ≤ w8.heap.size) := Nat.le_trans HS7.out g8.out.size
            obtain ⟨q, c, rfl⟩ := own_formT h8
            clear g8 HB7 HD2 HT2 HR7 HN7 HS7
            go_roundw
            case rel => exact ⟨_, cnt5, del, tou ++ [u], q, c, q9, c9, by rw [List.length_append]; rfl, rfl, HR8.out, HB8.out, HS8.out, by rw [List.length_append]; exact h8, k8, by rw [List.length_append]; exact a8, by have := HLN.out; have := HLT.out; simp only [List.length_append, List.length_singleton]; omega, HFN.out⟩
            case measure => rw [HR8.out.left_eq, HRL.out]; exact HLT.out
    
end Go.Proofs.Ytebbbiikphfjcaa
