/-
  The reference's product.
-/
import Derived.Test.YtbnpnpoddnkaiaaDoorShaQ
namespace Go.Proofs.YtbnpnpoddnkaiaaDoor
open Go.ChangeShapes Go.WideShapes Go.ChangeAt Go.RowKit
set_option linter.unusedVariables false

/-- Block g is a row of n words that read as l. -/
def URow (w : World) (base g n : Nat) (l : List Nat) : Prop := w.ownsRow base 30 1 (.slice (some ⟨g, 0, none⟩) n n) n (uvs l)
theorem URow.len {w : World} {base g n : Nat} {l : List Nat} (h : URow w base g n l) : l.length = n := by have := h.1; simpa [uvs] using this
theorem URow.cell {w : World} {base g n : Nat} {l : List Nat} (h : URow w base g n l) {q : Nat} (hq : q < n) : w.cell? ⟨g, q, none⟩ = some (.int .u64 (l.getD q 0 : Nat)) := by
  rw [World.ownsRow.cellAt h q (by omega)]
  have hl := h.len
  simp [uvs, uv, List.getD_eq_getElem?_getD, List.getElem?_eq_getElem (show q < l.length by omega)]
theorem URow.frozen {w : World} {base g n : Nat} {l : List Nat} (h : URow w base g n l) (q : Nat) : w.frozen? ⟨g, q, none⟩ = false := World.ownsRow.frozenAt h q
theorem URow.set {w : World} {base g n : Nat} {l : List Nat} (h : URow w base g n l) (q x : Nat) : URow (w.setCell ⟨g, q, none⟩ (.int .u64 x)) base g n (l.set q x) := by
  have := (World.ownsRow.stored h q (.int .u64 x)).1
  unfold URow uvs at *
  rw [List.map_set]
  exact this
theorem URow.base {w : World} {base g n : Nat} {l : List Nat} (h : URow w base g n l) : base ≤ g ∧ g < w.heap.size := World.ownsRow.lt h g rfl
theorem make_u {ops : Array Oper} {rest : List Oper} {o : Oper} {a : Act} {Q : Exit → Act → World → Prop} {w : World} (hg : o.guard = none) (l c : Operand) (hop : o.op = Op.makeSlice 57 l c)
    {base : Nat} {kl kc : IntKind} {L C : Int} (n : Nat) (hl : a.eval l = .int kl L) (hc : a.eval c = .int kc C) (hL : L = (n : Int)) (hC : C = (n : Int)) (b2 : n ≤ 1000000) (b4 : base ≤ w.heap.size)
    (h : ∀ w', URow w' base w.heap.size n (List.replicate n 0) → Below w.heap.size w w' → wpList Tryd.prog ops Q rest (a.put o.dst (.slice (some ⟨w.heap.size, 0, none⟩) n n)) w') : wpList Tryd.prog ops Q (o :: rest) a w := by
  obtain ⟨i0, hi, hz0, hz1, hz2⟩ := info_parts Tryd.infoU
  refine wpList_make_full w hg l c 57 hop base 30 i0 _ 1 Tryd.underlying57 hi hz0 hz1 kl kc L C n hl hc hL hC (by rw [hz2]; omega) (by unfold maxLen; omega) b4 (fun w' r1 r2 => h w' ?_ ((Below.refl _ _).grown r2 (Nat.le_refl _) (fun k hk => by cases hk)))
  unfold URow
  have e : (madeCells (Value.int .u64 0).cells (n * 1)).toList = uvs (List.replicate n 0) := by
    rw [Nat.mul_one]
    show (madeCells #[Value.int .u64 0] n).toList = _
    rw [toList_madeCells_one]; simp [uvs, uv]
  rw [← e]
  exact r1
set_option maxRecDepth 100000 in
set_option maxHeartbeats 2000000 in
theorem product_any {B : Nat} {va vb : Value} {a b r : List Nat} {w : World} (ha : URd B w va a) (hb : URd B w vb b) (hB : B ≤ w.heap.size) (hla : a.length ≤ 1000) (hlb : b.length ≤ 1000) (hp : prodM a b = some r) :
    Calls Tryd.prog 30 #[va, vb] w fun e w' => ∃ v, e = .returned v ∧ UOwn w.heap.size w' v r ∧ Below w.heap.size w w' ∧ r.length = a.length + b.length + 1 := by
  have HA := Lib.hid (ha.mono hB)
  have HB := Lib.hid (hb.mono hB)
  obtain ⟨qa, ca, rfl⟩ := ha.form
  obtain ⟨qb, cb, rfl⟩ := hb.form
  obtain ⟨la, hA⟩ : ∃ la, la = a.length := ⟨_, rfl⟩
  obtain ⟨lb, hB2⟩ : ∃ lb, lb = b.length := ⟨_, rfl⟩
  obtain ⟨N, hN⟩ : ∃ N, N = la + lb + 1 := ⟨_, rfl⟩
  have hn : ((la : Int) + lb + 1) = (N : Int) := by omega
  have hw1 : IntKind.i64.wrap ((la : Int) + lb) = (la : Int) + lb := by rw [IntKind.wrap_i64]; omega
  have hN1 : N ≤ 3000 := by omega
  have HN1 : Hid (N ≤ 1000000) := Nat.le_trans hN1 (by omega)
  rw [← hA] at HA ⊢
  rw [← hB2] at HB ⊢
  have HLA := Lib.hid hA
  have HLB := Lib.hid hB2
  have HN := Lib.hid hN
  have HP : Hid (iLoop 20 a b (List.replicate N 0) 0 = some r) := by show _ = _; rw [hN, hA, hB2]; exact hp
  clear ha hb hA hB2 hN hp
  go_enter Tryd.func30, Tryd.ntmps30
  go_wp2_with (refine make_u rfl (.tmp 14) (.tmp 14) rfl (base := w.heap.size) N rfl rfl rfl rfl HN1.out (Nat.le_refl _) ?_)
  intro w1 hr1 hb1
  obtain ⟨G, hG⟩ : ∃ G, G = w.heap.size := ⟨_, rfl⟩
  rw [← hG] at hr1 ⊢
  have HG := Lib.hid hG
  have HM1 : Hid (URow w1 G G N (List.replicate N 0) ∧ Below w.heap.size w w1) := ⟨hr1, hb1⟩
  clear hr1 hb1 hG
  go_wp2_with fail
  go_loopw [6] (fun iv wr => ∃ (f i : Nat) (out : List Nat), i ≤ la ∧ iv = .int .i64 i ∧ Hid (URow wr G G N out ∧ Below w.heap.size w wr ∧ iLoop f a b out i = some r)) (fun iv _ => la - (intOf iv).toNat)
  case atStart => exact ⟨20, 0, _, by omega, rfl, HM1.out.1, HM1.out.2, HP.out⟩
  case round =>
    obtain ⟨f, i, out, hi, rfl, HM⟩ := hrel
    clear HM1 HP
    have hi0 : (0 : Int) ≤ i := by omega
    obtain ⟨f, rfl⟩ : ∃ g, f = g + 1 := by
      cases f with
      | zero => have := HM.out.2.2; simp [iLoop] at this
      | succ g => exact ⟨g, rfl⟩
    by_cases hlt : i < la
    · have hlt1 : (i : Int) < la := by omega
      obtain ⟨ga, oa, rfl, hga, hia, hca⟩ := HA.out.at hlt
      obtain ⟨x, hx⟩ : ∃ x, x = a.getD i 0 := ⟨_, rfl⟩
      rw [← hx] at hca
      have hil := HM.out.2.2
      rw [iLoop, if_pos (by rw [← HLA.out]; exact hlt), ← hx] at hil
      obtain ⟨o1, hk1, hi1⟩ := Option.bind_eq_some_iff.1 hil
      have HCA : Hid (ga < w.heap.size ∧ w.cell? ⟨ga, oa + i, none⟩ = some (.int .u64 (x : Nat))) := ⟨hga, hca⟩
      have HI1 := Lib.hid hi1
      have HK1 : Hid (URow wr G G N out ∧ Below w.heap.size w wr ∧ kLoop 20 x b i out 0 = some o1) := ⟨HM.out.1, HM.out.2.1, hk1⟩
      obtain ⟨wo, hwo⟩ : ∃ wo, wo = wr := ⟨_, rfl⟩
      subst hwo
      clear hca hil hk1 hi1 hx HM hga hia
      go_wp2_with fail
      go_loopw [7, 8] (fun kv _ wr => ∃ (f k : Nat) (out : List Nat), k ≤ lb ∧ kv = .int .i64 k ∧ Hid (URow wr G G N out ∧ Below w.heap.size w wr ∧ kLoop f x b i out k = some o1)) (fun kv _ _ => lb - (intOf kv).toNat)
      case atStart => exact ⟨20, 0, out, by omega, rfl, HK1.out⟩
      case round =>
        obtain ⟨fk, k, out2, hk, rfl, HM⟩ := hrel
        clear HK1
        have hk0 : (0 : Int) ≤ k := by omega
        obtain ⟨fk, rfl⟩ : ∃ g, fk = g + 1 := by
          cases fk with
          | zero => have := HM.out.2.2; simp [kLoop] at this
          | succ g => exact ⟨g, rfl⟩
        by_cases hlk : k < lb
        · have hlk1 : (k : Int) < lb := by omega
          obtain ⟨gb, ob, rfl, hgb, hib, hcb⟩ := HB.out.at hlk
          obtain ⟨y, hy⟩ : ∃ y, y = b.getD k 0 := ⟨_, rfl⟩
          rw [← hy] at hcb
          have hkl := HM.out.2.2
          rw [kLoop, if_pos (by rw [← HLB.out]; exact hlk), ← hy] at hkl
          split at hkl
          case isFalse => cases hkl
          rename_i hok
          obtain ⟨o2, hc2, hk2⟩ := Option.bind_eq_some_iff.1 hkl
          have hN2 := HM.out.1.len
          obtain ⟨j, hj⟩ : ∃ j, j = i + k := ⟨_, rfl⟩
          have hjN : j < N := by have := hok.1; omega
          have hij : (i : Int) + k = (j : Int) := by omega
          have hwj : IntKind.i64.wrap (j : Int) = (j : Int) := by rw [IntKind.wrap_i64]; omega
          have hwi : IntKind.i64.wrap ((i : Int) + k) = (j : Int) := by rw [IntKind.wrap_i64]; omega
          rw [← hj] at hok hc2
          have hjN1 : (j : Int) < N := by omega
          have hj0 : (0 : Int) ≤ j := by omega
          have hrd : URow wr.drew G G N out2 := HM.out.1
          have hbd : Below w.heap.size w wr.drew := HM.out.2.1.drew
          have hco := hrd.cell hjN
          have hfo := hrd.frozen j
          obtain ⟨o, ho⟩ : ∃ o, o = out2.getD j 0 := ⟨_, rfl⟩
          rw [← ho] at hco hok hc2
          have hca := (hbd.cell (p := ⟨ga, oa + i, none⟩) HCA.out.1).trans HCA.out.2
          have hcb2 := (hbd.cell (p := ⟨gb, ob + k, none⟩) hgb).trans hcb
          obtain ⟨xy, hxy⟩ : ∃ xy, xy = x * y := ⟨_, rfl⟩
          rw [← hxy] at hok hc2
          have hok2 := hok.2
          have hm : IntKind.u64.wrap ((x : Int) * y) = (xy : Int) := by
            rw [hxy]; simp only [IntKind.wrap, IntKind.bits, IntKind.signed]
            have : ((x * y : Nat) : Int) = (x : Int) * y := by simp
            rw [← this, ← hxy]; simp; omega
          obtain ⟨z, hz⟩ : ∃ z, z = o + xy := ⟨_, rfl⟩
          rw [← hz] at hc2 hok2
          have hs : IntKind.u64.wrap ((o : Int) + xy) = (z : Int) := by
            have e : (o : Int) + xy = (z : Int) := by omega
            rw [e]; simp [IntKind.wrap, IntKind.bits, IntKind.signed]; omega
          have HMS : Hid (URow (wr.drew.setCell ⟨G, j, none⟩ (.int .u64 z)) G G N (out2.set j z) ∧ Below w.heap.size w (wr.drew.setCell ⟨G, j, none⟩ (.int .u64 z)) ∧ carryM 20 (out2.set j z) j = some o2) :=
            ⟨hrd.set j z, hbd.setCell (Nat.le_of_eq HG.out.symm) _, hc2⟩
          have HK2 := Lib.hid hk2
          have HJN := Lib.hid hjN
          clear hkl hok hc2 hk2 hN2 hj ho hcb hxy hz hok2 hgb hib hy HM hjN hrd hbd
          go_wp2_with fail
          refine region_tail 21 (by kernel_rfl) (by kernel_rfl) ?_
          simp only [List.take_succ_cons, List.take_zero, List.drop_succ_cons, List.drop_zero]
          generalize wr.drew = wd at hco hfo hca hcb2 HMS ⊢
          repeat still_step
          refine wpStill_nil ?_
          go_wp2_with fail
          have HMT := Lib.hid HMS.out
          generalize wd.setCell ⟨G, j, none⟩ (.int .u64 z) = wc at HMS HMT ⊢
          clear hco hfo hca hcb2 HMS hm hs hwi
          go_loopw [8] (fun jv wr => ∃ (f j : Nat) (out : List Nat), j < N ∧ jv = .int .i64 j ∧ Hid (URow wr G G N out ∧ Below w.heap.size w wr ∧ carryM f out j = some o2)) (fun jv _ => N - (intOf jv).toNat)
          case atStart => exact ⟨20, j, _, HJN.out, rfl, HMT.out⟩
          case round =>
            clear hij hwj hjN1 hj0 HJN HMT
            obtain ⟨fc, j2, out3, hjN, rfl, HM⟩ := hrel
            have hjN1 : (j2 : Int) < N := by omega
            have hj0 : (0 : Int) ≤ j2 := by omega
            obtain ⟨fc, rfl⟩ : ∃ g, fc = g + 1 := by
              cases fc with
              | zero => have := HM.out.2.2; simp [carryM] at this
              | succ g => exact ⟨g, rfl⟩
            have hcl := HM.out.2.2
            have hN3 := HM.out.1.len
            rw [carryM, if_pos (by omega)] at hcl
            have hco := HM.out.1.cell hjN
            have hfo := HM.out.1.frozen j2
            obtain ⟨o, ho⟩ : ∃ o, o = out3.getD j2 0 := ⟨_, rfl⟩
            rw [← ho] at hco hcl
            by_cases hsm : o < 65536
            · have hsm1 : ¬ (65536 : Int) ≤ o := by omega
              rw [if_pos hsm] at hcl
              obtain rfl := Option.some.inj hcl
              have HK3 : Hid (URow wr G G N out3 ∧ Below w.heap.size w wr ∧ kLoop fk x b i out3 (k + 1) = some o1) := ⟨HM.out.1, HM.out.2.1, HK2.out⟩
              clear hcl hN3 ho HM HK2
              go_wp2_with fail
              go_roundw
              case rel => exact ⟨fk, k + 1, out3, by omega, by go_num, HK3.out⟩
              case measure => simp [intOf]; omega
            · have hsm1 : (65536 : Int) ≤ o := by omega
              rw [if_neg hsm] at hcl
              split at hcl
              case isFalse => cases hcl
              rename_i hok
              have hjN2 : j2 + 1 < N := by have := hok.1; omega
              have hjN3 : (j2 : Int) + 1 < N := by omega
              have hco2 := HM.out.1.cell hjN2
              have hfo2 := HM.out.1.frozen (j2 + 1)
              obtain ⟨u, hu⟩ : ∃ u, u = out3.getD (j2 + 1) 0 := ⟨_, rfl⟩
              rw [← hu] at hco2 hok hcl
              obtain ⟨q, hq⟩ : ∃ q, q = o / 65536 := ⟨_, rfl⟩
              obtain ⟨m, hm⟩ : ∃ m, m = o % 65536 := ⟨_, rfl⟩
              rw [← hq] at hok hcl
              rw [← hm] at hcl
              have hqi : (o : Int) / 65536 = (q : Int) := by omega
              have hmi : (o : Int) % 65536 = (m : Int) := by omega
              obtain ⟨z, hz⟩ : ∃ z, z = u + q := ⟨_, rfl⟩
              rw [← hz] at hok hcl
              have hs : IntKind.u64.wrap ((u : Int) + q) = (z : Int) := by
                have e : (u : Int) + q = (z : Int) := by omega
                have := hok.2
                rw [e]; simp [IntKind.wrap, IntKind.bits, IntKind.signed]; omega
              have hwq : IntKind.u64.wrap (q : Int) = (q : Int) := by
                have := hok.2
                simp [IntKind.wrap, IntKind.bits, IntKind.signed]; omega
              have hwj1 : IntKind.i64.wrap ((j2 : Int) + 1) = (j2 : Int) + 1 := by rw [IntKind.wrap_i64]; omega
              have hj20 : (0 : Int) ≤ (j2 : Int) + 1 := by omega
              have hj2e : (out3.set (j2 + 1) z).getD j2 0 = o := by
                rw [ho]; simp [List.getD_eq_getElem?_getD]
              have HMZ : Hid (URow (wr.drew.setCell ⟨G, j2 + 1, none⟩ (.int .u64 z)) G G N (out3.set (j2 + 1) z) ∧ Below w.heap.size w (wr.drew.setCell ⟨G, j2 + 1, none⟩ (.int .u64 z)) ∧ carryM fc ((out3.set (j2 + 1) z).set j2 m) (j2 + 1) = some o2 ∧ (out3.set (j2 + 1) z).getD j2 0 = o) :=
                ⟨URow.set (w := wr.drew) HM.out.1 _ _, (HM.out.2.1.drew).setCell (Nat.le_of_eq HG.out.symm) _, hcl, hj2e⟩
              have HDC : Hid (wr.drew.cell? ⟨G, j2, none⟩ = some (.int .u64 (o : Nat)) ∧ wr.drew.frozen? ⟨G, j2, none⟩ = false ∧ wr.drew.cell? ⟨G, j2 + 1, none⟩ = some (.int .u64 (u : Nat)) ∧ wr.drew.frozen? ⟨G, j2 + 1, none⟩ = false) := ⟨hco, hfo, hco2, hfo2⟩
              clear hfo hco2 hfo2
              clear hj2e
              clear hok hcl hsm hu hq hm hz ho hN3 HM
              have hj2n : ((j2 : Int) + 1).toNat = j2 + 1 := by omega
              go_wp2_with fail
              refine region_tail 15 (by kernel_rfl) (by kernel_rfl) ?_
              simp only [List.take_succ_cons, List.take_zero, List.drop_succ_cons, List.drop_zero]
              clear hco
              generalize wr.drew = wd at HDC HMZ ⊢
              obtain ⟨hco, hfo, hco2, hfo2⟩ := HDC.out
              repeat still_step
              refine wpStill_nil ?_
              go_wp2_with fail
              go_roundw
              case rel => exact ⟨fc, j2 + 1, _, hjN2, by go_num, HMZ.out.1.set j2 m, HMZ.out.2.1.setCell (Nat.le_of_eq HG.out.symm) _, HMZ.out.2.2.1⟩
              case measure => simp [intOf]; omega
        · obtain rfl : k = lb := by omega
          have hkl := HM.out.2.2
          rw [kLoop, if_neg (by rw [← HLB.out]; omega)] at hkl
          obtain rfl := Option.some.inj hkl
          have HNX : Hid (URow wr G G N out2 ∧ Below w.heap.size w wr ∧ iLoop f a b out2 (i + 1) = some r) := ⟨HM.out.1, HM.out.2.1, HI1.out⟩
          clear hkl HM HI1
          go_wp2_with fail
          go_roundw
          case rel => exact ⟨f, i + 1, out2, by omega, by go_num, HNX.out⟩
          case measure => simp [intOf]; omega
    · obtain rfl : i = la := by omega
      have hil := HM.out.2.2
      rw [iLoop, if_neg (by rw [← HLA.out]; omega)] at hil
      obtain rfl := Option.some.inj hil
      have HFN : Hid (UOwn w.heap.size wr (.slice (some ⟨G, 0, none⟩) N N) out ∧ Below w.heap.size w wr ∧ out.length = i + lb + 1) := by
        have h := HM.out.1
        refine ⟨?_, HM.out.2.1, by rw [h.len, HN.out]⟩
        unfold UOwn
        rw [h.len, ← HG.out]
        exact h
      clear hil HM
      go_wp2_with fail
      go_ret
      exact ⟨_, rfl, HFN.out⟩
end Go.Proofs.YtbnpnpoddnkaiaaDoor
