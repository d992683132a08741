/-
  The reference's Prime and Root.
-/
import Derived.Test.YtbnpnpoddnkaiaaDoorShaR
namespace Go.Proofs.YtbnpnpoddnkaiaaDoor
open Go.ChangeShapes Go.WideShapes Go.ChangeAt Go.RowKit
set_option linter.unusedVariables false

set_option maxRecDepth 100000 in
set_option maxHeartbeats 2000000 in
theorem prime_any (i p : Nat) (hi : i < 1000) (hp : primeM 400 2 i = some p) (w : World) :
    Calls Tryd.prog 18 #[.int .i64 i] w fun e w' => e = .returned (.int .i64 p) ∧ w = w' := by
  have HP := Lib.hid hp
  clear hp
  go_enter Tryd.func18, Tryd.ntmps18
  go_wp2_with fail
  go_loopw [0, 3, 4, 5] (fun iv nv _ _ wr => ∃ (f n j : Nat), iv = .int .i64 j ∧ nv = .int .i64 n ∧ n + f = 402 ∧ j < 1000 ∧ Hid (primeM f n j = some p ∧ w = wr)) (fun _ nv _ _ _ => 402 - (intOf nv).toNat)
  case atStart => exact ⟨400, 2, i, rfl, rfl, rfl, hi, HP.out, rfl⟩
  case round =>
    obtain ⟨f, n, j, rfl, rfl, hnf, hj, HM⟩ := hrel
    obtain ⟨hpm, rfl⟩ := HM.out
    obtain ⟨f, rfl⟩ : ∃ g, f = g + 1 := by
      cases f with
      | zero => simp [primeM] at hpm
      | succ g => exact ⟨g, rfl⟩
    rw [primeM] at hpm
    have HPM := Lib.hid hpm
    obtain ⟨R, hR⟩ : ∃ R, R = ipF n n 2 true := ⟨_, rfl⟩
    have HR := Lib.hid hR
    have hn0 : (0 : Int) ≤ n := by omega
    clear hpm HM HP hR hi
    go_wp2_with fail
    go_loopw [4, 5] (fun bv dv wr => ∃ (f d : Nat) (b : Bool), bv = .bool b ∧ dv = .int .i64 d ∧ d + f = n + 2 ∧ 2 ≤ d ∧ Hid (ipF f n d b = R ∧ w = wr)) (fun _ dv _ => n + 2 - (intOf dv).toNat)
    case atStart => exact ⟨n, 2, true, rfl, rfl, by omega, by omega, HR.out.symm, rfl⟩
    case round =>
      obtain ⟨fd, d, b, rfl, rfl, hdf, hd2, HM⟩ := hrel
      obtain ⟨hip, rfl⟩ := HM.out
      clear HM
      have hd0 : (0 : Int) ≤ d := by omega
      have hd1 : ¬ (d : Int) = 0 := by omega
      have hdp : (0 : Int) < d := by omega
      obtain ⟨q, hq⟩ : ∃ q, q = d * d := ⟨_, rfl⟩
      have hqd : d ≤ q := by rw [hq]; exact Nat.le_mul_self d
      have hqb : q ≤ 404 * 404 := by rw [hq]; exact Nat.mul_le_mul (by omega) (by omega)
      have hmu : (d : Int) * d = (q : Int) := by rw [hq]; simp
      have hwm : IntKind.i64.wrap ((d : Int) * d) = (q : Int) := by rw [hmu, IntKind.wrap_i64]; omega
      have hwq : IntKind.i64.wrap (q : Int) = (q : Int) := by rw [IntKind.wrap_i64]; omega
      by_cases hle : q ≤ n
      · have hle1 : (q : Int) ≤ n := by omega
        obtain ⟨fd, rfl⟩ : ∃ g, fd = g + 1 := ⟨fd - 1, by omega⟩
        rw [ipF, ← hq, if_pos hle] at hip
        obtain ⟨m, hm⟩ : ∃ m, m = n % d := ⟨_, rfl⟩
        have hmi : (n : Int) % (d : Nat) = (m : Int) := by rw [hm]; simp
        rw [← hm] at hip
        by_cases hz : m = 0
        · have hzi : (m : Int) = 0 := by omega
          rw [hzi] at hmi
          rw [show (b && decide (m ≠ 0)) = false by rw [hz]; simp] at hip
          have HIP := Lib.hid hip
          clear hip hq hm hqb
          go_wp2_with fail
          go_roundw
          case rel => exact ⟨fd, d + 1, false, rfl, by go_num, by omega, by omega, HIP.out, trivial⟩
          case measure => simp [intOf]; omega
        · have hzi : ¬ (m : Int) = 0 := by omega
          rw [show (b && decide (m ≠ 0)) = b by simp [hz]] at hip
          have HIP := Lib.hid hip
          clear hip hq hm hqb
          go_wp2_with fail
          go_roundw
          case rel => exact ⟨fd, d + 1, b, rfl, by go_num, by omega, by omega, HIP.out, trivial⟩
          case measure => simp [intOf]; omega
      · have hle1 : ¬ (q : Int) ≤ n := by omega
        have hbR : b = R := by
          cases fd with
          | zero => simpa [ipF] using hip
          | succ g => rw [ipF, ← hq, if_neg hle] at hip; exact hip
        have HPP : Hid ((if b = true then (if j = 0 then some n else primeM f (n + 1) (j - 1)) else primeM f (n + 1) j) = some p) := by
          show _ = _
          rw [hbR, HR.out]; exact HPM.out
        clear hip hq hqb hbR
        have hj0 : (0 : Int) ≤ j := by omega
        cases b with
        | true =>
          by_cases hjz : j = 0
          · have HPE : Hid (n = p) := by
              have := HPP.out
              rw [if_pos rfl, if_pos hjz] at this
              exact Option.some.inj this
            have hjz1 : (j : Int) = 0 := by omega
            go_wp2_with fail
            go_ret
            exact ⟨by rw [← HPE.out]; rfl, rfl⟩
          · have HPE : Hid (primeM f (n + 1) (j - 1) = some p) := by
              have := HPP.out
              rw [if_pos rfl, if_neg hjz] at this
              exact this
            have hjz1 : ¬ (j : Int) = 0 := by omega
            have hjs : (j : Int) - 1 = ((j - 1 : Nat) : Int) := by omega
            go_wp2_with fail
            go_roundw
            case rel => exact ⟨f, n + 1, j - 1, by go_num, by go_num, by omega, by omega, HPE.out, trivial⟩
            case measure => simp [intOf]; omega
        | false =>
          have HPE : Hid (primeM f (n + 1) j = some p) := by
            have := HPP.out
            rw [if_neg (by simp)] at this
            exact this
          go_wp2_with fail
          go_roundw
          case rel => exact ⟨f, n + 1, j, rfl, by go_num, by omega, by omega, HPE.out, trivial⟩
          case measure => simp [intOf]; omega
theorem digF_length (f x : Nat) : (digF f x).length ≤ f := by
  induction f generalizing x with
  | zero => simp [digF]
  | succ f ih =>
    rw [digF]; split
    · simp
    · simp only [List.length_cons]; have := ih (x / 65536); omega
theorem dig_length (x : Nat) : (dig x).length ≤ 4 := digF_length 4 x
set_option maxRecDepth 100000 in
set_option maxHeartbeats 2000000 in
theorem root_any (n deg r : Nat) (hn : n < 65536) (hd : deg = 2 ∨ deg = 3) (hr : rootM n deg = some r) (w : World) :
    Calls Tryd.prog 17 #[.int .i64 n, .int .i64 deg] w fun e w' => e = .returned (.int .u32 r) ∧ Below w.heap.size w w' := by
  have HR := Lib.hid hr
  have HN := Lib.hid hn
  have hwn : IntKind.u64.wrap (n : Int) = (n : Int) := by simp [IntKind.wrap, IntKind.bits, IntKind.signed]; omega
  have HDD := Lib.hid hd
  have hdeg : deg ≤ 3 := by omega
  obtain ⟨d2, hd2⟩ : ∃ d2, d2 = 2 * deg := ⟨_, rfl⟩
  have hd2i : 2 * (deg : Int) = (d2 : Int) := by omega
  have hd26 : d2 ≤ 6 := by omega
  have HD2 := Lib.hid hd2
  clear hr hn hd hd2
  go_enter Tryd.func17, Tryd.ntmps17
  go_wp2_with fail
  refine (digits_any n (Nat.lt_trans HN.out (by omega)) w).mono ?_
  rintro e w1 ⟨v1, rfl, o1, b1⟩
  have HO1 := Lib.hid o1
  have HB1 := Lib.hid b1
  clear o1 b1 hwn
  go_wp2_with fail
  go_loopw [5, 6] (fun lv iv wr => ∃ i : Nat, i ≤ d2 ∧ iv = .int .i64 i ∧ Hid (UOwn w.heap.size wr lv (List.replicate i 0 ++ dig n) ∧ Below w.heap.size w wr)) (fun _ iv _ => d2 - (intOf iv).toNat)
  case atStart => exact ⟨0, by omega, rfl, HO1.out, HB1.out⟩
  case round =>
    obtain ⟨i, hi, rfl, HM⟩ := hrel
    have hi0 : (0 : Int) ≤ i := by omega
    clear HO1 HB1
    by_cases hlt : i < d2
    · have hlt1 : (i : Int) < d2 := by omega
      have hb : Below wr.heap.size wr (wr.alloc (.cells #[.int .u64 0] 30)) := (Below.refl _ _).alloc (Nat.le_refl _) _
      have HZ : Hid (UOwn wr.heap.size (wr.alloc (.cells #[.int .u64 0] 30)) (.slice (some ⟨wr.heap.size, 0, none⟩) 1 1) [0]) := UOwn.new wr 0
      have HS := Lib.hid (HM.out.1.later hb).rd
      have HB := Lib.hid (HM.out.2.trans (hb.mono HM.out.2.size))
      have HL : Hid (([0] : List Nat).length + (List.replicate i 0 ++ dig n).length ≤ 1000000) := by
        have := dig_length n; show _ ≤ _; simp only [List.length_append, List.length_replicate, List.length_singleton]; omega
      have HSZ : Hid (wr.heap.size ≤ (wr.alloc (.cells #[.int .u64 0] 30)).heap.size) := hb.size
      have HWS : Hid (w.heap.size ≤ wr.heap.size) := HM.out.2.size
      clear hb HM
      go_wp2_with (at_builtin; refine app_u rfl (.tmp 21) (.tmp 22) rfl rfl HZ.out rfl HS.out HL.out HSZ.out ?_)
      intro v2 w2 h2 b2
      have HM2 : Hid (UOwn w.heap.size w2 v2 (List.replicate (i + 1) 0 ++ dig n) ∧ Below w.heap.size w w2) := by
        refine ⟨?_, HB.out.trans (b2.mono HWS.out)⟩
        rw [List.replicate_succ]
        exact h2.mono HWS.out
      clear h2 b2 HZ HS HB HL HSZ
      go_wp2_with fail
      go_roundw
      case rel => exact ⟨i + 1, by omega, by go_num, HM2.out⟩
      case measure => simp [intOf]; omega
    · obtain rfl : i = d2 := by omega
      obtain ⟨L, hL⟩ : ∃ L, L = List.replicate i 0 ++ dig n := ⟨_, rfl⟩
      rw [← hL] at HM
      have HLL : Hid (L.length ≤ 1000) := by have := dig_length n; show _ ≤ _; rw [hL, List.length_append, List.length_replicate]; omega
      obtain ⟨R0, hR0, hR1⟩ : ∃ R0, rb deg L 37 0 = some R0 ∧ R0 % 4294967296 = r := by
        have := HR.out
        rw [rootM, ← HD2.out, ← hL] at this
        exact Option.map_eq_some_iff.1 this
      have HST : Hid (rb deg L 37 0 = some R0 ∧ R0 % 4294967296 = r) := ⟨hR0, hR1⟩
      have hu5 : ∃ q c, u5 = .slice q L.length c := (HM.out.1.rd).form
      obtain ⟨ql, cl, rfl⟩ := hu5
      have HML : Hid (URd wr.heap.size wr (.slice ql L.length cl) L ∧ Below w.heap.size w wr) := ⟨HM.out.1.rd, HM.out.2⟩
      clear hL hR0 hR1 HM HR
      obtain ⟨wo, hwo⟩ : ∃ wo, wo = wr := ⟨_, rfl⟩
      subst hwo
      go_wp2_with fail
      go_loopw [7, 8, 9, 10, 11] (fun xv bv _ _ _ wr => ∃ (c x : Nat), c ≤ 37 ∧ bv = .int .i64 ((c : Int) - 1) ∧ xv = .int .u64 x ∧ Hid (rb deg L c x = some R0 ∧ x + 2 ^ c ≤ 137438953472 ∧ Below wo.heap.size wo wr)) (fun _ bv _ _ _ _ => ((intOf bv) + 1).toNat)
      case atStart => exact ⟨37, 0, by omega, rfl, rfl, HST.out.1, by decide, Below.refl _ _⟩
      case round =>
        obtain ⟨c, x, hc, rfl, rfl, HB⟩ := hrel
        cases c with
        | zero =>
          have hz : ((0 : Nat) : Int) - 1 = -1 := rfl
          rw [hz]
          have HRX : Hid (x = R0) := Option.some.inj HB.out.1
          have HW : Hid (Below w.heap.size w wr) := HML.out.2.trans (HB.out.2.2.mono HML.out.2.size)
          have hxr : (x : Int) % 4294967296 = (r : Int) := by have := HST.out.2; rw [← HRX.out] at this; omega
          have hrr : IntKind.u32.wrap (r : Int) = (r : Int) := by
            have : r < 4294967296 := by have := HST.out.2; omega
            simp [IntKind.wrap, IntKind.bits, IntKind.signed]; omega
          clear HRX HB
          go_wp2_with fail
          go_ret
          first | exact ⟨rfl, HW.out⟩ | exact ⟨by rw [hrr]; rfl, HW.out⟩
        | succ c =>
          have hz : ((c + 1 : Nat) : Int) - 1 = (c : Int) := by omega
          rw [hz]
          have hc0 : (0 : Int) ≤ c := by omega
          obtain ⟨t, ht⟩ : ∃ t, t = 2 ^ c := ⟨_, rfl⟩
          obtain ⟨y, hy⟩ : ∃ y, y = x + t := ⟨_, rfl⟩
          have hrb := HB.out.1
          rw [rb, ← ht, ← hy] at hrb
          obtain ⟨P, hP1, hP2⟩ := Option.bind_eq_some_iff.1 hrb
          have hbd := HB.out.2.1
          rw [Nat.pow_succ, ← ht] at hbd
          have HNB : Hid ((if grt P L then x else y) + 2 ^ c ≤ 137438953472) := by
            show _ ≤ _
            rw [← ht]; split <;> omega
          have HY : Hid (y < 18446744073709551616) := by show _ < _; omega
          have htc : ((2 : Int) ^ c) = (t : Int) := by rw [ht]; simp
          have hw2 : IntKind.u64.wrap ((2 : Int) ^ c) = (t : Int) := by
            rw [htc]; simp [IntKind.wrap, IntKind.bits, IntKind.signed]; omega
          have hw3 : IntKind.u64.wrap ((x : Int) + t) = (y : Int) := by
            rw [show (x : Int) + t = (y : Int) by omega]; simp [IntKind.wrap, IntKind.bits, IntKind.signed]; omega
          have HP1 := Lib.hid hP1
          have HP2 := Lib.hid hP2
          have HBW : Hid (Below wo.heap.size wo wr) := HB.out.2.2
          clear htc ht hy hrb hbd hP1 hP2 HB
          go_wp2_with fail
          refine (digits_any y HY.out wr).mono ?_
          rintro e w2 ⟨v2, rfl, o2, b2⟩
          have HB2 : Hid (Below wo.heap.size wo w2) := HBW.out.trans (b2.mono HBW.out.size)
          have HO2 : Hid (URd w2.heap.size w2 v2 (dig y)) := o2.rd
          clear o2 b2 HBW
          go_wp2_with fail
          go_loopw [10, 11] (fun pv kv wr => ∃ (e k : Nat) (q : List Nat), k + e + 1 = deg + 1 ∧ 1 ≤ k ∧ k ≤ deg ∧ kv = .int .i64 k ∧ Hid (powF e q (dig y) = some P ∧ q.length ≤ 5 * k ∧ URd wr.heap.size wr pv q ∧ Below wo.heap.size wo wr)) (fun _ kv _ => deg - (intOf kv).toNat)
          case atStart => exact ⟨deg - 1, 1, dig y, by have := HDD.out; omega, by omega, by have := HDD.out; omega, rfl, HP1.out, by have := dig_length y; omega, HO2.out, HB2.out⟩
          case round =>
            obtain ⟨e, k, q, hke, hk1, hkd, rfl, HM⟩ := hrel
            clear HO2 HB2 HP1
            have hk0 : (0 : Int) ≤ k := by omega
            obtain ⟨qp, cp, rfl⟩ := HM.out.2.2.1.form
            obtain ⟨lq, hlq⟩ : ∃ lq, lq = q.length := ⟨_, rfl⟩
            have HLQ := Lib.hid hlq
            rw [← hlq] at HM ⊢
            clear hlq
            by_cases hlt : k < deg
            · have hlt1 : (k : Int) < deg := by omega
              obtain ⟨e, rfl⟩ : ∃ g, e = g + 1 := ⟨e - 1, by omega⟩
              have hpw := HM.out.1
              rw [powF] at hpw
              obtain ⟨q2, hq1, hq2⟩ := Option.bind_eq_some_iff.1 hpw
              have HQ1 := Lib.hid hq1
              have HQ2 := Lib.hid hq2
              clear hpw hq1 hq2
              go_wp2_with fail
              refine (digits_any y HY.out wr).mono ?_
              rintro e' w3 ⟨v3, rfl, o3, b3⟩
              have HB3 : Hid (Below wo.heap.size wo w3) := HM.out.2.2.2.trans (b3.mono HM.out.2.2.2.size)
              have HO3 : Hid (URd w3.heap.size w3 v3 (dig y)) := o3.rd
              have HQ3 : Hid (URd w3.heap.size w3 (.slice qp lq cp) q) := (HM.out.2.2.1.below b3 (Nat.le_refl _)).mono b3.size
              have HQL : Hid (q.length ≤ 5 * k) := by have := HM.out.2.1; rw [HLQ.out] at this; exact this
              clear o3 b3 HM
              go_wp2_with fail
              refine (product_any HQ3.out HO3.out (Nat.le_refl _) (by have := HQL.out; omega) (by have := dig_length y; omega) HQ1.out).mono ?_
              rintro e' w4 ⟨v4, rfl, o4, b4, hl4⟩
              have HM4 : Hid (powF e q2 (dig y) = some P ∧ q2.length ≤ 5 * (k + 1) ∧ URd w4.heap.size w4 v4 q2 ∧ Below wo.heap.size wo w4) :=
                ⟨HQ2.out, by have := HQL.out; have := dig_length y; omega, o4.rd, HB3.out.trans (b4.mono HB3.out.size)⟩
              clear o4 b4 hl4 HB3 HO3 HQ3
              go_wp2_with fail
              go_roundw
              case rel => exact ⟨e, k + 1, q2, by omega, by omega, by omega, by go_num, HM4.out⟩
              case measure => simp [intOf]; omega
            · obtain rfl : k = deg := by omega
              obtain rfl : e = 0 := by omega
              have HPQ : Hid (q = P) := by
                have := HM.out.1
                rw [powF] at this
                exact Option.some.inj this
              have HLR : Hid (URd wr.heap.size wr (.slice ql L.length cl) L) := (HML.out.1.below HM.out.2.2.2 (Nat.le_refl _)).mono HM.out.2.2.2.size
              have HGR := Lib.hid (greater_any HM.out.2.2.1 HLR.out (by have := HM.out.2.1; rw [← HLQ.out]; omega) HLL.out)
              rw [HPQ.out] at HGR
              have HBB := Lib.hid HM.out.2.2.2
              clear HM
              go_wp2_with fail
              refine HGR.out.mono ?_
              rintro e' w5 ⟨rfl, rfl⟩
              cases hgt : grt P L with
              | true =>
                have HNX : Hid (rb k L c x = some R0 ∧ x + 2 ^ c ≤ 137438953472 ∧ Below wo.heap.size wo wr) := by
                  have h1 := HP2.out; have h2 := HNB.out
                  rw [hgt, if_pos rfl] at h1 h2
                  exact ⟨h1, h2, HBB.out⟩
                go_wp2_with fail
                go_roundw
                case rel => exact ⟨c, x, by omega, rfl, rfl, HNX.out⟩
                case measure => simp [intOf]
              | false =>
                have HNX : Hid (rb k L c y = some R0 ∧ y + 2 ^ c ≤ 137438953472 ∧ Below wo.heap.size wo wr) := by
                  have h1 := HP2.out; have h2 := HNB.out
                  rw [hgt, if_neg (by simp)] at h1 h2
                  exact ⟨h1, h2, HBB.out⟩
                go_wp2_with fail
                go_roundw
                case rel => exact ⟨c, y, by omega, rfl, rfl, HNX.out⟩
                case measure => simp [intOf]
end Go.Proofs.YtbnpnpoddnkaiaaDoor
