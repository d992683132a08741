/-
  The reference's digits, greater.
-/
import Derived.Test.YtbnpnpoddnkaiaaDoorU64
namespace Go.Proofs.YtbnpnpoddnkaiaaDoor
open Go.ChangeShapes Go.WideShapes Go.ChangeAt Go.RowKit
set_option linter.unusedVariables false

def p16 : Nat → Nat
  | 0 => 1
  | f + 1 => p16 f * 65536
theorem div_p16 (y f : Nat) (h : y < p16 (f + 1)) : y / 65536 < p16 f := by
  rw [Nat.div_lt_iff_lt_mul (by omega)]; exact h
set_option maxRecDepth 100000 in
set_option maxHeartbeats 1000000 in
theorem digits_any (x : Nat) (hx : x < 18446744073709551616) (w : World) :
    Calls Tryd.prog 29 #[.int .u64 x] w fun e w' => ∃ v, e = .returned v ∧ UOwn w.heap.size w' v (dig x) ∧ Below w.heap.size w w' := by
  obtain ⟨R, hR⟩ : ∃ R, R = dig x := ⟨_, rfl⟩
  rw [← hR]
  have HR := Lib.hid hR
  have HX : Hid (x < p16 4) := hx
  clear hR hx
  go_enter Tryd.func29, Tryd.ntmps29
  go_wp2_with fail
  go_loopw [0, 3] (fun xv vo wr => ∃ (f y : Nat) (l : List Nat), xv = .int .u64 y ∧ Hid (y < p16 f ∧ y < 18446744073709551616 ∧ l.length + f = 4 ∧ UOwn w.heap.size wr vo l ∧ l ++ digF f y = R ∧ Below w.heap.size w wr)) (fun xv _ _ => (intOf xv).toNat)
  case atStart => exact ⟨4, x, [], rfl, HX.out, HX.out, rfl, UOwn.nil _ _, by rw [HR.out]; rfl, Below.refl _ _⟩
  case round =>
    obtain ⟨f, y, l, rfl, HM⟩ := hrel
    by_cases hy : y = 0
    · subst hy
      have hl : l = R := by
        have := HM.out.2.2.2.2.1
        cases f with
        | zero => simpa [digF] using this
        | succ f => simpa [digF] using this
      go_wp2_with fail
      go_ret
      exact ⟨_, rfl, hl ▸ HM.out.2.2.2.1, HM.out.2.2.2.2.2⟩
    · have hy1 : (0 : Int) < y := by omega
      obtain ⟨g, rfl⟩ : ∃ g, f = g + 1 := by
        cases f with
        | zero => have := HM.out.1; simp [p16] at this; omega
        | succ g => exact ⟨g, rfl⟩
      have hq : (y : Int) % 65536 = ((y % 65536 : Nat) : Int) := by omega
      have hd : (y : Int) / 65536 = ((y / 65536 : Nat) : Int) := by omega
      have hm := HM.out.1
      have HQ := Lib.hid (div_p16 y g hm)
      have hdg : l ++ (y % 65536 :: digF g (y / 65536)) = R := by
        have := HM.out.2.2.2.2.1
        rw [digF, if_neg hy] at this
        exact this
      obtain ⟨z, hz⟩ : ∃ z, z = y % 65536 := ⟨_, rfl⟩
      obtain ⟨u, hu⟩ : ∃ u, u = y / 65536 := ⟨_, rfl⟩
      rw [← hz] at hq hdg
      rw [← hu] at hd hdg HQ
      have HUY : Hid (u < y ∧ u < 18446744073709551616) := by have := HM.out.2.1; show u < y ∧ _; omega
      have hwr : IntKind.u64.wrap (u : Int) = (u : Int) := by have := HUY.out.2; simp [IntKind.wrap, IntKind.bits, IntKind.signed]; omega
      have HDG := Lib.hid hdg
      have hb : Below wr.heap.size wr (wr.alloc (.cells #[.int .u64 z] 30)) := (Below.refl _ _).alloc (Nat.le_refl _) _
      have HO := Lib.hid (HM.out.2.2.2.1.later hb)
      have HZ := Lib.hid (UOwn.new wr z).rd
      have HB := Lib.hid (HM.out.2.2.2.2.2.trans (hb.mono HM.out.2.2.2.2.2.size))
      have HLN : Hid (l.length + ([z] : List Nat).length ≤ 1000000) := by have := HM.out.2.2.1; show _ ≤ _; simp; omega
      have HLF : Hid (l.length + (g + 1) = 4) := HM.out.2.2.1
      clear hb hz hu hdg hm HM
      go_wp2_with (at_builtin; refine app_u rfl (.tmp 6) (.tmp 9) rfl rfl HO.out rfl HZ.out HLN.out HB.out.size ?_)
      intro v2 w2 h2 b2
      have HM2 : Hid (u < p16 g ∧ u < 18446744073709551616 ∧ (l ++ [z]).length + g = 4 ∧ UOwn w.heap.size w2 v2 (l ++ [z]) ∧ (l ++ [z]) ++ digF g u = R ∧ Below w.heap.size w w2) :=
        ⟨HQ.out, HUY.out.2, by have := HLF.out; simp; omega, h2, by rw [List.append_assoc]; exact HDG.out, HB.out.trans b2⟩
      clear h2 b2
      go_wp2_with fail
      go_roundw
      case rel => exact ⟨g, u, l ++ [z], rfl, HM2.out⟩
      case measure => have := HUY.out.1; simp [intOf]; omega
set_option maxRecDepth 100000 in
set_option maxHeartbeats 1000000 in
theorem greater_any {B : Nat} {va vb : Value} {a b : List Nat} {w : World} (ha : URd B w va a) (hb : URd B w vb b) (hla : a.length ≤ 1000) (hlb : b.length ≤ 1000) :
    Calls Tryd.prog 31 #[va, vb] w fun e w' => e = .returned (.bool (grt a b)) ∧ w = w' := by
  have HA := Lib.hid ha
  have HB := Lib.hid hb
  obtain ⟨qa, ca, rfl⟩ := ha.form
  obtain ⟨qb, cb, rfl⟩ := hb.form
  obtain ⟨R, hR⟩ : ∃ R, R = grt a b := ⟨_, rfl⟩
  rw [← hR]
  have HR := Lib.hid hR
  obtain ⟨la, hA⟩ : ∃ la, la = a.length := ⟨_, rfl⟩
  obtain ⟨lb, hB⟩ : ∃ lb, lb = b.length := ⟨_, rfl⟩
  obtain ⟨n0, hn0⟩ : ∃ n0, n0 = max a.length b.length := ⟨_, rfl⟩
  have HN0 := Lib.hid hn0
  have hmx : max (la : Int) lb = (n0 : Int) := by omega
  have hn1 : n0 ≤ 1000 := by omega
  rw [← hA] at HA ⊢
  rw [← hB] at HB ⊢
  have HLA := Lib.hid hA
  have HLB := Lib.hid hB
  clear ha hb hR hA hB hla hlb hn0
  go_enter Tryd.func31, Tryd.ntmps31
  go_wp2_with fail
  go_loopw [5, 6, 7] (fun iv _ _ wr => ∃ n : Nat, n ≤ 1000 ∧ iv = .int .i64 ((n : Int) - 1) ∧ Hid (grM n a b = R ∧ w = wr)) (fun iv _ _ _ => ((intOf iv) + 1).toNat)
  case atStart => exact ⟨n0, hn1, rfl, by rw [HR.out, HN0.out]; rfl, rfl⟩
  case round =>
    obtain ⟨n, hn, rfl, HM⟩ := hrel
    obtain ⟨hmr, rfl⟩ := HM.out
    cases n with
    | zero =>
      have hz : ((0 : Nat) : Int) - 1 = -1 := rfl
      rw [hz]
      have HRF : Hid (R = false) := by show R = false; rw [← hmr]; rfl
      clear hmr
      go_wp2_with fail
      go_ret
      exact ⟨by rw [HRF.out]; rfl, rfl⟩
    | succ m =>
      have hz : ((m + 1 : Nat) : Int) - 1 = (m : Int) := by omega
      rw [hz]
      have hm0 : (0 : Int) ≤ m := by omega
      have HGR := Lib.hid hmr
      obtain ⟨x, hx⟩ : ∃ x, x = a.getD m 0 := ⟨_, rfl⟩
      obtain ⟨y, hy⟩ : ∃ y, y = b.getD m 0 := ⟨_, rfl⟩
      have hstep : (if x = y then grM m a b else decide (y < x)) = R := by rw [hx, hy]; exact hmr
      have HST := Lib.hid hstep
      clear hmr hstep HM
      have fa : (m < la ∧ ∃ g off, qa = some ⟨g, off, none⟩ ∧ w.cell? ⟨g, off + m, none⟩ = some (.int .u64 (x : Nat))) ∨ (¬ m < la ∧ x = 0) := by
        by_cases h : m < la
        · obtain ⟨g, off, h1, _, _, h4⟩ := HA.out.at h
          exact .inl ⟨h, g, off, h1, by rw [hx]; exact h4⟩
        · exact .inr ⟨h, by rw [hx, List.getD_eq_getElem?_getD, List.getElem?_eq_none (by rw [← HLA.out]; omega)]; rfl⟩
      have fb : (m < lb ∧ ∃ g off, qb = some ⟨g, off, none⟩ ∧ w.cell? ⟨g, off + m, none⟩ = some (.int .u64 (y : Nat))) ∨ (¬ m < lb ∧ y = 0) := by
        by_cases h : m < lb
        · obtain ⟨g, off, h1, _, _, h4⟩ := HB.out.at h
          exact .inl ⟨h, g, off, h1, by rw [hy]; exact h4⟩
        · exact .inr ⟨h, by rw [hy, List.getD_eq_getElem?_getD, List.getElem?_eq_none (by rw [← HLB.out]; omega)]; rfl⟩
      clear hx hy
      rcases fa with ⟨ha1, ga, oa, rfl, hca⟩ | ⟨ha1, rfl⟩
      · rcases fb with ⟨hb1, gb, ob, rfl, hcb⟩ | ⟨hb1, rfl⟩
        · have ha2 : (m : Int) < la := by omega
          have hb2 : (m : Int) < lb := by omega
          by_cases hxy : x = y
          · have hxy1 : (x : Int) = y := by omega
            have HK : Hid (grM m a b = R) := by have := HST.out; rw [if_pos hxy] at this; exact this
            clear HST HGR
            go_wp2_with fail
            go_roundw
            case rel => first | exact ⟨m, by omega, rfl, HK.out, rfl⟩ | exact ⟨m, by omega, rfl, HK.out, trivial⟩
            case measure => simp [intOf]
          · have hxy1 : ¬ (x : Int) = y := by omega
            have HK : Hid (decide (y < x) = R) := by have := HST.out; rw [if_neg hxy] at this; exact this
            clear HST HGR
            go_wp2_with fail
            go_ret
            have hdd : decide ((y : Int) < x) = R := by rw [← HK.out, decide_eq_decide]; omega
            first | exact ⟨by rw [← hdd]; rfl, rfl⟩ | exact ⟨by rw [← hdd]; simp, rfl⟩
        · have ha2 : (m : Int) < la := by omega
          have hb2 : ¬ (m : Int) < lb := by omega
          by_cases hxy : x = 0
          · have hxy1 : (x : Int) = 0 := by omega
            have HK : Hid (grM m a b = R) := by have := HST.out; rw [if_pos hxy] at this; exact this
            clear HST HGR
            go_wp2_with fail
            go_roundw
            case rel => first | exact ⟨m, by omega, rfl, HK.out, rfl⟩ | exact ⟨m, by omega, rfl, HK.out, trivial⟩
            case measure => simp [intOf]
          · have hxy1 : ¬ (x : Int) = 0 := by omega
            have HK : Hid (decide (0 < x) = R) := by have := HST.out; rw [if_neg hxy] at this; exact this
            clear HST HGR
            go_wp2_with fail
            go_ret
            have hdd : decide ((0 : Int) < x) = R := by rw [← HK.out, decide_eq_decide]; omega
            first | exact ⟨by rw [← hdd]; rfl, rfl⟩ | exact ⟨by rw [← hdd]; simp, rfl⟩
      · rcases fb with ⟨hb1, gb, ob, rfl, hcb⟩ | ⟨hb1, rfl⟩
        · have ha2 : ¬ (m : Int) < la := by omega
          have hb2 : (m : Int) < lb := by omega
          by_cases hxy : 0 = y
          · have hxy1 : (0 : Int) = y := by omega
            have HK : Hid (grM m a b = R) := by have := HST.out; rw [if_pos hxy] at this; exact this
            clear HST HGR
            go_wp2_with fail
            go_roundw
            case rel => first | exact ⟨m, by omega, rfl, HK.out, rfl⟩ | exact ⟨m, by omega, rfl, HK.out, trivial⟩
            case measure => simp [intOf]
          · have hxy1 : ¬ (0 : Int) = y := by omega
            have HK : Hid (decide (y < 0) = R) := by have := HST.out; rw [if_neg hxy] at this; exact this
            clear HST HGR
            go_wp2_with fail
            go_ret
            have hdd : decide ((y : Int) < 0) = R := by rw [← HK.out, decide_eq_decide]; omega
            first | exact ⟨by rw [← hdd]; rfl, rfl⟩ | exact ⟨by rw [← hdd]; simp, rfl⟩
        · have ha2 : ¬ (m : Int) < la := by omega
          have hb2 : ¬ (m : Int) < lb := by omega
          have HK : Hid (grM m a b = R) := by have := HST.out; rw [if_pos rfl] at this; exact this
          clear HST HGR
          go_wp2_with fail
          go_roundw
          case rel => first | exact ⟨m, by omega, rfl, HK.out, rfl⟩ | exact ⟨m, by omega, rfl, HK.out, trivial⟩
          case measure => simp [intOf]
end Go.Proofs.YtbnpnpoddnkaiaaDoor
