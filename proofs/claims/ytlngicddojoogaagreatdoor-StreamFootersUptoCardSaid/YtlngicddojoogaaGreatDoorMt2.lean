/-
  vestrylaw25.StreamHeaders, StreamFooters: the walks.
-/
import Derived.Test.YtlngicddojoogaaGreatDoorMt1
import Derived.Test.YtlngicddojoogaaGreatDoorPut
import Derived.Deep.Fields
import Derived.ChangeSame
import Derived.SizedLaws
import Derived.HandedShaped
import Derived.OpenShut
namespace Go.Proofs.YtlngicddojoogaaGreatDoor
open Go.ChangeShapes Go.WideShapes Go.ChangeAt Go.RowKit
open errAs (ErrT)
set_option linter.unusedVariables false

set_option maxRecDepth 100000 in
set_option maxHeartbeats 2000000 in
theorem headers_law (r : Nat) (n : Int) (d : List UInt8) (w : World) (hd : d.length = 32) (hE : ErrT w) (he : Env w) :
    Calls Tryz.prog 3 #[hV r n d] w fun e w' => e = .returned (.bool true) ∧ Below w.heap.size w w' := by
  have HE := Lib.hid hE
  have HD := Lib.hid hd
  have hb0 : Below w.heap.size w (w.alloc (.cells (hc r n d).toArray 25)) := (Below.refl _ _).alloc (Nat.le_refl _) _
  have HB0 := Lib.hid hb0
  have HA0 := Lib.hid (Arr.new' w 25 (hc r n d).toArray _ rfl)
  have HAW := Lib.hid (sawake_any _ (errT_below hE hb0) (he.below hb0))
  clear hE he hb0 hd
  by_cases hok : rightH r n = true
  · obtain ⟨m, rfl⟩ : ∃ m : Nat, n = (m : Nat) := ⟨n.toNat, by unfold rightH at hok; simp at hok; omega⟩
    have hrl : r < limR ∧ m ≤ limC := by unfold rightH at hok; simp at hok; refine ⟨hok.1, ?_⟩; unfold limC; omega
    have HRL := Lib.hid hrl.1
    have HML := Lib.hid hrl.2
    have HOK := Lib.hid hok
    clear hok hrl
    go_enter Tryz.func3, Tryz.ntmps3
    go_wp2_with fail
    refine HAW.out.mono ?_
    rintro e w1 ⟨rfl, b1⟩
    have HB1 := Lib.hid (HB0.out.trans (b1.mono HB0.out.size))
    have HA1 := Lib.hid (HA0.out.later b1)
    clear b1 HA0 HB0 HAW
    go_wp2_with ((with_reducible refine loadH2 (x := .tmp 1) (o := ⟨some 10, _, _, _, _, _⟩) HA1.out HD.out ?_ ?_); exact ⟨rfl, rfl, rfl⟩)
    refine (sput_yes r m d HRL.out HML.out HD.out _).mono ?_
    rintro e w2 ⟨v2, rfl, r2, b2⟩
    have HB2 := Lib.hid (HB1.out.trans (b2.mono HB1.out.size))
    have HA2 := Lib.hid (HA1.out.later b2)
    have HR2 := Lib.hid r2
    have hplen := payH_len HRL.out HML.out HD.out
    have hpp := parseH_pay HRL.out HML.out HD.out
    obtain ⟨p, hp⟩ : ∃ p, p = payH r m d := ⟨_, rfl⟩
    rw [← hp] at HR2 hplen hpp
    have HPE := Lib.hid hp
    have HPN := Lib.hid hplen
    have HPP := Lib.hid hpp
    obtain ⟨q2, c2, rfl⟩ := rd_form HR2.out
    clear b2 r2 hp hplen hpp HA1 HB1
    go_wp2_with ((with_reducible refine loadH2 (x := .tmp 1) (o := ⟨some 14, _, _, _, _, _⟩) HA2.out HD.out ?_ ?_); exact ⟨rfl, rfl, rfl⟩)
    refine (rsright_any r (m : Nat) d _).mono ?_
    rintro e w3 ⟨rfl, b3⟩
    rw [HOK.out]
    have HB3 := Lib.hid (HB2.out.trans (b3.mono HB2.out.size))
    have HA3 := Lib.hid (HA2.out.later b3)
    have HR3 := Lib.hid (rd_now (B := 0) HR2.out b3)
    have HPA : Hid (Calls Tryz.prog 9 #[.slice q2 p.length c2] w3 fun e w' => e = .returned (.tuple #[hV r (m : Nat) d, .nilIface]) ∧ Below w3.heap.size w3 w') := by
      have h := sparse_any HR3.out (Nat.le_refl _) (by have := HPN.out; omega) (errT_below HE.out HB3.out)
      rw [HPP.out] at h
      exact h
    clear b3 HA2 HB2 HR2
    go_wp2_with fail
    refine HPA.out.mono ?_
    rintro e w4 ⟨rfl, b4⟩
    have hb5 : Below w4.heap.size w4 (w4.alloc (.cells (hc r (m : Nat) d).toArray 30)) := (Below.refl _ _).alloc (Nat.le_refl _) _
    have hb45 := b4.trans (hb5.mono b4.size)
    have HB5 := Lib.hid (HB3.out.trans (hb45.mono HB3.out.size))
    have HR5 := Lib.hid (rd_now (B := 0) HR3.out hb45)
    have HA5 := Lib.hid (HA3.out.later hb45)
    have HX5 := Lib.hid (Arr.new' w4 30 (hc r (m : Nat) d).toArray _ rfl)
    clear b4 hb5 hb45 HPA HB3 HR3 HA3
    go_upto_region 7 with ((with_reducible refine atH1 w4.heap.size (x := .tmp 5) (y := .tmp 27) (r := r) (n := (m : Nat)) (d := d) (o := ⟨none, .store _ _ _, _, _, _, _⟩) HD.out ?_ ?_); exact ⟨rfl, rfl, rfl, rfl, rfl, rfl⟩)
    generalize w4.alloc (.cells (hc r (m : Nat) d).toArray 30) = w5 at HB5 HR5 HA5 HX5 ⊢
    generalize w4.heap.size = g5 at HX5 ⊢
    go_wp2_with ((with_reducible refine loadH2 (x := .tmp 1) (o := ⟨some 32, _, _, _, _, _⟩) HA5.out HD.out ?_ ?_); exact ⟨rfl, rfl, rfl⟩)
    refine (rsput_any r m d HRL.out HML.out HD.out _).mono ?_
    rintro e w6 ⟨v6, rfl, r6, b6⟩
    rw [← HPE.out] at r6
    have HB6 := Lib.hid (HB5.out.trans (b6.mono HB5.out.size))
    have HA6 := Lib.hid (HA5.out.later b6)
    have HX6 := Lib.hid (HX5.out.later b6)
    have HSM := Lib.hid (same_any (rd_now (B := 0) HR5.out b6) r6)
    rw [eqB_refl] at HSM
    obtain ⟨q6, c6, rfl⟩ := rd_form r6
    clear b6 r6 HB5 HR5 HA5 HX5
    go_wp2_with fail
    refine HSM.out.mono ?_
    rintro e w7 ⟨rfl, n7, rfl⟩
    have hd7 := below_drewN (Below.refl w6.heap.size w6) n7
    have HB7 := Lib.hid (HB6.out.trans (hd7.mono HB6.out.size))
    have HA7 := Lib.hid (HA6.out.later hd7)
    have HX7 := Lib.hid (HX6.out.later hd7)
    have hq2 := fun w => equalH2 (r := r) (n := (m : Nat)) (r' := r) (n' := (m : Nat)) HD.out HD.out w
    rw [eqH_refl] at hq2
    clear HSM HB6 HA6 HX6 hd7
    generalize w6.drewN n7 = w7 at HB7 HA7 HX7 ⊢
    go_wp2_with (first
      | ((with_reducible refine loadH1 (x := .tmp 5) (o := ⟨some 41, _, _, _, _, _⟩) HX7.out HD.out ?_ ?_); exact ⟨rfl, rfl, rfl⟩)
      | ((with_reducible refine loadH2 (x := .tmp 5) (o := ⟨some 41, _, _, _, _, _⟩) HX7.out HD.out ?_ ?_); exact ⟨rfl, rfl, rfl⟩)
      | ((with_reducible refine loadH2 (x := .tmp 1) (o := ⟨some 42, _, _, _, _, _⟩) HA7.out HD.out ?_ ?_); exact ⟨rfl, rfl, rfl⟩))
    go_ret
    exact ⟨rfl, HB7.out⟩
  · have hno : limR ≤ r ∨ n < 0 ∨ 65536 < n := by
      unfold rightH at hok
      simp at hok
      by_cases a : r < limR
      · by_cases b : 0 ≤ n
        · exact .inr (.inr (hok a b))
        · exact .inr (.inl (by omega))
      · exact .inl (by omega)
    have HNO := Lib.hid hno
    have HOK : Hid (rightH r n = false) := by show _ = _; simpa using hok
    clear hok hno
    go_enter Tryz.func3, Tryz.ntmps3
    go_wp2_with fail
    refine HAW.out.mono ?_
    rintro e w1 ⟨rfl, b1⟩
    have HB1 := Lib.hid (HB0.out.trans (b1.mono HB0.out.size))
    have HA1 := Lib.hid (HA0.out.later b1)
    clear b1 HA0 HB0 HAW
    go_wp2_with ((with_reducible refine loadH2 (x := .tmp 1) (o := ⟨some 10, _, _, _, _, _⟩) HA1.out HD.out ?_ ?_); exact ⟨rfl, rfl, rfl⟩)
    refine (sput_no r n d HD.out HNO.out _).mono ?_
    rintro e w2 ⟨rfl, b2⟩
    have HB2 := Lib.hid (HB1.out.trans (b2.mono HB1.out.size))
    have HA2 := Lib.hid (HA1.out.later b2)
    clear b2 HA1 HB1
    go_wp2_with ((with_reducible refine loadH2 (x := .tmp 1) (o := ⟨some 14, _, _, _, _, _⟩) HA2.out HD.out ?_ ?_); exact ⟨rfl, rfl, rfl⟩)
    refine (rsright_any r n d _).mono ?_
    rintro e w3 ⟨rfl, b3⟩
    rw [HOK.out]
    have HB3 := Lib.hid (HB2.out.trans (b3.mono HB2.out.size))
    clear b3 HA2 HB2
    go_wp2_with fail
    go_ret
    exact ⟨rfl, HB3.out⟩
set_option maxRecDepth 100000 in
set_option maxHeartbeats 2000000 in
theorem footers_law {oa : Option Addr} {cap : Nat} {ls : List (List UInt8)} (w : World) (hr : RdAll w.heap.size w oa ls) (hn : ls.length ≤ 140737488355328) (ht : total ls ≤ 140737488355328) (hE : ErrT w) (he : Env w) :
    Calls Tryz.prog 5 #[.slice oa ls.length cap] w fun e w' => e = .returned (.bool true) ∧ Below w.heap.size w w' := by
  have HE := Lib.hid hE
  have HV := Lib.hid he
  have HR := Lib.hid hr
  have HN := Lib.hid hn
  have HT := Lib.hid ht
  have HAW := Lib.hid (sawake_any w hE he)
  clear hE he hr hn ht
  by_cases hbig : 100 < ls.length
  · have h1 : (100 : Int) < ls.length := by omega
    go_enter Tryz.func5, Tryz.ntmps5
    go_wp2_with fail
    refine HAW.out.mono ?_
    rintro e w1 ⟨rfl, b1⟩
    have HB1 := Lib.hid b1
    have HAW2 := Lib.hid (sawake_any _ (errT_below HE.out b1) (HV.out.below b1))
    clear b1
    go_wp2_with fail
    refine HAW2.out.mono ?_
    rintro e w2 ⟨rfl, b2⟩
    have HB2 := Lib.hid (HB1.out.trans (b2.mono HB1.out.size))
    clear b2
    go_wp2_with fail
    go_ret
    exact ⟨rfl, HB2.out⟩
  · have h1 : ¬ (100 : Int) < ls.length := by omega
    have HN1 : Hid (ls.length ≤ 1000000) := by show _ ≤ _; omega
    go_enter Tryz.func5, Tryz.ntmps5
    go_wp2_with fail
    refine HAW.out.mono ?_
    rintro e w1 ⟨rfl, b1⟩
    have HB1 := Lib.hid b1
    have HR1 : Hid (RdAll w.heap.size w1 oa ls) := HR.out.below b1 (Nat.le_refl _)
    have HJ := Lib.hid (rjoin_any (cap := cap) HR1.out b1.size HN.out HT.out)
    clear b1 HAW
    go_wp2_with fail
    refine HJ.out.mono ?_
    rintro e w2 ⟨v2, rfl, o2, b2⟩
    have hr2 := Rd.of_own o2
    obtain ⟨q2, c2, rfl⟩ := rd_form hr2
    have HB2 := Lib.hid (HB1.out.trans (b2.mono HB1.out.size))
    have HR2 : Hid (RdAll w.heap.size w2 oa ls) := HR1.out.below b2 HB1.out.size
    obtain ⟨k, hk⟩ : ∃ k, k = ls.flatten.length := ⟨_, rfl⟩
    rw [← hk]
    have HK : Hid (k = total ls) := by show _ = _; rw [hk, flat_len]
    clear o2 b2 hr2 HJ HB1 HR1 hk
    by_cases hlong : 5000 < k
    · have h2 : (5000 : Int) < k := by omega
      have HAW2 := Lib.hid (sawake_any _ (errT_below HE.out HB2.out) (HV.out.below HB2.out))
      clear hlong
      go_wp2_with fail
      refine HAW2.out.mono ?_
      rintro e w3 ⟨rfl, b3⟩
      have HB3 := Lib.hid (HB2.out.trans (b3.mono HB2.out.size))
      clear b3
      go_wp2_with fail
      go_ret
      exact ⟨rfl, HB3.out⟩
    · have h2 : ¬ (5000 : Int) < k := by omega
      have HT1 : Hid (total ls ≤ 1000000) := by show _ ≤ _; rw [← HK.out]; omega
      have HF := Lib.hid (sfoot_any (cap := cap) HR2.out HB2.out.size HN1.out (by have := HT1.out; omega) (HV.out.below HB2.out))
      clear hlong
      go_wp2_with fail
      refine HF.out.mono ?_
      rintro e w3 ⟨v3, rfl, r3, b3⟩
      have HB3 := Lib.hid (HB2.out.trans (b3.mono HB2.out.size))
      have HR3 : Hid (RdAll w.heap.size w3 oa ls) := HR2.out.below b3 HB2.out.size
      have HV3 := Lib.hid r3
      have HRF := Lib.hid (rsfoot_any (cap := cap) HR3.out HB3.out.size HN1.out HT1.out)
      obtain ⟨q3, c3, rfl⟩ := rd_form HV3.out
      clear b3 r3 HF HB2 HR2
      go_wp2_with fail
      refine HRF.out.mono ?_
      rintro e w4 ⟨v4, rfl, r4, b4⟩
      have HB4 := Lib.hid (HB3.out.trans (b4.mono HB3.out.size))
      have HSM := Lib.hid (same_any (rd_now (B := 0) HV3.out b4) r4)
      rw [eqB_refl] at HSM
      obtain ⟨q4, c4, rfl⟩ := rd_form r4
      clear b4 r4 HRF HB3 HR3 HV3
      go_wp2_with fail
      refine HSM.out.mono ?_
      rintro e w5 ⟨rfl, n5, rfl⟩
      have HB5 := Lib.hid (below_drewN HB4.out n5)
      clear HSM HB4
      go_wp2_with fail
      go_ret
      exact ⟨rfl, HB5.out⟩
end Go.Proofs.YtlngicddojoogaaGreatDoor
/-
  A header among the arguments, opened.
-/
namespace Go.Proofs.YtlngicddojoogaaGreatDoor
open Go.ChangeShapes Go.WideShapes Go.ChangeAt Go.RowKit
set_option linter.unusedVariables false
section
variable {H : Type} {enc : TypeId × Value → H}
theorem cellsHd : Tryz.prog.cellsOf 25 = 34 := by kernel_rfl
theorem cellsB : Tryz.prog.cellsOf 5 = 1 := by kernel_rfl
theorem cellsD : Tryz.prog.cellsOf 23 = 32 := by kernel_rfl
theorem list3 {α : Type} {l : List α} (h : l.length = 3) : ∃ a b c, l = [a, b, c] := by
  match l, h with
  | [a, b, c], _ => exact ⟨a, b, c, rfl⟩
theorem u8_byte {z : Int} (h : (Lit.int .u8 z).wf = true) : ∃ b : UInt8, z = b.toNat := by
  have hb : 0 ≤ z ∧ z ≤ 255 := by simpa [Lit.wf, IntKind.min, IntKind.max, IntKind.signed, IntKind.bits] using h
  exact ⟨UInt8.ofNat z.toNat, by rw [UInt8.toNat_ofNat']; omega⟩
set_option maxRecDepth 100000 in
theorem hd_open {w : World} {base : Nat} {v : Value} {d : DataW H} {p : List MemPlace} (hv : Value.okWide Tryz.prog w .any base 25 v) (h : DataW.Trod enc Tryz.prog w 0 (fun _ => true) true 25 v d p) :
    ∃ (r : Nat) (n : Int) (dg : List UInt8), v = hV r n dg ∧ dg.length = 32 ∧ r < lim64 := by
  obtain ⟨cs, rfl, hsz⟩ := okWide_struct Tryz.underlying25 hv
  obtain ⟨fuel, hf⟩ := h
  have hf' : DataW.trod enc Tryz.prog w 0 (fun _ => true) true fuel 25 cs.toList = some (d, p) := hf
  obtain ⟨xs, n, _, _, _, hlen, hel⟩ := DataW.trod_struct Tryz.underlying25 hf'
  rw [cellsHd] at hsz
  have hl : cs.toList.length = 34 := by simpa using hsz
  obtain ⟨c0, c1, R, hcs⟩ : ∃ c0 c1 R, cs.toList = c0 :: c1 :: R := by
    match cs.toList, hl with
    | c0 :: c1 :: R, _ => exact ⟨c0, c1, R, rfl⟩
  rw [hcs] at hel hl
  obtain ⟨x0, x1, x2, rfl⟩ := list3 (show xs.length = 3 from hlen)
  have hR : R.length = 32 := by simpa using hl
  have k0 := hel 0 _ rfl
  have k1 := hel 1 _ rfl
  have k2 := hel 2 _ rfl
  obtain ⟨z0, e0, _, w0⟩ := DataW.trod_int Tryz.underlying22 (show DataW.trod enc Tryz.prog w 0 (fun _ => true) true n 22 [c0] = some x0 from k0)
  obtain ⟨z1, e1, _, w1⟩ := DataW.trod_int Tryz.underlying3 (show DataW.trod enc Tryz.prog w 0 (fun _ => true) true n 3 [c1] = some x1 from k1)
  obtain rfl : c0 = .int .u64 z0 := by simpa using e0
  obtain rfl : c1 = .int .i64 z1 := by simpa using e1
  obtain ⟨r, rfl, hr⟩ := u64_nat w0
  have k2' : DataW.trod enc Tryz.prog w 0 (fun _ => true) true n 23 R = some x2 := by
    have e : ((Value.int .u64 (r : Int) :: Value.int .i64 z1 :: R).drop 2).take (Tryz.prog.cellsOf 23) = R := by rw [cellsD]; exact List.take_of_length_le (by simpa using Nat.le_of_eq hR)
    rw [← e]; exact k2
  obtain ⟨ys, m, rfl, _, hyl, _, hye⟩ := DataW.trod_array Tryz.underlying23 k2'
  have key : ∀ i, ∃ b : UInt8, i < 32 → R[i]? = some (bv b) := by
    intro i
    by_cases hi : i < 32
    · have he := hye i hi
      rw [cellsB] at he
      have hg : ∃ y, ys[i]? = some y := by
        cases hq : ys[i]? with
        | some y => exact ⟨y, rfl⟩
        | none =>
          rw [hq] at he
          have hd : (R.drop (i * 1)).take 1 = [R[i]'(by omega)] := by rw [Nat.mul_one, List.drop_eq_getElem_cons (by omega)]; rfl
          rw [List.getElem?_eq_none_iff] at hq
          omega
      obtain ⟨y, hy⟩ := hg
      rw [hy] at he
      obtain ⟨z, hz1, _, hw⟩ := DataW.trod_int Tryz.underlying5 he
      have hd : (R.drop (i * 1)).take 1 = [R[i]'(by omega)] := by rw [Nat.mul_one, List.drop_eq_getElem_cons (by omega)]; rfl
      rw [hd] at hz1
      obtain ⟨b, rfl⟩ := u8_byte hw
      exact ⟨b, fun _ => by rw [List.getElem?_eq_getElem (by omega), List.head_eq_of_cons_eq hz1]; rfl⟩
    · exact ⟨0, fun h => absurd h hi⟩
  obtain ⟨f, hf2⟩ := Classical.axiomOfChoice key
  refine ⟨r, z1, (List.range 32).map f, ?_, by simp, hr⟩
  have hRe : R = bvs ((List.range 32).map f) := by
    apply List.ext_getElem?
    intro i
    by_cases hi : i < 32
    · rw [hf2 i hi]; simp [bvs, hi]
    · rw [List.getElem?_eq_none (by omega), List.getElem?_eq_none (by rw [bvs_length]; simp; omega)]
  refine congrArg Value.agg (Array.toList_inj.1 ?_)
  rw [hcs, hRe]
  rfl
end
end Go.Proofs.YtlngicddojoogaaGreatDoor
/-
  All walks of stage 25, for the merging.
-/
namespace Go.Proofs.YtlngicddojoogaaGreatDoor
end Go.Proofs.YtlngicddojoogaaGreatDoor
