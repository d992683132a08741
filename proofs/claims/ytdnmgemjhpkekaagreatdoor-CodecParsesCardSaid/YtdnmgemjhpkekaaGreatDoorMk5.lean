/-
  vestryref11.Form of a schema that was read.
-/
import Derived.Test.YtdnmgemjhpkekaaGreatDoorMk4
import Derived.Test.YtdnmgemjhpkekaaGreatDoorMk3
import Derived.Test.YtdnmgemjhpkekaaGreatDoorMk1
import Derived.Test.YtdnmgemjhpkekaaGreatDoorTuI
import Derived.Test.YtdnmgemjhpkekaaGreatDoorRows
import Derived.ProofKit
import Derived.LaidMore
import Derived.LaidHandle
import Derived.OpenShut
import Derived.Stop.Joined
import Derived.HandedShaped
import Derived.ChangeMaps
import Derived.SizedLaws
namespace Go.Proofs.YtdnmgemjhpkekaaGreatDoor
open Go.ChangeShapes Go.WideShapes Go.ChangeAt Go.RowKit
set_option linter.unusedVariables false
set_option linter.unusedSimpArgs false

theorem risG (s : ByteArray) (h : isName s = true) (w : World) : Calls Tryz.prog 37 #[.string s] w fun e w' => e = .returned (.bool true) ∧ w = w' := by
 have h2 := risName_any s (Nat.le_trans (isName_small h) (by decide)) w
 rw [h] at h2
 exact h2
set_option maxRecDepth 100000 in
set_option maxHeartbeats 2000000 in
theorem rightG_any (t r : ByteArray) (w : World) (ht : isName t = true) (hr : r = ⟨#[]⟩ ∨ isName r = true) : Calls Tryz.prog 62 #[.agg #[.string t, .string r]] w fun e w' => e = .returned (.bool true) ∧ Below w.heap.size w w' := by
 have HN := hiD (risG t ht (w.alloc (.cells #[.string t, .string r] 70)))
 have HB : Hid (Below w.heap.size w (w.alloc (.cells #[.string t, .string r] 70))) := (Below.refl _ _).alloc (Nat.le_refl _) _
 clear ht
 by_cases hz : r = ⟨#[]⟩
 ·subst hz
  clear hr
  go_enter Tryz.func62, Tryz.ntmps62
  go_wp2_with fail
  refine HN.out.mono ?_
  rintro e w1 ⟨rfl, rfl⟩
  go_wp2_with fail
  go_ret
  exact ⟨rfl, HB.out⟩
 ·have hn := hr.resolve_left hz
  obtain ⟨hne, hne2⟩ := isName_ne hn
  have HN2 := hiD (risG r hn (w.alloc (.cells #[.string t, .string r] 70)))
  clear hz hr hn
  go_enter Tryz.func62, Tryz.ntmps62
  go_wp2_with fail
  refine HN.out.mono ?_
  rintro e w1 ⟨rfl, rfl⟩
  go_wp2_with fail
  refine HN2.out.mono ?_
  rintro e w1 ⟨rfl, rfl⟩
  go_wp2_with fail
  go_ret
  exact ⟨rfl, HB.out⟩
set_option maxRecDepth 100000 in
set_option maxHeartbeats 2000000 in
theorem rmem_rel {ls : List AlB} {tn : ByteArray} {qa q4 : Option Addr} {ca c4 : Nat} {P : Nat → Prop} {w : World} (hn : isName tn = true) (h1 : RdA P w ls (.slice qa ls.length ca)) (hP : ∀ b, P b → b < w.heap.size) (ha : ∀ a ∈ ls, GoodA a) (hl1 : 1 ≤ ls.length) (hl2 : ls.length ≤ 32) :
  Calls Tryz.prog 36 #[.agg #[.string tn, .int .i64 1, .slice qa ls.length ca, .int .i64 0, .string ⟨#[]⟩, .string ⟨#[]⟩, .slice q4 0 c4]] w fun e w' => e = .returned (.bool true) ∧ Below w.heap.size w w' := by
 have hb0 : Below w.heap.size w (w.alloc (.cells #[.string tn, .int .i64 1, .slice qa ls.length ca, .int .i64 0, .string ⟨#[]⟩, .string ⟨#[]⟩, .slice q4 0 c4] 66)) := (Below.refl _ _).alloc (Nat.le_refl _) _
 have HB := hiD hb0
 have HX : Hid (Arr (w.alloc (.cells #[.string tn, .int .i64 1, .slice qa ls.length ca, .int .i64 0, .string ⟨#[]⟩, .string ⟨#[]⟩, .slice q4 0 c4] 66)) 66 w.heap.size [.string tn, .int .i64 1, .slice qa ls.length ca, .int .i64 0, .string ⟨#[]⟩, .string ⟨#[]⟩, .slice q4 0 c4]) := Arr.new' _ _ _ _ rfl
 have HN := hiD (risG tn hn (w.alloc (.cells #[.string tn, .int .i64 1, .slice qa ls.length ca, .int .i64 0, .string ⟨#[]⟩, .string ⟨#[]⟩, .slice q4 0 c4] 66)))
 have H1 := hiD (alls_of (rdA_keep h1 hb0 hP) (lt_keep hb0 hP) ha)
 have hz1 : (1 : Int) ≤ ls.length := by omega
 have hz2 : (ls.length : Int) ≤ 32 := by omega
 clear hb0 h1 hP ha hl1 hl2 hn
 go_enter Tryz.func36, Tryz.ntmps36
 go_upto_region 1 with (fail)
 generalize (w.alloc (.cells #[.string tn, .int .i64 1, .slice qa ls.length ca, .int .i64 0, .string ⟨#[]⟩, .string ⟨#[]⟩, .slice q4 0 c4] 66)) = w0 at HX HB HN H1 ⊢
 obtain ⟨x0, y0, x1, y1, x2, y2, x3, y3, x4, y4, x5, y5, x6, y6⟩ := HX.out.all7
 go_wp2_with fail
 refine HN.out.mono ?_
 rintro e w1 ⟨rfl, rfl⟩
 go_wp2_with fail
 clear x0 y0 x1 y1 x2 y2 x3 y3 x4 y4 x5 y5 x6 y6
 go_loopw [3] (fun iv wr => ∃ i : Nat, i ≤ ls.length ∧ iv = .int .i64 i ∧ Hid (Arr wr 66 w.heap.size [.string tn, .int .i64 1, .slice qa ls.length ca, .int .i64 0, .string ⟨#[]⟩, .string ⟨#[]⟩, .slice q4 0 c4]) ∧ Hid (Below w0.heap.size w0 wr) ∧ Hid (Below w.heap.size w wr)) (fun iv _ => ls.length - (intOf iv).toNat)
 case atStart => exact ⟨0, Nat.zero_le _, rfl, HX.out, Below.refl _ _, HB.out⟩
 case round =>
  obtain ⟨i, hi, rfl, HX, HK, HB⟩ := hrel
  have hi0 : (0 : Int) ≤ i := by omega
  by_cases hlt : i < ls.length
  ·have hi1 : (i : Int) < ls.length := by omega
   obtain ⟨b, o, t, r, rfl, hc, g1, g2⟩ := H1.out i hlt
   have a0 := (hc.later HK.out).2 0 _ rfl
   have a1 := (hc.later HK.out).2 1 _ rfl
   simp only [Nat.add_zero] at a0
   have HG := hiD (rightG_any t r wr g1 g2)
   clear hc g1 g2 hlt
   obtain ⟨x0, y0, x1, y1, x2, y2, x3, y3, x4, y4, x5, y5, x6, y6⟩ := HX.out.all7
   go_wp2_with fail
   refine HG.out.mono ?_
   rintro e w2 ⟨rfl, b2⟩
   have HX := hiD (HX.out.later b2)
   have HB := hiD (HB.out.trans (b2.mono HB.out.size))
   have HK := hiD (HK.out.trans (b2.mono HK.out.size))
   clear x0 y0 x1 y1 x2 y2 x3 y3 x4 y4 x5 y5 x6 y6
   clear b2 a0 a1
   go_wp2_with fail
   go_roundw
   case rel => exact ⟨i + 1, by omega, by go_num, HX.out, HK.out, HB.out⟩
   case measure => simp [intOf]; omega
  ·have hi1 : ¬ (i : Int) < ls.length := by omega
   have hz : ∀ q c, RdE (fun _ => False) wr (.mk 0 [] [] []) (.agg #[.int .i64 0, .string ⟨#[]⟩, .string ⟨#[]⟩, .slice q 0 c]) := fun q c => by unfold RdE; exact ⟨q, c, rfl, Nat.zero_le _, fun h => by simp at h⟩
   have HS : Hid (Calls Tryz.prog 20 #[.agg #[.int .i64 0, .string ⟨#[]⟩, .string ⟨#[]⟩, .slice q4 0 c4], .agg #[.int .i64 0, .string ⟨#[]⟩, .string ⟨#[]⟩, .slice none 0 0]] wr fun r w' => r = .returned (.int .i64 0) ∧ Below wr.heap.size wr w') := by
    have h := rcompare_any 64 (.mk 0 [] [] []) (.mk 0 [] [] []) _ _ (fun _ => False) (fun _ => False) wr (by decide) (by decide) (by decide) (by simp [okE, okL]) (by simp [okE, okL]) (hz q4 c4) (hz none 0) (fun b hb => hb.elim) (fun b hb => hb.elim)
    rw [cmpE_self] at h
    exact h
   clear hz
   obtain ⟨x0, y0, x1, y1, x2, y2, x3, y3, x4, y4, x5, y5, x6, y6⟩ := HX.out.all7
   go_wp2_with fail
   refine HS.out.mono ?_
   rintro e w2 ⟨rfl, b2⟩
   have HB := hiD (HB.out.trans (b2.mono HB.out.size))
   clear b2
   go_wp2_with fail
   go_ret
   exact ⟨rfl, HB.out⟩
set_option maxRecDepth 100000 in
set_option maxHeartbeats 2000000 in
theorem rmem_perm {mk : Int} {mv mn : List UInt8} {ms : List Ex} {tn : ByteArray} {qa q4 : Option Addr} {ca c4 : Nat} {P : Nat → Prop} {w : World} (hn : isName tn = true) (h1 : RdE P w (.mk mk mv mn ms) (.agg #[.int .i64 mk, .string (bstr mv), .string (bstr mn), .slice q4 ms.length c4])) (hP : ∀ b, P b → b < w.heap.size) (hg : rightE (.mk mk mv mn ms) = true) (hk : okE 100000 (.mk mk mv mn ms)) (hsz : sizeE (.mk mk mv mn ms) ≤ 64) :
  Calls Tryz.prog 36 #[.agg #[.string tn, .int .i64 2, .slice qa 0 ca, .int .i64 mk, .string (bstr mv), .string (bstr mn), .slice q4 ms.length c4]] w fun e w' => e = .returned (.bool true) ∧ Below w.heap.size w w' := by
 have hb0 : Below w.heap.size w (w.alloc (.cells #[.string tn, .int .i64 2, .slice qa 0 ca, .int .i64 mk, .string (bstr mv), .string (bstr mn), .slice q4 ms.length c4] 66)) := (Below.refl _ _).alloc (Nat.le_refl _) _
 have HB := hiD hb0
 have HX : Hid (Arr (w.alloc (.cells #[.string tn, .int .i64 2, .slice qa 0 ca, .int .i64 mk, .string (bstr mv), .string (bstr mn), .slice q4 ms.length c4] 66)) 66 w.heap.size [.string tn, .int .i64 2, .slice qa 0 ca, .int .i64 mk, .string (bstr mv), .string (bstr mn), .slice q4 ms.length c4]) := Arr.new' _ _ _ _ rfl
 have HN := hiD (risG tn hn (w.alloc (.cells #[.string tn, .int .i64 2, .slice qa 0 ca, .int .i64 mk, .string (bstr mv), .string (bstr mn), .slice q4 ms.length c4] 66)))
 have HS : Hid (Calls Tryz.prog 17 #[.agg #[.int .i64 mk, .string (bstr mv), .string (bstr mn), .slice q4 ms.length c4]] (w.alloc (.cells #[.string tn, .int .i64 2, .slice qa 0 ca, .int .i64 mk, .string (bstr mv), .string (bstr mn), .slice q4 ms.length c4] 66)) fun r w' => r = .returned (.bool true) ∧ Below (w.alloc (.cells #[.string tn, .int .i64 2, .slice qa 0 ca, .int .i64 mk, .string (bstr mv), .string (bstr mn), .slice q4 ms.length c4] 66)).heap.size (w.alloc (.cells #[.string tn, .int .i64 2, .slice qa 0 ca, .int .i64 mk, .string (bstr mv), .string (bstr mn), .slice q4 ms.length c4] 66)) w') := by
  have h := rRight_any (.mk mk mv mn ms) _ P (w.alloc (.cells #[.string tn, .int .i64 2, .slice qa 0 ca, .int .i64 mk, .string (bstr mv), .string (bstr mn), .slice q4 ms.length c4] 66)) hk (Nat.le_trans hsz (by decide)) (h1.below hb0 hP) (lt_keep hb0 hP)
  rw [hg] at h
  exact h
 clear hb0 h1 hP hg hsz hn hk
 go_enter Tryz.func36, Tryz.ntmps36
 go_upto_region 1 with (fail)
 generalize (w.alloc (.cells #[.string tn, .int .i64 2, .slice qa 0 ca, .int .i64 mk, .string (bstr mv), .string (bstr mn), .slice q4 ms.length c4] 66)) = w0 at HX HB HN HS ⊢
 obtain ⟨x0, y0, x1, y1, x2, y2, x3, y3, x4, y4, x5, y5, x6, y6⟩ := HX.out.all7
 go_wp2_with fail
 refine HN.out.mono ?_
 rintro e w1 ⟨rfl, rfl⟩
 go_wp2_with fail
 refine HS.out.mono ?_
 rintro r w3 ⟨rfl, b3⟩
 have HB := hiD (HB.out.trans (b3.mono HB.out.size))
 clear b3
 go_wp2_with fail
 go_ret
 exact ⟨rfl, HB.out⟩
theorem rmem_any (x : MemB) (cs : List Value) (P : Nat → Prop) (w : World) (h : rdMem P w x cs) (hP : ∀ b, P b → b < w.heap.size) (hg : GoodM x) : Calls Tryz.prog 36 #[.agg cs.toArray] w fun e w' => e = .returned (.bool true) ∧ Below w.heap.size w w' := by
 obtain ⟨n, k, ls, mk, mv, mn, ms⟩ := x
 obtain ⟨qa, ca, q4, c4, rfl, h3, h4⟩ := rdMem_form h
 obtain ⟨hn, ⟨hk, h1, h2, ha, he⟩ | ⟨hk, hl, he⟩⟩ := hg
 ·have hk : k = 1 := hk
  have he : Ex.mk mk mv mn ms = .mk 0 [] [] [] := he
  cases he
  subst hk
  exact rmem_rel hn h3 hP ha h1 h2
 ·have hk : k = 2 := hk
  have hl : ls = [] := hl
  subst hk
  subst hl
  exact rmem_perm hn h4 hP he.1 (okE_le (by decide) _ he.2.1) he.2.2
set_option maxRecDepth 100000 in
set_option maxHeartbeats 2000000 in
theorem rForm_any (l : List DefB) (q : Option Addr) (c : Nat) (P : Nat → Prop) (w : World) (h : RdK kdDef P w l (.slice q l.length c)) (hP : ∀ b, P b → b < w.heap.size) (hg : GoodS l) :
  Calls Tryz.prog 13 #[.agg #[.slice q l.length c]] w fun e w' => e = .returned (.bool true) ∧ Below w.heap.size w w' := by
 have hb0 : Below w.heap.size w (w.alloc (.cells #[.slice q l.length c] 26)) := (Below.refl _ _).alloc (Nat.le_refl _) _
 have HB := hiD hb0
 have HX : Hid (Arr (w.alloc (.cells #[.slice q l.length c] 26)) 26 w.heap.size [.slice q l.length c]) := Arr.new' _ _ _ _ rfl
 have H1 := hiD (defs_of (rdK_keep h hb0 hP) (lt_keep hb0 hP))
 have HP := hiD (lt_keep hb0 hP)
 have HG := hiD hg.2
 have hz2 : (l.length : Int) ≤ 64 := by have := hg.1; omega
 clear hb0 h hP hg
 go_enter Tryz.func13, Tryz.ntmps13
 go_upto_region 1 with (fail)
 generalize (w.alloc (.cells #[.slice q l.length c] 26)) = w0 at HX HB H1 HP ⊢
 go_wp2_with fail
 go_loopw [3] (fun iv wr => ∃ i : Nat, i ≤ l.length ∧ iv = .int .i64 i ∧ Hid (Arr wr 26 w.heap.size [.slice q l.length c]) ∧ Hid (Below w0.heap.size w0 wr) ∧ Hid (Below w.heap.size w wr)) (fun iv _ => l.length - (intOf iv).toNat)
 case atStart => exact ⟨0, Nat.zero_le _, rfl, HX.out, Below.refl _ _, HB.out⟩
 case round =>
  obtain ⟨i, hi, rfl, HX, HK, HB⟩ := hrel
  have hi0 : (0 : Int) ≤ i := by omega
  by_cases hlt : i < l.length
  ·have hi1 : (i : Int) < l.length := by omega
   obtain ⟨b, o, n, m, q2, c2, rfl, hc, hm, r⟩ := H1.out i hlt
   have g := HG.out _ hm
   obtain ⟨tn, htn⟩ : ∃ t, t = bstr n := ⟨_, rfl⟩
   have HNM : Hid (isName tn = true) := by rw [htn]; exact g.1
   rw [← htn] at hc
   have a0 := (hc.later HK.out).2 0 _ rfl
   have a1 := (hc.later HK.out).2 1 _ rfl
   simp only [Nat.add_zero] at a0
   have HG2 := hiD g.2.2
   have hm2 : (m.length : Int) ≤ 64 := by have : m.length ≤ 64 := g.2.1; omega
   have HMS := hiD (mems_of (rdK_keep r HK.out HP.out) (lt_keep HK.out HP.out))
   have HPR := hiD (lt_keep HK.out HP.out)
   clear hc hm r g htn hlt
   obtain ⟨x0, y0⟩ := HX.out.all1
   go_upto_region 5 with (fail)
   clear x0 y0
   clear a0 a1
   have hb5 : Below wr.heap.size wr (wr.alloc (.cells #[.string tn, .slice q2 m.length c2] 53)) := (Below.refl _ _).alloc (Nat.le_refl _) _
   have HD : Hid (Arr (wr.alloc (.cells #[.string tn, .slice q2 m.length c2] 53)) 53 wr.heap.size [.string tn, .slice q2 m.length c2]) := Arr.new' _ _ _ _ rfl
   have HX := hiD (HX.out.later hb5)
   have HB := hiD (HB.out.trans (hb5.mono HB.out.size))
   have HK := hiD (HK.out.trans (hb5.mono HK.out.size))
   have HKR := hiD hb5
   obtain ⟨gd, hgd⟩ : ∃ g, g = wr.heap.size := ⟨_, rfl⟩
   rw [← hgd] at HD ⊢
   generalize wr.alloc (.cells #[.string tn, .slice q2 m.length c2] 53) = w5 at HD HX HB HK HKR ⊢
   clear hgd hb5
   go_wp2_with fail
   go_loopw [5] (fun jv ws => ∃ j : Nat, j ≤ m.length ∧ jv = .int .i64 j ∧ Hid (Arr ws 53 gd [.string tn, .slice q2 m.length c2]) ∧ Hid (Arr ws 26 w.heap.size [.slice (some ⟨b, o, none⟩) l.length c]) ∧ Hid (Below wr.heap.size wr ws) ∧ Hid (Below w0.heap.size w0 ws) ∧ Hid (Below w.heap.size w ws)) (fun jv _ => m.length - (intOf jv).toNat)
   case atStart => exact ⟨0, Nat.zero_le _, rfl, HD.out, HX.out, HKR.out, HK.out, HB.out⟩
   case round =>
    obtain ⟨j, hj, rfl, HD, HX, HKR, HK, HB⟩ := hrel
    have hj0 : (0 : Int) ≤ j := by omega
    by_cases hjl : j < m.length
    ·have hj1 : (j : Int) < m.length := by omega
     obtain ⟨b3, o3, x, u0, u1, u2, u3, u4, u5, u6, rfl, hc, hm, r⟩ := HMS.out j hjl
     have a0 := (hc.later HKR.out).2 0 _ rfl
     have a1 := (hc.later HKR.out).2 1 _ rfl
     have a2 := (hc.later HKR.out).2 2 _ rfl
     have a3 := (hc.later HKR.out).2 3 _ rfl
     have a4 := (hc.later HKR.out).2 4 _ rfl
     have a5 := (hc.later HKR.out).2 5 _ rfl
     have a6 := (hc.later HKR.out).2 6 _ rfl
     simp only [Nat.add_zero] at a0
     have HMM := hiD (rmem_any x _ P _ (rdMem_keep r HKR.out HPR.out) (lt_keep HKR.out HPR.out) (HG2.out x hm))
     clear hc hm r hjl
     obtain ⟨x0, y0, x1, y1⟩ := HD.out.all2
     go_wp2_with fail
     refine HMM.out.mono ?_
     rintro e w6 ⟨rfl, b6⟩
     have HD := hiD (HD.out.later b6)
     have HX := hiD (HX.out.later b6)
     have HKR := hiD (HKR.out.trans (b6.mono HKR.out.size))
     have HK := hiD (HK.out.trans (b6.mono HK.out.size))
     have HB := hiD (HB.out.trans (b6.mono HB.out.size))
     clear x0 y0 x1 y1
     clear b6 a0 a1 a2 a3 a4 a5 a6
     go_wp2_with fail
     go_roundw
     case rel => exact ⟨j + 1, by omega, by go_num, HD.out, HX.out, HKR.out, HK.out, HB.out⟩
     case measure => simp [intOf]; omega
    ·have hj1 : ¬ (j : Int) < m.length := by omega
     have HN := hiD (fun w => risG tn HNM.out w)
     obtain ⟨x0, y0, x1, y1⟩ := HD.out.all2
     go_wp2_with fail
     refine (HN.out _).mono ?_
     rintro e w8 ⟨rfl, rfl⟩
     go_wp2_with fail
     clear x0 y0 x1 y1
     go_roundw
     case rel => exact ⟨i + 1, by omega, by go_num, HX.out, HK.out, HB.out⟩
     case measure => simp [intOf]; omega
  ·have hi1 : ¬ (i : Int) < l.length := by omega
   obtain ⟨x0, y0⟩ := HX.out.all1
   go_wp2_with fail
   go_ret
   exact ⟨rfl, HB.out⟩
theorem parsedS (b : List UInt8) : GoodS (parseSc b).1 ∧ ((parseSc b).2.1 = 0 → putSc (parseSc b).1 = b) := by
 by_cases h : (parseSc b).2.1 = 0
 ·obtain ⟨h1, h2, _⟩ := parseSc_ok h
  exact ⟨h1, fun _ => h2.symm⟩
 ·rw [parseSc_fail h]
  exact ⟨⟨by decide, fun d hd => by cases hd⟩, fun e => absurd e h⟩
def RSPost (W : World) (r : List DefB × Nat × Nat) (e : Ending) (w' : World) : Prop := ∃ v, e = .returned (.tuple #[v, .int .i64 (r.2.1 : Nat), .int .i64 (r.2.2 : Nat)]) ∧ VS W.heap.size r.1 w' v ∧ Below W.heap.size W w'
theorem VS.form2 {B : Nat} {l : List DefB} {w : World} {v : Value} (h : VS B l w v) : ∃ q c, v = .agg #[.slice q l.length c] ∧ RdK kdDef (fun g => g < w.heap.size) w l (.slice q l.length c) := by
 obtain ⟨u, rfl, hu⟩ := h
 have hu' := hu
 obtain ⟨q, c, e, _⟩ := hu'
 subst e
 exact ⟨q, c, rfl, hu.imp fun _ h => h.2⟩
section
variable {W : World}
set_option maxRecDepth 100000 in
set_option maxHeartbeats 4000000 in
theorem cparses_any {vb : Value} {b : List UInt8} (HR : ∀ (w : World) (v : Value), Rd w.heap.size w v b → b.length ≤ 1000000 → Calls Tryz.prog 9 #[v] w (RSPost w (parseSc b))) (hr : Rd W.heap.size W vb b) (hE : Env W) : Calls Tryz.prog 3 #[vb] W fun r w' => r = .returned (.bool true) ∧ Below W.heap.size W w' := by
 obtain ⟨q, cp, rfl, _, _⟩ := hr.form
 have HA := hiD (awake_any W hE)
 have HE := hiD hE
 have HRD := hiD hr
 replace HR := hiD HR
 clear hr hE
 go_enter Tryz.func3, Tryz.ntmps3
 go_wp2_with fail
 refine HA.out.mono ?_
 rintro r w1 ⟨rfl, b1⟩
 have HB1 := hiD b1
 clear b1 HA
 by_cases hl : b.length ≤ 3000
 ·have hl' : ¬ (3000 : Int) < (b.length : Nat) := by omega
  obtain ⟨x, hx⟩ : ∃ x, x = (parseSc b).1 := ⟨_, rfl⟩
  obtain ⟨pc, hpc⟩ : ∃ x, x = (parseSc b).2.1 := ⟨_, rfl⟩
  obtain ⟨pa, hpa⟩ : ∃ x, x = (parseSc b).2.2 := ⟨_, rfl⟩
  have HF : Hid (GoodS x ∧ (pc = 0 → putSc x = b)) := by rw [hx, hpc]; exact parsedS b
  have HP : Hid (∀ w, Rd w.heap.size w (.slice q b.length cp) b → Env w → Calls Tryz.prog 8 #[.slice q b.length cp] w fun e w' => ∃ v, e = .returned (.tuple #[v, errF pc pa]) ∧ VS w.heap.size x w' v ∧ Below w.heap.size w w') := fun w h1 h2 => by
   have h := cParse_any h1 (by omega) h2
   unfold CPost at h
   rw [← hx, ← hpc, ← hpa] at h
   exact h
  have HQ : Hid (∀ w, Rd w.heap.size w (.slice q b.length cp) b → Calls Tryz.prog 9 #[.slice q b.length cp] w fun e w' => ∃ v, e = .returned (.tuple #[v, .int .i64 (pc : Nat), .int .i64 (pa : Nat)]) ∧ VS w.heap.size x w' v ∧ Below w.heap.size w w') := fun w h1 => by
   have h := HR.out w _ h1 (by omega)
   unfold RSPost at h
   rw [← hx, ← hpc, ← hpa] at h
   exact h
  clear hx hpc hpa hl HR
  have HC := hiD (HP.out w1 ((HRD.out.below HB1.out (Nat.le_refl _)).mono HB1.out.size) (HE.out.below HB1.out))
  go_wp2_with fail
  refine HC.out.mono ?_
  rintro r w2 ⟨v2, rfl, hv2, b2⟩
  obtain ⟨q2, c2, rfl, hu2⟩ := hv2.form2
  have HB2 := hiD (HB1.out.trans (b2.mono HB1.out.size))
  have HV2 := hiD hu2
  clear hv2 hu2 b2 HC HB1 HP
  obtain ⟨er, her⟩ : ∃ v, v = errF pc pa := ⟨_, rfl⟩
  rw [← her]
  have HER := hiD her
  clear her
  go_upto_region 4 with (fail)
  have hb3 := (Below.refl w2.heap.size w2).alloc (Nat.le_refl _) (.cells #[.slice q2 x.length c2] 26)
  have HB3 := hiD (HB2.out.trans (hb3.mono HB2.out.size))
  have HA3 : Hid (Arr (w2.alloc (.cells #[.slice q2 x.length c2] 26)) 26 w2.heap.size [.slice q2 x.length c2]) := Arr.new' _ _ _ _ rfl
  have HV3 := hiD (rdK_keep HV2.out hb3 fun _ h => h)
  obtain ⟨g2, hg2⟩ : ∃ g, g = w2.heap.size := ⟨_, rfl⟩
  rw [← hg2] at HA3 HV3 ⊢
  clear hb3 HB2 HV2
  generalize w2.alloc (.cells #[.slice q2 x.length c2] 26) = w3 at HB3 HA3 HV3 ⊢
  clear hg2
  have HC := hiD (HQ.out w3 ((HRD.out.below HB3.out (Nat.le_refl _)).mono HB3.out.size))
  go_wp2_with fail
  refine HC.out.mono ?_
  rintro r w4 ⟨v4, rfl, hv4, b4⟩
  obtain ⟨q4, c4, rfl, hu4⟩ := hv4.form2
  have HB4 := hiD (HB3.out.trans (b4.mono HB3.out.size))
  have HV4 := hiD (rdK_keep HV3.out b4 fun _ h => Nat.lt_trans h HA3.out.lt)
  have HA4 := hiD (HA3.out.later b4)
  have HU4 := hiD hu4
  clear hv4 hu4 b4 HC HB3 HA3 HV3 HQ
  go_upto_region 5 with (fail)
  have hb5 := (Below.refl w4.heap.size w4).alloc (Nat.le_refl _) (.cells #[.slice q4 x.length c4] 26)
  have HB5 := hiD (HB4.out.trans (hb5.mono HB4.out.size))
  have HV5 := hiD (rdK_keep HV4.out hb5 fun _ h => Nat.lt_trans h HA4.out.lt)
  have HA5 := hiD (HA4.out.later hb5)
  have HU5 : Hid (Arr (w4.alloc (.cells #[.slice q4 x.length c4] 26)) 26 w4.heap.size [.slice q4 x.length c4]) := Arr.new' _ _ _ _ rfl
  have HX5 := hiD (rdK_keep HU4.out hb5 fun _ h => h)
  obtain ⟨g4, hg4⟩ : ∃ g, g = w4.heap.size := ⟨_, rfl⟩
  rw [← hg4] at HU5 HX5 ⊢
  clear hb5 HB4 HA4 HV4 HU4
  generalize w4.alloc (.cells #[.slice q4 x.length c4] 26) = w5 at HB5 HA5 HU5 HV5 HX5 ⊢
  clear hg4
  have HT := hiD (told_any pc pa w5 (HE.out.below HB5.out).2)
  rw [← HER.out] at HT
  go_wp2_with fail
  refine HT.out.mono ?_
  rintro r w6 ⟨rfl, b6⟩
  have HB6 := hiD (HB5.out.trans (b6.mono HB5.out.size))
  have HV6 := hiD (rdK_keep HV5.out b6 fun _ h => Nat.lt_trans h HA5.out.lt)
  have HX6 := hiD (rdK_keep HX5.out b6 fun _ h => Nat.lt_trans h HU5.out.lt)
  have HA6 := hiD (HA5.out.later b6)
  have HU6 := hiD (HU5.out.later b6)
  clear b6 HT HB5 HA5 HU5 HV5 HX5 HER
  have z0 := HA6.out.cell 0
  simp only [List.getElem?_cons_zero] at z0
  have y0 := HU6.out.cell 0
  simp only [List.getElem?_cons_zero] at y0
  have HC := hiD (sameS_any x q2 q4 c2 c4 _ _ w6 HV6.out HX6.out (fun b hb => Nat.lt_trans hb HA6.out.lt) (fun b hb => Nat.lt_trans hb HU6.out.lt) (HF.out.1.ok).1 (HF.out.1.ok).2)
  go_wp2_with fail
  refine HC.out.mono ?_
  rintro r w7 ⟨rfl, b7⟩
  have HB7 := hiD (HB6.out.trans (b7.mono HB6.out.size))
  have HV7 := hiD (rdK_keep HV6.out b7 fun _ h => Nat.lt_trans h HA6.out.lt)
  have HX7 := hiD (rdK_keep HX6.out b7 fun _ h => Nat.lt_trans h HU6.out.lt)
  have HA7 := hiD (HA6.out.later b7)
  have HU7 := hiD (HU6.out.later b7)
  clear b7 HC HB6 HA6 HU6 HV6 HX6 z0 y0
  by_cases hz : pc = 0
  ·subst hz
   have HPT := hiD (HF.out.2 rfl)
   have z0 := HA7.out.cell 0
   simp only [List.getElem?_cons_zero] at z0
   have HC : Hid (Calls Tryz.prog 12 #[.agg #[.slice q2 x.length c2]] w7 (OwnT w7 b)) := by
    have h := cPut_any x q2 c2 _ w7 HV7.out (fun b hb => Nat.lt_trans hb HA7.out.lt) HF.out.1 (HE.out.below HB7.out).1
    rw [HPT.out] at h
    exact h
   go_wp2_with fail
   refine HC.out.mono ?_
   rintro r w8 ⟨v8, rfl, o8, b8⟩
   have HB8 := hiD (HB7.out.trans (b8.mono HB7.out.size))
   have HX8 := hiD (rdK_keep HX7.out b8 fun _ h => Nat.lt_trans h HU7.out.lt)
   have HU8 := hiD (HU7.out.later b8)
   have HP8 := hiD (Rd.of_own o8)
   obtain ⟨q8, c8, rfl⟩ := own_form o8
   clear o8 b8 HC HB7 HA7 HU7 HV7 HX7 z0
   have y0 := HU8.out.cell 0
   simp only [List.getElem?_cons_zero] at y0
   have HC := hiD (rForm_any x q4 c4 _ w8 HX8.out (fun b hb => Nat.lt_trans hb HU8.out.lt) HF.out.1)
   go_wp2_with fail
   refine HC.out.mono ?_
   rintro r w9 ⟨rfl, b9⟩
   have HB9 := hiD (HB8.out.trans (b9.mono HB8.out.size))
   have HP9 := hiD ((HP8.out.below b9 (Nat.le_refl _)).mono b9.size)
   clear b9 HC HB8 HX8 HU8 HP8 y0
   have HC := hiD (same_any HP9.out ((HRD.out.below HB9.out (Nat.le_refl _)).mono HB9.out.size))
   rw [show eqB b b = true from by unfold eqB; exact beq_self_eq_true b] at HC
   go_wp2_with fail
   refine HC.out.mono ?_
   rintro r wa ⟨rfl, na, rfl⟩
   have HBa := hiD (HB9.out.trans ((Joins.below_draws _ _ na).mono HB9.out.size))
   clear HC HB9 HP9
   go_wp2_with fail
   go_ret
   exact ⟨rfl, HBa.out⟩
  ·have hpz : ¬ (pc : Int) = 0 := by omega
   have hpz2 : ((pc : Int) != 0) = true := by rw [bne_iff_ne]; exact hpz
   go_wp2_with fail
   go_ret
   exact ⟨rfl, HB7.out⟩
 ·have hl' : (3000 : Int) < (b.length : Nat) := by omega
  have HA := hiD (awake_any w1 (HE.out.below HB1.out))
  clear hl
  go_wp2_with fail
  refine HA.out.mono ?_
  rintro r w2 ⟨rfl, b2⟩
  have HB2 := hiD (HB1.out.trans (b2.mono HB1.out.size))
  clear b2 HA
  go_wp2_with fail
  go_ret
  exact ⟨rfl, HB2.out⟩
end
theorem resS3 {fn : Func} {p q r : Tmp} (h : fn.results = #[.cell p 26, .tmp q, .tmp r]) {tmps : Array Value} {w : World} {g : Nat} {u0 : Value} (hE : Arr w 26 g [u0]) (hp : tmps.getD p undef = .pointer (some ⟨g, 0, none⟩)) :
  (results fn tmps).run Tryz.prog w = .ok (.tuple #[.agg #[u0], tmps.getD q undef, tmps.getD r undef]) w := by
 have hp' : tmps[p]?.getD undef = .pointer (some ⟨g, 0, none⟩) := by simpa using hp
 have r2 := run_loadVar_row (P := Tryz.prog) w g _ 26 #[u0] (0, 0) _ hE Tryz.underlying26 rfl (by kernel_rfl)
 simp [results, h, hp', asAddr, r2]
section
variable {b : List UInt8} {s : St} {W : World} {q : Option Addr} {cp lv : Nat} {ox cx ax : Int}
theorem pNumS (hr : Rd W.heap.size W (.slice q b.length cp) b) (hp : PI b s ox cx ax) (hbl : b.length ≤ 1000000) : Calls Tryz.prog 25 #[.agg #[.slice q b.length cp, .int .i64 ox, .int .i64 cx, .int .i64 ax, .int .i64 (lv : Nat)], .int .i64 0, .int .i64 64, .int .i64 15] W fun e w' => ∃ ox2 cx2 ax2, e = .returned (.tuple #[.agg #[.slice q b.length cp, .int .i64 ox2, .int .i64 cx2, .int .i64 ax2, .int .i64 (lv : Nat)], .int .i64 ((numC b (chkR 0 64 15) s).1 : Nat)]) ∧ PI b (numC b (chkR 0 64 15) s).2 ox2 cx2 ax2 ∧ Below W.heap.size W w' := pNum 0 64 15 hr hp hbl (by decide) (by decide) (by decide)
theorem pNumK (hr : Rd W.heap.size W (.slice q b.length cp) b) (hp : PI b s ox cx ax) (hbl : b.length ≤ 1000000) : Calls Tryz.prog 25 #[.agg #[.slice q b.length cp, .int .i64 ox, .int .i64 cx, .int .i64 ax, .int .i64 (lv : Nat)], .int .i64 1, .int .i64 2, .int .i64 6] W fun e w' => ∃ ox2 cx2 ax2, e = .returned (.tuple #[.agg #[.slice q b.length cp, .int .i64 ox2, .int .i64 cx2, .int .i64 ax2, .int .i64 (lv : Nat)], .int .i64 ((numC b (chkR 1 2 6) s).1 : Nat)]) ∧ PI b (numC b (chkR 1 2 6) s).2 ox2 cx2 ax2 ∧ Below W.heap.size W w' := pNum 1 2 6 hr hp hbl (by decide) (by decide) (by decide)
theorem pNumT (hr : Rd W.heap.size W (.slice q b.length cp) b) (hp : PI b s ox cx ax) (hbl : b.length ≤ 1000000) : Calls Tryz.prog 25 #[.agg #[.slice q b.length cp, .int .i64 ox, .int .i64 cx, .int .i64 ax, .int .i64 (lv : Nat)], .int .i64 1, .int .i64 32, .int .i64 15] W fun e w' => ∃ ox2 cx2 ax2, e = .returned (.tuple #[.agg #[.slice q b.length cp, .int .i64 ox2, .int .i64 cx2, .int .i64 ax2, .int .i64 (lv : Nat)], .int .i64 ((numC b (chkR 1 32 15) s).1 : Nat)]) ∧ PI b (numC b (chkR 1 32 15) s).2 ox2 cx2 ax2 ∧ Below W.heap.size W w' := pNum 1 32 15 hr hp hbl (by decide) (by decide) (by decide)
theorem pNameE (hr : Rd W.heap.size W (.slice q b.length cp) b) (hp : PI b s ox cx ax) (hbl : b.length ≤ 1000000) : Calls Tryz.prog 26 #[.agg #[.slice q b.length cp, .int .i64 ox, .int .i64 cx, .int .i64 ax, .int .i64 (lv : Nat)], .bool true] W fun e w' => ∃ ox2 cx2 ax2, e = .returned (.tuple #[.agg #[.slice q b.length cp, .int .i64 ox2, .int .i64 cx2, .int .i64 ax2, .int .i64 (lv : Nat)], .string (bstr (nameC b true s).1)]) ∧ PI b (nameC b true s).2 ox2 cx2 ax2 ∧ Below W.heap.size W w' := by
 obtain ⟨o2, h1, rfl, rfl, rfl⟩ := hp
 exact (rName_any true hr h1 hbl).mono fun e w' ⟨o3, h2, h3, h4⟩ => ⟨_, _, _, h2, ⟨o3, h3, rfl, rfl, rfl⟩, h4⟩
theorem pRead1 (hr : Rd W.heap.size W (.slice q b.length cp) b) (hbl : b.length ≤ 1000000) {o : Nat} (ho : o ≤ b.length) : Calls Tryz.prog 27 #[.agg #[.slice q b.length cp, .int .i64 (o : Nat), .int .i64 0, .int .i64 0, .int .i64 0], .int .i64 1] W (QPost W b q cp (refC b 16 o 0)) := rRead_any 16 (by decide) W o 0 hr hbl ho (Nat.zero_le _)
theorem pFin0 (hp : PI b s ox cx ax) : ((finC b s).1 = 0 → (finC b s).2 = 0) ∧ Calls Tryz.prog 28 #[.agg #[.slice q b.length cp, .int .i64 ox, .int .i64 cx, .int .i64 ax, .int .i64 (lv : Nat)]] W fun e w' => e = .returned (.tuple #[.int .i64 ((finC b s).1 : Nat), .int .i64 ((finC b s).2 : Nat)]) ∧ Below W.heap.size W w' := ⟨finC_0 hp, pFin hp⟩
end
def RT (W : World) (ps z es : List Value) (w : World) : Prop := Arr w 26 W.heap.size z ∧ Arr w 59 (W.heap.size + 1) ps ∧ Arr w 26 (W.heap.size + 2) es ∧ Below W.heap.size W w
section
variable {W w w' : World} {ps z es : List Value}
theorem RT.later (h : RT W ps z es w) (hb : Below w.heap.size w w') : RT W ps z es w' := ⟨h.1.later hb, h.2.1.later hb, h.2.2.1.later hb, h.2.2.2.trans (hb.mono h.2.2.2.size)⟩
theorem RT.cz (h : RT W ps z es w) {i : Nat} (v : Value) (hi : i < 5) : RT W ps (z.set i v) es (w.setCell ⟨W.heap.size, i, none⟩ v) :=
 ⟨h.1.set i v, h.2.1.setCell (by simp only [ne_eq]; omega) v, h.2.2.1.setCell (by simp only [ne_eq]; omega) v, below_box h.2.2.2 (Nat.le_refl _) i v⟩
theorem RT.cp (h : RT W ps z es w) {i : Nat} (v : Value) (hi : i < 5) : RT W (ps.set i v) z es (w.setCell ⟨W.heap.size + 1, i, none⟩ v) :=
 ⟨h.1.setCell (by simp only [ne_eq]; omega) v, h.2.1.set i v, h.2.2.1.setCell (by simp only [ne_eq]; omega) v, below_box h.2.2.2 (by omega) i v⟩
theorem RT.ce (h : RT W ps z es w) {i : Nat} (v : Value) (hi : i < 5) : RT W ps z (es.set i v) (w.setCell ⟨W.heap.size + 2, i, none⟩ v) :=
 ⟨h.1.setCell (by simp only [ne_eq]; omega) v, h.2.1.setCell (by simp only [ne_eq]; omega) v, h.2.2.1.set i v, below_box h.2.2.2 (by omega) i v⟩
theorem RT.far (h : RT W ps z es w) {g i : Nat} (v : Value) (hg : W.heap.size + 3 ≤ g) : RT W ps z es (w.setCell ⟨g, i, none⟩ v) :=
 ⟨h.1.setCell (by simp only [ne_eq]; omega) v, h.2.1.setCell (by simp only [ne_eq]; omega) v, h.2.2.1.setCell (by simp only [ne_eq]; omega) v, below_box h.2.2.2 (by omega) i v⟩
theorem RT.grown (h : RT W ps z es w) {row : Option Nat} (hg : w.grownBy w' row) (hr : ∀ k, row = some k → W.heap.size + 3 ≤ k) : RT W ps z es w' :=
 ⟨(hg.block _ h.1.lt (fun e => absurd (hr _ e.symm) (by omega))).trans h.1, (hg.block _ h.2.1.lt (fun e => absurd (hr _ e.symm) (by omega))).trans h.2.1, (hg.block _ h.2.2.1.lt (fun e => absurd (hr _ e.symm) (by omega))).trans h.2.2.1, below_grown' h.2.2.2 hg (fun k hk => Nat.le_trans (by omega) (hr k hk)) (Nat.le_refl _)⟩
theorem RT.pl {y0 y1 y2 y3 y4 : Value} (h : RT W [y0, y1, y2, y3, y4] z es w) (x0 x1 x2 x3 x4 : Value) : RT W [x0, x1, x2, x3, x4] z es (((((w.setCell ⟨W.heap.size + 1, 0, none⟩ x0).setCell ⟨W.heap.size + 1, 1, none⟩ x1).setCell ⟨W.heap.size + 1, 2, none⟩ x2).setCell ⟨W.heap.size + 1, 3, none⟩ x3).setCell ⟨W.heap.size + 1, 4, none⟩ x4) := ((((h.cp x0 (by decide)).cp x1 (by decide)).cp x2 (by decide)).cp x3 (by decide)).cp x4 (by decide)
end
section
variable {b : List UInt8} {W : World} {q : Option Addr} {cp : Nat}
theorem RT.start (W : World) (v : Value) : RT W [v, .int .i64 0, .int .i64 0, .int .i64 0, .int .i64 0] [.slice none 0 0] [.slice none 0 0] (((W.alloc (.cells #[.slice none 0 0] 26)).alloc (.cells #[v, .int .i64 0, .int .i64 0, .int .i64 0, .int .i64 0] 59)).alloc (.cells #[.slice none 0 0] 26)) :=
 ⟨((Arr.new' _ _ _ _ rfl).alloc _).alloc _, (Arr.new2 _ _ _ _ _ rfl).alloc _, Arr.new3 _ _ _ _ _ _ rfl, (((Below.refl _ _).alloc (Nat.le_refl _) _).alloc (by simp) _).alloc (by simp; omega) _⟩
end
theorem rowK {α : Type} {K : Kd α} {base : Nat} {w : World} {q : Option Addr} {c : Nat} {xs : List α} (h : PRow K base (fun _ => False) w (.slice q xs.length c) xs) : RdK K (Bt base w.heap.size) w xs (.slice q xs.length c) := by
 obtain ⟨_, hc, hk⟩ := h.cells
 refine ⟨q, c, rfl, hc, fun h0 => ?_⟩
 obtain ⟨g, rfl, h1, h2, _, cs, h3, h4⟩ := hk h0
 exact ⟨g, 0, rfl, ⟨h1, h2⟩, cs, h3.imp fun b hb => ⟨hb.1, hb.2.1⟩, fun j u hj => by rw [Nat.zero_add]; exact h4 j u hj⟩
theorem Arr.farP {w : World} {t : TypeId} {g b : Nat} {cs : List Value} (h : Arr w t g cs) (hb : g ≠ b) (x0 x1 x2 x3 x4 : Value) : Arr (((((w.setCell ⟨b, 0, none⟩ x0).setCell ⟨b, 1, none⟩ x1).setCell ⟨b, 2, none⟩ x2).setCell ⟨b, 3, none⟩ x3).setCell ⟨b, 4, none⟩ x4) t g cs := ((((h.setCell (a := ⟨b, 0, none⟩) hb x0).setCell (a := ⟨b, 1, none⟩) hb x1).setCell (a := ⟨b, 2, none⟩) hb x2).setCell (a := ⟨b, 3, none⟩) hb x3).setCell (a := ⟨b, 4, none⟩) hb x4
theorem Arr.far43 {w : World} {t : TypeId} {g g2 : Nat} {cs : List Value} (h : Arr w t g cs) (hb : g ≠ g2) (x0 x1 x2 x3 : Value) : Arr ((((w.setCell ⟨g2, 3, none⟩ x0).setCell ⟨g2, 4, none⟩ x1).setCell ⟨g2, 5, none⟩ x2).setCell ⟨g2, 6, none⟩ x3) t g cs := (((h.setCell (a := ⟨g2, 3, none⟩) hb x0).setCell (a := ⟨g2, 4, none⟩) hb x1).setCell (a := ⟨g2, 5, none⟩) hb x2).setCell (a := ⟨g2, 6, none⟩) hb x3
theorem AlRow.nil0 {base : Nat} {w : World} : AlRow base w (.slice none 0 0) [] := World.ownsRow_nil _ _ _ _
set_option maxRecDepth 100000 in
set_option maxHeartbeats 32000000 in
theorem rParse_any {b : List UInt8} {W : World} {vb : Value} (hr : Rd W.heap.size W vb b) (hbl : b.length ≤ 1000000) : Calls Tryz.prog 9 #[vb] W (RSPost W (parseSc b)) := by
 obtain ⟨q, cp, rfl, _, _⟩ := hr.form
 have hs0 := RT.start W (.slice q b.length cp)
 have HR0 := hiD hs0
 have HRD := hiD hr
 have HBL := hiD hbl
 have HN1 := hiD (pNumS (lv := 0) ((hr.below hs0.2.2.2 (Nat.le_refl _)).mono hs0.2.2.2.size) (PI.of_go (b := b) (Nat.zero_le _)) hbl)
 obtain ⟨n, hn⟩ : ∃ x, x = (numC b (chkR 0 64 15) (.go 0)).1 := ⟨_, rfl⟩
 obtain ⟨s1, hs1⟩ : ∃ x, x = (numC b (chkR 0 64 15) (.go 0)).2 := ⟨_, rfl⟩
 have HNN : Hid (n ≤ 64) := by rw [hn]; exact numC_le (fun x hx => (chkC_0 hx).2) _
 obtain ⟨lv5, hlv5⟩ : ∃ x : Nat, x = 0 := ⟨_, rfl⟩
 have HE0 : Hid (schE b = loopE (defE b) (n - 0) [] s1 lv5) := by show _ = _; rw [hlv5, hn, hs1]; rfl
 rw [← hn, ← hs1] at HN1
 clear hr hbl hn hs1 hs0
 have HN1 : Hid (Calls Tryz.prog 25 #[.agg #[.slice q b.length cp, .int .i64 0, .int .i64 0, .int .i64 0, .int .i64 0], .int .i64 0, .int .i64 64, .int .i64 15] (((W.alloc (.cells #[.slice none 0 0] 26)).alloc (.cells #[.slice q b.length cp, .int .i64 0, .int .i64 0, .int .i64 0, .int .i64 0] 59)).alloc (.cells #[.slice none 0 0] 26)) fun e w' => ∃ ox2 cx2 ax2, e = .returned (.tuple #[.agg #[.slice q b.length cp, .int .i64 ox2, .int .i64 cx2, .int .i64 ax2, .int .i64 ((0 : Nat) : Int)], .int .i64 (n : Nat)]) ∧ PI b s1 ox2 cx2 ax2 ∧ Below (((W.alloc (.cells #[.slice none 0 0] 26)).alloc (.cells #[.slice q b.length cp, .int .i64 0, .int .i64 0, .int .i64 0, .int .i64 0] 59)).alloc (.cells #[.slice none 0 0] 26)).heap.size (((W.alloc (.cells #[.slice none 0 0] 26)).alloc (.cells #[.slice q b.length cp, .int .i64 0, .int .i64 0, .int .i64 0, .int .i64 0] 59)).alloc (.cells #[.slice none 0 0] 26)) w') := HN1
 go_enter Tryz.func9, Tryz.ntmps9
 go_upto_region 3 with (fail)
 generalize (((W.alloc (.cells #[.slice none 0 0] 26)).alloc (.cells #[.slice q b.length cp, .int .i64 0, .int .i64 0, .int .i64 0, .int .i64 0] 59)).alloc (.cells #[.slice none 0 0] 26)) = w0 at HR0 HN1 ⊢
 have x0 := HR0.out.2.1.cell 0
 have y0 := HR0.out.2.1.free 0
 have x1 := HR0.out.2.1.cell 1
 have y1 := HR0.out.2.1.free 1
 have x2 := HR0.out.2.1.cell 2
 have y2 := HR0.out.2.1.free 2
 have x3 := HR0.out.2.1.cell 3
 have y3 := HR0.out.2.1.free 3
 have x4 := HR0.out.2.1.cell 4
 have y4 := HR0.out.2.1.free 4
 simp only [List.getElem?_cons_zero, List.getElem?_cons_succ] at x0 x1 x2 x3 x4
 go_wp2_with fail
 refine HN1.out.mono ?_
 rintro e w1 ⟨ox5, cx5, ax5, rfl, hp1, b1⟩
 rw [show ((0 : Nat) : Int) = (lv5 : Nat) from by rw [hlv5]]
 have HL5 : Hid (lv5 ≤ 32) := by show _ ≤ _; omega
 have HR1 := hiD (HR0.out.later b1)
 have HP1 := hiD hp1
 clear hp1 b1 HN1 HR0 hlv5
 clear x0 y0 x1 y1 x2 y2 x3 y3 x4 y4
 have x0 := HR1.out.2.1.cell 0
 have y0 := HR1.out.2.1.free 0
 have x1 := HR1.out.2.1.cell 1
 have y1 := HR1.out.2.1.free 1
 have x2 := HR1.out.2.1.cell 2
 have y2 := HR1.out.2.1.free 2
 have x3 := HR1.out.2.1.cell 3
 have y3 := HR1.out.2.1.free 3
 have x4 := HR1.out.2.1.cell 4
 have y4 := HR1.out.2.1.free 4
 simp only [List.getElem?_cons_zero, List.getElem?_cons_succ] at x0 x1 x2 x3 x4
 go_upto_region 4 with (fail)
 clear x0 y0 x1 y1 x2 y2 x3 y3 x4 y4
 have HR2 : Hid (RT W [.slice q b.length cp, .int .i64 ox5, .int .i64 cx5, .int .i64 ax5, .int .i64 (lv5 : Nat)] [.slice none 0 0] [.slice none 0 0] (((((w1.setCell ⟨W.heap.size + 1, 0, none⟩ (.slice q b.length cp)).setCell ⟨W.heap.size + 1, 1, none⟩ (.int .i64 ox5)).setCell ⟨W.heap.size + 1, 2, none⟩ (.int .i64 cx5)).setCell ⟨W.heap.size + 1, 3, none⟩ (.int .i64 ax5)).setCell ⟨W.heap.size + 1, 4, none⟩ (.int .i64 (lv5 : Nat)))) := HR1.out.pl (.slice q b.length cp) (.int .i64 ox5) (.int .i64 cx5) (.int .i64 ax5) (.int .i64 (lv5 : Nat))
 clear HR1
 generalize (((((w1.setCell ⟨W.heap.size + 1, 0, none⟩ (.slice q b.length cp)).setCell ⟨W.heap.size + 1, 1, none⟩ (.int .i64 ox5)).setCell ⟨W.heap.size + 1, 2, none⟩ (.int .i64 cx5)).setCell ⟨W.heap.size + 1, 3, none⟩ (.int .i64 ax5)).setCell ⟨W.heap.size + 1, 4, none⟩ (.int .i64 (lv5 : Nat))) = w2 at HR2 ⊢
 go_wp2_with fail
 go_loopw [8] (fun iv wr => ∃ (i : Nat) (acc : List DefB) (s6 : St) (ox6 cx6 ax6 : Int) (lv6 : Nat) (q6 : Option Addr) (c6 : Nat), i ≤ n ∧ iv = .int .i64 (i : Nat) ∧ Hid (acc.length = i) ∧ Hid (PRow kdDef (W.heap.size + 3) (fun _ => False) wr (.slice q6 acc.length c6) acc) ∧ Hid (RT W [.slice q b.length cp, .int .i64 ox6, .int .i64 cx6, .int .i64 ax6, .int .i64 (lv6 : Nat)] [.slice none 0 0] [.slice q6 acc.length c6] wr) ∧ Hid (PI b s6 ox6 cx6 ax6) ∧ Hid (lv6 ≤ 32) ∧ Hid (schE b = loopE (defE b) (n - i) acc s6 lv6)) (fun iv _ => n - (intOf iv).toNat)
 case atStart => exact ⟨0, [], s1, ox5, cx5, ax5, lv5, none, 0, Nat.zero_le _, rfl, rfl, PRow.nil _ _ _ _, HR2, HP1, HL5, HE0⟩
 case round =>
  obtain ⟨i, acc, s6, ox6, cx6, ax6, lv6, q6, c6, hi, rfl, HLEN, HRW6, HR6, HP6, HL6, HE6⟩ := hrel
  by_cases hlt : i < n
  ·cases s6 with
   | er c a =>
    have hlt' : (i : Int) < n := by omega
    have hcx0 := HP6.out.er
    have hc20 : (cx6 == 0) = false := by simpa using hcx0
    have HEN : Hid (schE b = (acc, .er c a, lv6)) := by
     show _ = _
     rw [HE6.out, loopE_er]
    clear HE6 hlt
    have x0 := HR6.out.2.1.cell 0
    have y0 := HR6.out.2.1.free 0
    have x1 := HR6.out.2.1.cell 1
    have y1 := HR6.out.2.1.free 1
    have x2 := HR6.out.2.1.cell 2
    have y2 := HR6.out.2.1.free 2
    have x3 := HR6.out.2.1.cell 3
    have y3 := HR6.out.2.1.free 3
    have x4 := HR6.out.2.1.cell 4
    have y4 := HR6.out.2.1.free 4
    simp only [List.getElem?_cons_zero, List.getElem?_cons_succ] at x0 x1 x2 x3 x4
    have HEE : Hid (parseSc b = (if (finC b (.er c a)).1 = 0 then acc else [], finC b (.er c a))) := by
     have h := parseSc_ref b
     rw [HEN.out] at h
     exact h
    have HF := hiD (pFin0 (lv := lv6) (W := wr) (q := q) (cp := cp) HP6.out)
    obtain ⟨fc, hfc⟩ : ∃ x, x = (finC b (.er c a)).1 := ⟨_, rfl⟩
    obtain ⟨fa, hfa⟩ : ∃ x, x = (finC b (.er c a)).2 := ⟨_, rfl⟩
    rw [← hfc, ← hfa] at HF
    have HE1 : Hid (parseSc b = (if fc = 0 then acc else [], fc, fa)) := by rw [hfc, hfa]; exact HEE.out
    have HFZ := hiD HF.out.1
    have HFC := hiD HF.out.2
    clear hfc hfa HEE HEN HF
    go_wp2_with fail
    refine HFC.out.mono ?_
    rintro e w7 ⟨rfl, b7⟩
    have HR7 := hiD (HR6.out.later b7)
    have HW7 := hiD (HRW6.out.later b7)
    clear b7 HFC HR6 HRW6
    clear x0 y0 x1 y1 x2 y2 x3 y3 x4 y4
    have e0 := HR7.out.1.cell 0
    have f0 := HR7.out.1.free 0
    simp only [List.getElem?_cons_zero] at e0
    have t0 := HR7.out.2.2.1.cell 0
    have r0 := HR7.out.2.2.1.free 0
    simp only [List.getElem?_cons_zero] at t0
    by_cases hz : fc = 0
    ·have HE2 : Hid (parseSc b = (acc, 0, 0)) := by show _ = _; rw [HE1.out, if_pos hz, HFZ.out hz, hz]
     subst hz
     go_wp2_with fail
     have hA := HR7.out.cz (i := 0) (.slice q6 acc.length c6) (by decide)
     have hW := HW7.out.box (g := W.heap.size) (.inl (by omega)) 0 (.slice q6 acc.length c6)
     refine bodyPost_ret (resS3 rfl hA.1 rfl) rfl ?_
     rw [HE2.out]
     exact ⟨_, rfl, ⟨_, rfl, (rowK hW).imp fun b hb => ⟨by have := hb.1; omega, hb.2⟩⟩, hA.2.2.2⟩
    ·have HE2 : Hid (parseSc b = ([], fc, fa)) := by show _ = _; rw [HE1.out, if_neg hz]
     have hcx : ¬ (fc : Int) = 0 := by omega
     have hc2 : ((fc : Int) == 0) = false := by rw [beq_eq_false_iff_ne]; exact hcx
     have hc3 : ((fc : Int) != 0) = true := by rw [bne_iff_ne]; exact hcx
     go_wp2_with fail
     have hA := HR7.out.cz (i := 0) (.slice none 0 0) (by decide)
     refine bodyPost_ret (resS3 rfl hA.1 rfl) rfl ?_
     rw [HE2.out]
     exact ⟨_, rfl, ⟨_, rfl, none, 0, rfl, Nat.le_refl _, fun h => absurd h (Nat.lt_irrefl 0)⟩, hA.2.2.2⟩
   | go o2 =>
    obtain ⟨rfl, rfl, rfl, hol2⟩ := HP6.out.go
    have HOL2 := hiD hol2
    have hlt' : (i : Int) < n := by omega
    have HW : Hid (wrap64 ((i : Int) + 1) = (i : Int) + 1) := by show _ = _; unfold wrap64; have := HNN.out; omega
    have HLT : Hid (i < n) := hlt
    have HL9 := hiD ((def_reads b o2 lv6 HL6.out).2)
    obtain ⟨dn, hdn⟩ : ∃ x, x = (nameC b false (.go o2)).1 := ⟨_, rfl⟩
    obtain ⟨s8, hs8⟩ : ∃ x, x = (nameC b false (.go o2)).2 := ⟨_, rfl⟩
    obtain ⟨dm, hdm⟩ : ∃ x, x = (numC b (chkR 0 64 15) s8).1 := ⟨_, rfl⟩
    obtain ⟨s9, hs9⟩ : ∃ x, x = (numC b (chkR 0 64 15) s8).2 := ⟨_, rfl⟩
    have HD0 : Hid (defE b o2 lv6 = ((dn, (loopE (memE b) (dm - 0) [] s9 lv6).1), (loopE (memE b) (dm - 0) [] s9 lv6).2)) := by show _ = _; rw [hdm, hs9, hdn, hs8]; rfl
    have HDM : Hid (dm ≤ 64) := by rw [hdm]; exact numC_le (fun x hx => (chkC_0 hx).2) _
    have HE7 : Hid (schE b = loopE (defE b) (n - (i + 1)) (acc ++ [(defE b o2 lv6).1]) (defE b o2 lv6).2.1 (defE b o2 lv6).2.2) := by
     show _ = _
     rw [HE6.out, show n - i = (n - (i + 1)) + 1 by omega, loopE]
    have HAC : Hid (acc.length + 1 ≤ 200000) := by show _ ≤ _; have := HNN.out; have := HLEN.out; omega
    have HDN := hiD hdn
    have HS8 := hiD hs8
    have HDMN := hiD hdm
    have HS9 := hiD hs9
    clear HE6 hlt hol2 HP6 hdn hs8 hdm hs9
    generalize hwr : wr = w6 at HRW6 HR6 ⊢
    clear hwr
    have x0 := HR6.out.2.1.cell 0
    have y0 := HR6.out.2.1.free 0
    have x1 := HR6.out.2.1.cell 1
    have y1 := HR6.out.2.1.free 1
    have x2 := HR6.out.2.1.cell 2
    have y2 := HR6.out.2.1.free 2
    have x3 := HR6.out.2.1.cell 3
    have y3 := HR6.out.2.1.free 3
    have x4 := HR6.out.2.1.cell 4
    have y4 := HR6.out.2.1.free 4
    simp only [List.getElem?_cons_zero, List.getElem?_cons_succ] at x0 x1 x2 x3 x4
    go_upto_region 9 with (fail)
    clear x0 y0 x1 y1 x2 y2 x3 y3 x4 y4
    have hb7 : Below w6.heap.size w6 (w6.alloc (.cells #[.string ⟨#[]⟩, .slice none 0 0] 53)) := (Below.refl _ _).alloc (Nat.le_refl _) _
    have HR7 := hiD (HR6.out.later hb7)
    have HT7 : Hid (Arr (w6.alloc (.cells #[.string ⟨#[]⟩, .slice none 0 0] 53)) 53 w6.heap.size [.string ⟨#[]⟩, .slice none 0 0]) := Arr.new' _ _ _ _ rfl
    have HK7 : Hid (Kp (W.heap.size + 1) w6 (w6.alloc (.cells #[.string ⟨#[]⟩, .slice none 0 0] 53))) := Kp.of hb7
    have HBLK : Hid (∀ b, (Value.slice q6 acc.length c6).ownBlock = some b → b < w6.heap.size) := fun b hb => by obtain ⟨_, h, _⟩ := HRW6.out; exact (h.lt b hb).2
    obtain ⟨g, hg⟩ : ∃ g, g = w6.heap.size := ⟨_, rfl⟩
    have HG6 : Hid (W.heap.size + 3 ≤ g ∧ w6.heap.size ≤ g) := ⟨by have := HR6.out.2.2.1.lt; omega, Nat.le_of_eq hg.symm⟩
    rw [← hg] at HT7 ⊢
    clear hb7 hg HR6
    generalize w6.alloc (.cells #[.string ⟨#[]⟩, .slice none 0 0] 53) = w7 at HR7 HT7 HK7 ⊢
    have HC7 := hiD (pName (lv := lv6) ((HRD.out.below HR7.out.2.2.2 (Nat.le_refl _)).mono HR7.out.2.2.2.size) (PI.of_go HOL2.out) HBL.out)
    rw [← HDN.out, ← HS8.out] at HC7
    have x0 := HR7.out.2.1.cell 0
    have y0 := HR7.out.2.1.free 0
    have x1 := HR7.out.2.1.cell 1
    have y1 := HR7.out.2.1.free 1
    have x2 := HR7.out.2.1.cell 2
    have y2 := HR7.out.2.1.free 2
    have x3 := HR7.out.2.1.cell 3
    have y3 := HR7.out.2.1.free 3
    have x4 := HR7.out.2.1.cell 4
    have y4 := HR7.out.2.1.free 4
    simp only [List.getElem?_cons_zero, List.getElem?_cons_succ] at x0 x1 x2 x3 x4
    go_wp2_with fail
    refine HC7.out.mono ?_
    rintro e w8 ⟨ox8, cx8, ax8, rfl, hp8, b8⟩
    have HP8 := hiD hp8
    have HR8 := hiD (HR7.out.later b8)
    have HT8 := hiD (HT7.out.later b8)
    have HK8 := hiD (HK7.out.trans (Kp.of b8))
    have hgw : ¬ g = W.heap.size + 1 := by have := HG6.out.1; omega
    have hgw' : ¬ W.heap.size + 1 = g := by have := HG6.out.1; omega
    clear hp8 b8 HC7 HR7 HT7 HK7
    clear x0 y0 x1 y1 x2 y2 x3 y3 x4 y4
    have x0 := HR8.out.2.1.cell 0
    have y0 := HR8.out.2.1.free 0
    have x1 := HR8.out.2.1.cell 1
    have y1 := HR8.out.2.1.free 1
    have x2 := HR8.out.2.1.cell 2
    have y2 := HR8.out.2.1.free 2
    have x3 := HR8.out.2.1.cell 3
    have y3 := HR8.out.2.1.free 3
    have x4 := HR8.out.2.1.cell 4
    have y4 := HR8.out.2.1.free 4
    simp only [List.getElem?_cons_zero, List.getElem?_cons_succ] at x0 x1 x2 x3 x4
    obtain ⟨e0, f0, e1, f1⟩ := HT8.out.all2
    go_upto_region 10 with (fail)
    clear x0 y0 x1 y1 x2 y2 x3 y3 x4 y4
    clear e0 f0 e1 f1
    have HR9 := hiD ((HR8.out.pl (.slice q b.length cp) (.int .i64 ox8) (.int .i64 cx8) (.int .i64 ax8) (.int .i64 (lv6 : Nat))).far (g := g) (i := 0) (.string (bstr dn)) HG6.out.1)
    have HT9 : Hid (Arr ((((((w8.setCell ⟨W.heap.size + 1, 0, none⟩ (.slice q b.length cp)).setCell ⟨W.heap.size + 1, 1, none⟩ (.int .i64 ox8)).setCell ⟨W.heap.size + 1, 2, none⟩ (.int .i64 cx8)).setCell ⟨W.heap.size + 1, 3, none⟩ (.int .i64 ax8)).setCell ⟨W.heap.size + 1, 4, none⟩ (.int .i64 (lv6 : Nat))).setCell ⟨g, 0, none⟩ (.string (bstr dn))) 53 g [.string (bstr dn), .slice none 0 0]) := (((((HT8.out.setCell (by simp only [ne_eq]; omega) _).setCell (by simp only [ne_eq]; omega) _).setCell (by simp only [ne_eq]; omega) _).setCell (by simp only [ne_eq]; omega) _).setCell (by simp only [ne_eq]; omega) _).set 0 _
    have HK9 : Hid (Kp (W.heap.size + 1) w6 ((((((w8.setCell ⟨W.heap.size + 1, 0, none⟩ (.slice q b.length cp)).setCell ⟨W.heap.size + 1, 1, none⟩ (.int .i64 ox8)).setCell ⟨W.heap.size + 1, 2, none⟩ (.int .i64 cx8)).setCell ⟨W.heap.size + 1, 3, none⟩ (.int .i64 ax8)).setCell ⟨W.heap.size + 1, 4, none⟩ (.int .i64 (lv6 : Nat))).setCell ⟨g, 0, none⟩ (.string (bstr dn)))) := (HK8.out.trans (kp_setP w8 (W.heap.size + 1) (.slice q b.length cp) (.int .i64 ox8) (.int .i64 cx8) (.int .i64 ax8) (.int .i64 (lv6 : Nat)))).box HG6.out.2 0 (.string (bstr dn))
    clear hgw hgw' HR8 HT8 HK8
    generalize ((((((w8.setCell ⟨W.heap.size + 1, 0, none⟩ (.slice q b.length cp)).setCell ⟨W.heap.size + 1, 1, none⟩ (.int .i64 ox8)).setCell ⟨W.heap.size + 1, 2, none⟩ (.int .i64 cx8)).setCell ⟨W.heap.size + 1, 3, none⟩ (.int .i64 ax8)).setCell ⟨W.heap.size + 1, 4, none⟩ (.int .i64 (lv6 : Nat))).setCell ⟨g, 0, none⟩ (.string (bstr dn))) = wz9 at HR9 HT9 HK9 ⊢
    have HC9 := hiD (pNumS (lv := lv6) ((HRD.out.below HR9.out.2.2.2 (Nat.le_refl _)).mono HR9.out.2.2.2.size) HP8.out HBL.out)
    rw [← HDMN.out, ← HS9.out] at HC9
    have x0 := HR9.out.2.1.cell 0
    have y0 := HR9.out.2.1.free 0
    have x1 := HR9.out.2.1.cell 1
    have y1 := HR9.out.2.1.free 1
    have x2 := HR9.out.2.1.cell 2
    have y2 := HR9.out.2.1.free 2
    have x3 := HR9.out.2.1.cell 3
    have y3 := HR9.out.2.1.free 3
    have x4 := HR9.out.2.1.cell 4
    have y4 := HR9.out.2.1.free 4
    simp only [List.getElem?_cons_zero, List.getElem?_cons_succ] at x0 x1 x2 x3 x4
    go_wp2_with fail
    refine HC9.out.mono ?_
    rintro e w9 ⟨ox9, cx9, ax9, rfl, hp9, b9⟩
    have HP9 := hiD hp9
    have HRa := hiD (HR9.out.later b9)
    have HTa := hiD (HT9.out.later b9)
    have HKa := hiD (HK9.out.trans (Kp.of b9))
    clear hp9 b9 HC9 HR9 HT9 HK9
    clear x0 y0 x1 y1 x2 y2 x3 y3 x4 y4
    have x0 := HRa.out.2.1.cell 0
    have y0 := HRa.out.2.1.free 0
    have x1 := HRa.out.2.1.cell 1
    have y1 := HRa.out.2.1.free 1
    have x2 := HRa.out.2.1.cell 2
    have y2 := HRa.out.2.1.free 2
    have x3 := HRa.out.2.1.cell 3
    have y3 := HRa.out.2.1.free 3
    have x4 := HRa.out.2.1.cell 4
    have y4 := HRa.out.2.1.free 4
    simp only [List.getElem?_cons_zero, List.getElem?_cons_succ] at x0 x1 x2 x3 x4
    go_upto_region 11 with (fail)
    clear x0 y0 x1 y1 x2 y2 x3 y3 x4 y4
    have HRb := hiD (HRa.out.pl (.slice q b.length cp) (.int .i64 ox9) (.int .i64 cx9) (.int .i64 ax9) (.int .i64 (lv6 : Nat)))
    have HTb : Hid (Arr ((((((w9.setCell ⟨W.heap.size + 1, 0, none⟩ (.slice q b.length cp)).setCell ⟨W.heap.size + 1, 1, none⟩ (.int .i64 ox9)).setCell ⟨W.heap.size + 1, 2, none⟩ (.int .i64 cx9)).setCell ⟨W.heap.size + 1, 3, none⟩ (.int .i64 ax9)).setCell ⟨W.heap.size + 1, 4, none⟩ (.int .i64 (lv6 : Nat)))) 53 g [.string (bstr dn), .slice none 0 0]) := ((((HTa.out.setCell (by have := HG6.out.1; simp only [ne_eq]; omega) _).setCell (by have := HG6.out.1; simp only [ne_eq]; omega) _).setCell (by have := HG6.out.1; simp only [ne_eq]; omega) _).setCell (by have := HG6.out.1; simp only [ne_eq]; omega) _).setCell (by have := HG6.out.1; simp only [ne_eq]; omega) _
    have HKb := hiD (HKa.out.trans (kp_setP w9 (W.heap.size + 1) (.slice q b.length cp) (.int .i64 ox9) (.int .i64 cx9) (.int .i64 ax9) (.int .i64 (lv6 : Nat))))
    clear HRa HTa HKa
    generalize (((((w9.setCell ⟨W.heap.size + 1, 0, none⟩ (.slice q b.length cp)).setCell ⟨W.heap.size + 1, 1, none⟩ (.int .i64 ox9)).setCell ⟨W.heap.size + 1, 2, none⟩ (.int .i64 cx9)).setCell ⟨W.heap.size + 1, 3, none⟩ (.int .i64 ax9)).setCell ⟨W.heap.size + 1, 4, none⟩ (.int .i64 (lv6 : Nat))) = wb at HRb HTb HKb ⊢
    go_wp2_with fail
    clear HDMN HS9 HDN HS8 HOL2
    go_loopw [11] (fun jv wm => ∃ (j : Nat) (accm : List MemB) (s10 : St) (ox10 cx10 ax10 : Int) (lv10 : Nat) (qm : Option Addr) (cm : Nat), j ≤ dm ∧ jv = .int .i64 (j : Nat) ∧ Hid (accm.length = j) ∧ Hid (PRow kdMem (g + 1) (fun _ => False) wm (.slice qm accm.length cm) accm) ∧ Hid (RT W [.slice q b.length cp, .int .i64 ox10, .int .i64 cx10, .int .i64 ax10, .int .i64 (lv10 : Nat)] [.slice none 0 0] [.slice q6 acc.length c6] wm) ∧ Hid (Arr wm 53 g [.string (bstr dn), .slice qm accm.length cm]) ∧ Hid (PI b s10 ox10 cx10 ax10) ∧ Hid (lv10 ≤ 32) ∧ Hid (Kp (W.heap.size + 1) w6 wm) ∧ Hid (loopE (memE b) (dm - 0) [] s9 lv6 = loopE (memE b) (dm - j) accm s10 lv10)) (fun jv _ => dm - (intOf jv).toNat)
    case atStart => exact ⟨0, [], s9, ox9, cx9, ax9, lv6, none, 0, Nat.zero_le _, rfl, rfl, PRow.nil _ _ _ _, HRb, HTb, HP9, HL6, HKb, rfl⟩
    case round =>
     obtain ⟨j, accm, s10, ox10, cx10, ax10, lv10, qm, cm, hj, rfl, HLENm, HRWm, HRm, HTm, HP10, HL10, HKm, HED⟩ := hrel
     clear HRb HTb HP9 HKb
     generalize hwm : wr = wm at HRWm HRm HTm HKm ⊢
     clear hwm
     have HLV10 : Hid (lv10 ≤ 32) := HL10
     by_cases hlt : j < dm
     ·cases s10 with
      | er c a =>
       have hlt' : (j : Int) < dm := by omega
       have hcx0 := HP10.out.er
       have hc20 : (cx10 == 0) = false := by simpa using hcx0
       have HENm : Hid (loopE (memE b) (dm - 0) [] s9 lv6 = (accm, .er c a, lv10)) := by
        show _ = _
        rw [HED.out, loopE_er]
       clear HED hlt
       have x0 := HRm.out.2.1.cell 0
       have y0 := HRm.out.2.1.free 0
       have x1 := HRm.out.2.1.cell 1
       have y1 := HRm.out.2.1.free 1
       have x2 := HRm.out.2.1.cell 2
       have y2 := HRm.out.2.1.free 2
       have x3 := HRm.out.2.1.cell 3
       have y3 := HRm.out.2.1.free 3
       have x4 := HRm.out.2.1.cell 4
       have y4 := HRm.out.2.1.free 4
       simp only [List.getElem?_cons_zero, List.getElem?_cons_succ] at x0 x1 x2 x3 x4
       go_upto_region 31 with (fail)
       clear x0 y0 x1 y1 x2 y2 x3 y3 x4 y4
       have HE8 : Hid (schE b = loopE (defE b) (n - (i + 1)) (acc ++ [((dn, accm) : DefB)]) (.er c a) lv10) := by
        have h := HD0.out
        rw [HENm.out] at h
        show _ = _
        rw [HE7.out, h]
       clear HENm HE7 HD0
       have HRDm := hiD (PRow.rdK HRWm.out)
       have HRWo := hiD (HRW6.out.turn HKm.out.2.2.2.1 (fun b h1 h2 _ => HKm.out.2.2.2.2 b h2 (by omega)))
       clear HRW6 HRWm
       have hba : Below wm.heap.size wm (wm.alloc (.cells #[.string (bstr dn), .slice qm accm.length cm] 53)) := (Below.refl _ _).alloc (Nat.le_refl _) _
       have HRWa := hiD (HRWo.out.later hba)
       have HRa := hiD (HRm.out.later hba)
       have HEa : Hid (Arr (wm.alloc (.cells #[.string (bstr dn), .slice qm accm.length cm] 53)) 53 wm.heap.size [.string (bstr dn), .slice qm accm.length cm]) := Arr.new' _ _ _ _ rfl
       have HXm : rdDef (Bt (g + 1) wm.heap.size) wm (dn, accm) [.string (bstr dn), .slice qm accm.length cm] := ⟨_, rfl, HRDm.out⟩
       have HXa : Hid (kdDef.rd (SubX (W.heap.size + 3) (fun _ => False) (wm.alloc (.cells #[.string (bstr dn), .slice qm accm.length cm] 53)) (.slice q6 acc.length c6)) (wm.alloc (.cells #[.string (bstr dn), .slice qm accm.length cm] 53)) (dn, accm) [.string (bstr dn), .slice qm accm.length cm]) := kdDef.imp (fun b hb => ⟨by have := HG6.out.1; have := hb.1; omega, Nat.lt_of_lt_of_le hb.2 hba.size, fun e => by have h1 := HBLK.out b e.symm; have := hb.1; have := HG6.out.2; omega, fun h => h⟩) (kdDef.keep (fun b hb n => hba.cell (p := ⟨b, n, none⟩) hb.2) HXm)
       have HBS : Hid (W.heap.size + 3 ≤ (wm.alloc (.cells #[.string (bstr dn), .slice qm accm.length cm] 53)).heap.size) := by show _ ≤ _; have := HRa.out.2.2.1.lt; omega
       clear HXm
       have e0 := HRm.out.2.2.1.cell 0
       have f0 := HRm.out.2.2.1.free 0
       simp only [List.getElem?_cons_zero] at e0
       obtain ⟨t0, r0, t1, r1⟩ := HTm.out.all2
       go_wp2_with (at_builtin; refine app_row (K := kdDef) (x := (dn, accm)) rfl _ _ rfl rfl HRWa.out rfl HEa.out HXa.out HAC.out HBS.out (fun b h => h.elim) ?_)
       intro v30 w30 r30 g30 o30
       have HR30 := hiD (HRa.out.grown g30 (fun k hk => o30 k hk))
       have HRW30 := hiD r30
       obtain ⟨q30, c30, hv30⟩ := r30.form
       rw [List.length_append, List.length_singleton] at hv30
       subst hv30
       clear r30 g30 o30 hba HRWa HRa HEa HXa HBS HRm HTm HKm HRWo HRDm
       clear t0 t1 r0 r1 e0 f0
       have e0 := HR30.out.2.2.1.cell 0
       have f0 := HR30.out.2.2.1.free 0
       simp only [List.getElem?_cons_zero] at e0
       have hw := HW.out
       go_wp2_with fail
       clear e0 f0
       have HR31 := hiD (HR30.out.ce (i := 0) (.slice q30 (acc.length + 1) c30) (by decide))
       have HRW31 := hiD (HRW30.out.box (g := W.heap.size + 2) (.inl (by omega)) 0 (.slice q30 (acc.length + 1) c30))
       go_roundw
       case rel => exact ⟨i + 1, acc ++ [(dn, accm)], (.er c a), ox10, cx10, ax10, lv10, q30, c30, HLT.out, by go_num, by rw [List.length_append, HLEN.out]; rfl, by rw [List.length_append]; exact HRW31.out, by rw [List.length_append]; exact HR31.out, HP10, HLV10, HE8⟩
       case measure => first | exact meas HLT.out (Nat.le_trans HNN.out (by decide)) | exact meas' HLT.out
      | go o10 =>
       obtain ⟨rfl, rfl, rfl, hol10⟩ := HP10.out.go
       have HOL10 := hiD hol10
       have hlt' : (j : Int) < dm := by omega
       have HWJ : Hid (wrap64 ((j : Int) + 1) = (j : Int) + 1) := by show _ = _; unfold wrap64; have := HDM.out; omega
       have HLTj : Hid (j < dm) := hlt
       obtain ⟨mn, hmn⟩ : ∃ x, x = (nameC b false (.go o10)).1 := ⟨_, rfl⟩
       obtain ⟨s11, hs11⟩ : ∃ x, x = (nameC b false (.go o10)).2 := ⟨_, rfl⟩
       obtain ⟨mk, hmk⟩ : ∃ x, x = (numC b (chkR 1 2 6) s11).1 := ⟨_, rfl⟩
       obtain ⟨s12, hs12⟩ : ∃ x, x = (numC b (chkR 1 2 6) s11).2 := ⟨_, rfl⟩
       have HEM : Hid (memE b o10 lv10 = memT b mn mk lv10 s12) := by show _ = _; rw [hmk, hs12, hmn, hs11]; rfl
       have HMK : Hid (mk ≤ 2) := by rw [hmk]; exact numC_le (fun x h => by unfold chkR at h; split at h; cases h; omega) _
       have HMG : Hid (∀ o', s12 = .go o' → 1 ≤ mk) := fun o' h => by
        rw [hs12] at h; rw [hmk]; exact numC_ge (fun x h => by unfold chkR at h; split at h; cases h; split at h; cases h; omega) h
       have HEB : Hid (loopE (memE b) (dm - 0) [] s9 lv6 = loopE (memE b) (dm - (j + 1)) (accm ++ [(memE b o10 lv10).1]) (memE b o10 lv10).2.1 (memE b o10 lv10).2.2) := by
        show _ = _
        rw [HED.out, show dm - j = (dm - (j + 1)) + 1 by omega, loopE]
       have HACm : Hid (accm.length + 1 ≤ 200000) := by show _ ≤ _; have := HDM.out; have := HLENm.out; omega
       have HMN := hiD hmn
       have HS11 := hiD hs11
       have HMKN := hiD hmk
       have HS12 := hiD hs12
       have HRWi := HRWm
       have HKh := HKm
       have HBLm : Hid (∀ b, (Value.slice qm accm.length cm).ownBlock = some b → b < wm.heap.size) := fun b hb => by obtain ⟨_, h, _⟩ := HRWm.out; exact (h.lt b hb).2
       clear HED hlt hol10 HP10 hmn hs11 hmk hs12 HRWm HKm
       obtain ⟨w10, hw10⟩ : ∃ x, x = wm := ⟨_, rfl⟩
       rw [← hw10] at HRWi HKh HBLm HRm HTm ⊢
       clear hw10
       have HR10 := HRm
       have HT10 := HTm
       clear HRm HTm
       have HK10 : Hid (Kp (W.heap.size + 1) w10 w10) := Kp.of (Below.refl _ _)
       have HKBT : Hid (w6.heap.size ≤ g) := HG6.out.2
       have HBT : Hid (W.heap.size + 3 ≤ g) := HG6.out.1
       have x0 := HR10.out.2.1.cell 0
       have y0 := HR10.out.2.1.free 0
       have x1 := HR10.out.2.1.cell 1
       have y1 := HR10.out.2.1.free 1
       have x2 := HR10.out.2.1.cell 2
       have y2 := HR10.out.2.1.free 2
       have x3 := HR10.out.2.1.cell 3
       have y3 := HR10.out.2.1.free 3
       have x4 := HR10.out.2.1.cell 4
       have y4 := HR10.out.2.1.free 4
       simp only [List.getElem?_cons_zero, List.getElem?_cons_succ] at x0 x1 x2 x3 x4
       go_upto_region 15 with (fail)
       clear x0 y0 x1 y1 x2 y2 x3 y3 x4 y4
       have hb10b : Below w10.heap.size w10 (w10.alloc (.cells #[.string ⟨#[]⟩, .int .i64 0, .slice none 0 0, .int .i64 0, .string ⟨#[]⟩, .string ⟨#[]⟩, .slice none 0 0] 66)) := (Below.refl _ _).alloc (Nat.le_refl _) _
       have HR10b := hiD (HR10.out.later hb10b)
       have HT10b := hiD (HT10.out.later hb10b)
       have HM10b : Hid (Arr (w10.alloc (.cells #[.string ⟨#[]⟩, .int .i64 0, .slice none 0 0, .int .i64 0, .string ⟨#[]⟩, .string ⟨#[]⟩, .slice none 0 0] 66)) 66 w10.heap.size [.string ⟨#[]⟩, .int .i64 0, .slice none 0 0, .int .i64 0, .string ⟨#[]⟩, .string ⟨#[]⟩, .slice none 0 0]) := Arr.new' _ _ _ _ rfl
       have HK10b := hiD (HK10.out.trans (Kp.of hb10b))
       obtain ⟨gm, hg10b⟩ : ∃ x, x = w10.heap.size := ⟨_, rfl⟩
       have HG10b : Hid (w10.heap.size ≤ gm ∧ g + 1 ≤ gm) := ⟨Nat.le_of_eq hg10b.symm, by have := HT10.out.lt; omega⟩
       rw [← hg10b] at HM10b ⊢
       clear hb10b hg10b HR10 HT10 HK10
       generalize w10.alloc (.cells #[.string ⟨#[]⟩, .int .i64 0, .slice none 0 0, .int .i64 0, .string ⟨#[]⟩, .string ⟨#[]⟩, .slice none 0 0] 66) = w10b at HR10b HT10b HM10b HK10b ⊢
       clear hlt'
       have HBM : Hid (W.heap.size + 3 ≤ gm) := by show _ ≤ _; have := HG10b.out.2; have := HBT.out; omega
       have HNETM : Hid (g < gm ∧ ¬ gm = g) := by have h1 := HG10b.out.2; exact ⟨by omega, by omega⟩
       have HNEMT := HNETM
       have HKBM : Hid (w10.heap.size ≤ gm) := HG10b.out.1
       have HKBT6 := HKBT
       have HCN := hiD (pName (lv := lv10) ((HRD.out.below HR10b.out.2.2.2 (Nat.le_refl _)).mono HR10b.out.2.2.2.size) (PI.of_go HOL10.out) HBL.out)
       rw [← HMN.out, ← HS11.out] at HCN
       have HC11 := hiD (HCN.out)
       have x0 := HR10b.out.2.1.cell 0
       have y0 := HR10b.out.2.1.free 0
       have x1 := HR10b.out.2.1.cell 1
       have y1 := HR10b.out.2.1.free 1
       have x2 := HR10b.out.2.1.cell 2
       have y2 := HR10b.out.2.1.free 2
       have x3 := HR10b.out.2.1.cell 3
       have y3 := HR10b.out.2.1.free 3
       have x4 := HR10b.out.2.1.cell 4
       have y4 := HR10b.out.2.1.free 4
       simp only [List.getElem?_cons_zero, List.getElem?_cons_succ] at x0 x1 x2 x3 x4
       go_wp2_with fail
       refine HC11.out.mono ?_
       rintro e w11 ⟨ox11, cx11, ax11, rfl, hp11, b11⟩
       have HP11 := hiD hp11
       have HRx11 := hiD (HR10b.out.later b11)
       have HTx11 := hiD (HT10b.out.later b11)
       have HMx11 := hiD (HM10b.out.later b11)
       have HKx11 := hiD (HK10b.out.trans (Kp.of b11))
       clear hp11 b11 HC11 HR10b HT10b HM10b HK10b
       clear x0 y0 x1 y1 x2 y2 x3 y3 x4 y4
       have x0 := HRx11.out.2.1.cell 0
       have y0 := HRx11.out.2.1.free 0
       have x1 := HRx11.out.2.1.cell 1
       have y1 := HRx11.out.2.1.free 1
       have x2 := HRx11.out.2.1.cell 2
       have y2 := HRx11.out.2.1.free 2
       have x3 := HRx11.out.2.1.cell 3
       have y3 := HRx11.out.2.1.free 3
       have x4 := HRx11.out.2.1.cell 4
       have y4 := HRx11.out.2.1.free 4
       simp only [List.getElem?_cons_zero, List.getElem?_cons_succ] at x0 x1 x2 x3 x4
       obtain ⟨e0, f0, e1, f1, e2, f2, e3, f3, e4, f4, e5, f5, e6, f6⟩ := HMx11.out.all7
       have hgwT : ¬ g = W.heap.size + 1 := by have := HBT.out; omega
       have hgvT : ¬ W.heap.size + 1 = g := by have := HBT.out; omega
       have hgwM : ¬ gm = W.heap.size + 1 := by have := HBM.out; omega
       have hgvM : ¬ W.heap.size + 1 = gm := by have := HBM.out; omega
       go_upto_region 16 with (fail)
       clear x0 y0 x1 y1 x2 y2 x3 y3 x4 y4
       clear e0 f0 e1 f1 e2 f2 e3 f3 e4 f4 e5 f5 e6 f6
       have HR11 := hiD ((HRx11.out.pl (.slice q b.length cp) (.int .i64 ox11) (.int .i64 cx11) (.int .i64 ax11) (.int .i64 (lv10 : Nat))).far (g := gm) (i := 0) (.string (bstr mn)) (by have := HBM.out; omega))
       have HT11 := hiD ((Arr.setCell (Arr.farP HTx11.out (by have := HBT.out; omega) (.slice q b.length cp) (.int .i64 ox11) (.int .i64 cx11) (.int .i64 ax11) (.int .i64 (lv10 : Nat))) (a := ⟨gm, 0, none⟩) (by have := HNETM.out; simp only [ne_eq]; omega) (.string (bstr mn))))
       have HM11 := hiD ((Arr.set (Arr.farP HMx11.out (by have := HBM.out; omega) (.slice q b.length cp) (.int .i64 ox11) (.int .i64 cx11) (.int .i64 ax11) (.int .i64 (lv10 : Nat))) 0 (.string (bstr mn))))
       simp only [List.set_cons_zero, List.set_cons_succ] at HM11
       have HK11 := hiD ((HKx11.out.trans (kp_setP w11 (W.heap.size + 1) (.slice q b.length cp) (.int .i64 ox11) (.int .i64 cx11) (.int .i64 ax11) (.int .i64 (lv10 : Nat)))).box (by have := HKBM.out; omega) 0 (.string (bstr mn)))
       clear hgwT hgvT HTx11 hgwM hgvM HMx11 HRx11 HKx11
       generalize (((((w11.setCell ⟨W.heap.size + 1, 0, none⟩ (.slice q b.length cp)).setCell ⟨W.heap.size + 1, 1, none⟩ (.int .i64 ox11)).setCell ⟨W.heap.size + 1, 2, none⟩ (.int .i64 cx11)).setCell ⟨W.heap.size + 1, 3, none⟩ (.int .i64 ax11)).setCell ⟨W.heap.size + 1, 4, none⟩ (.int .i64 (lv10 : Nat))).setCell ⟨gm, 0, none⟩ (.string (bstr mn)) = wz11 at HR11 HT11 HM11 HK11 ⊢
       clear HCN
       have HCN := hiD (pNumK (lv := lv10) ((HRD.out.below HR11.out.2.2.2 (Nat.le_refl _)).mono HR11.out.2.2.2.size) HP11.out HBL.out)
       rw [← HMKN.out, ← HS12.out] at HCN
       have HC12 := hiD (HCN.out)
       have x0 := HR11.out.2.1.cell 0
       have y0 := HR11.out.2.1.free 0
       have x1 := HR11.out.2.1.cell 1
       have y1 := HR11.out.2.1.free 1
       have x2 := HR11.out.2.1.cell 2
       have y2 := HR11.out.2.1.free 2
       have x3 := HR11.out.2.1.cell 3
       have y3 := HR11.out.2.1.free 3
       have x4 := HR11.out.2.1.cell 4
       have y4 := HR11.out.2.1.free 4
       simp only [List.getElem?_cons_zero, List.getElem?_cons_succ] at x0 x1 x2 x3 x4
       go_wp2_with fail
       refine HC12.out.mono ?_
       rintro e w12 ⟨ox12, cx12, ax12, rfl, hp12, b12⟩
       have HP12 := hiD hp12
       have HRx12 := hiD (HR11.out.later b12)
       have HTx12 := hiD (HT11.out.later b12)
       have HMx12 := hiD (HM11.out.later b12)
       have HKx12 := hiD (HK11.out.trans (Kp.of b12))
       clear hp12 b12 HC12 HR11 HT11 HM11 HK11
       clear x0 y0 x1 y1 x2 y2 x3 y3 x4 y4
       have x0 := HRx12.out.2.1.cell 0
       have y0 := HRx12.out.2.1.free 0
       have x1 := HRx12.out.2.1.cell 1
       have y1 := HRx12.out.2.1.free 1
       have x2 := HRx12.out.2.1.cell 2
       have y2 := HRx12.out.2.1.free 2
       have x3 := HRx12.out.2.1.cell 3
       have y3 := HRx12.out.2.1.free 3
       have x4 := HRx12.out.2.1.cell 4
       have y4 := HRx12.out.2.1.free 4
       simp only [List.getElem?_cons_zero, List.getElem?_cons_succ] at x0 x1 x2 x3 x4
       obtain ⟨e0, f0, e1, f1, e2, f2, e3, f3, e4, f4, e5, f5, e6, f6⟩ := HMx12.out.all7
       have hgwT : ¬ g = W.heap.size + 1 := by have := HBT.out; omega
       have hgvT : ¬ W.heap.size + 1 = g := by have := HBT.out; omega
       have hgwM : ¬ gm = W.heap.size + 1 := by have := HBM.out; omega
       have hgvM : ¬ W.heap.size + 1 = gm := by have := HBM.out; omega
       go_upto_region 17 with (fail)
       clear x0 y0 x1 y1 x2 y2 x3 y3 x4 y4
       clear e0 f0 e1 f1 e2 f2 e3 f3 e4 f4 e5 f5 e6 f6
       have HR12 := hiD ((HRx12.out.pl (.slice q b.length cp) (.int .i64 ox12) (.int .i64 cx12) (.int .i64 ax12) (.int .i64 (lv10 : Nat))).far (g := gm) (i := 1) (.int .i64 (mk : Nat)) (by have := HBM.out; omega))
       have HT12 := hiD ((Arr.setCell (Arr.farP HTx12.out (by have := HBT.out; omega) (.slice q b.length cp) (.int .i64 ox12) (.int .i64 cx12) (.int .i64 ax12) (.int .i64 (lv10 : Nat))) (a := ⟨gm, 1, none⟩) (by have := HNETM.out; simp only [ne_eq]; omega) (.int .i64 (mk : Nat))))
       have HM12 := hiD ((Arr.set (Arr.farP HMx12.out (by have := HBM.out; omega) (.slice q b.length cp) (.int .i64 ox12) (.int .i64 cx12) (.int .i64 ax12) (.int .i64 (lv10 : Nat))) 1 (.int .i64 (mk : Nat))))
       simp only [List.set_cons_zero, List.set_cons_succ] at HM12
       have HK12 := hiD ((HKx12.out.trans (kp_setP w12 (W.heap.size + 1) (.slice q b.length cp) (.int .i64 ox12) (.int .i64 cx12) (.int .i64 ax12) (.int .i64 (lv10 : Nat)))).box (by have := HKBM.out; omega) 1 (.int .i64 (mk : Nat)))
       clear hgwT hgvT HTx12 hgwM hgvM HMx12 HRx12 HKx12
       generalize (((((w12.setCell ⟨W.heap.size + 1, 0, none⟩ (.slice q b.length cp)).setCell ⟨W.heap.size + 1, 1, none⟩ (.int .i64 ox12)).setCell ⟨W.heap.size + 1, 2, none⟩ (.int .i64 cx12)).setCell ⟨W.heap.size + 1, 3, none⟩ (.int .i64 ax12)).setCell ⟨W.heap.size + 1, 4, none⟩ (.int .i64 (lv10 : Nat))).setCell ⟨gm, 1, none⟩ (.int .i64 (mk : Nat)) = wz12 at HR12 HT12 HM12 HK12 ⊢
       clear HCN HMN HS11 HMKN HS12 HP11
       cases s12 with
       | er c a =>
        have hcx0 := HP12.out.er
        have hc20 : (cx12 == 0) = false := by simpa using hcx0
        have HEM2 : Hid (memE b o10 lv10 = ((mn, (mk : Int), [], ex0), .er c a, lv10)) := HEM.out
        have HX12 : Hid (rdMem (Bt (gm + 1) wz12.heap.size) wz12 (mn, (mk : Int), [], ex0) [.string (bstr mn), .int .i64 (mk : Nat), .slice none 0 0, .int .i64 0, .string ⟨#[]⟩, .string ⟨#[]⟩, .slice none 0 0]) := ⟨_, _, _, _, _, rfl, RdA.nil _ _, VE.leaf _ _ _ _ _⟩
        have HLV12 : Hid (lv10 ≤ 32) := HL10
        clear HEM HMG
        have x0 := HR12.out.2.1.cell 0
        have y0 := HR12.out.2.1.free 0
        have x1 := HR12.out.2.1.cell 1
        have y1 := HR12.out.2.1.free 1
        have x2 := HR12.out.2.1.cell 2
        have y2 := HR12.out.2.1.free 2
        have x3 := HR12.out.2.1.cell 3
        have y3 := HR12.out.2.1.free 3
        have x4 := HR12.out.2.1.cell 4
        have y4 := HR12.out.2.1.free 4
        simp only [List.getElem?_cons_zero, List.getElem?_cons_succ] at x0 x1 x2 x3 x4
        go_upto_region 30 with (fail)
        clear x0 y0 x1 y1 x2 y2 x3 y3 x4 y4
        have HEN12 : Hid (loopE (memE b) (dm - 0) [] s9 lv6 = loopE (memE b) (dm - (j + 1)) (accm ++ [((mn, (mk : Nat), [], ex0) : MemB)]) (.er c a) lv10) := by
         show _ = _
         rw [HEB.out, HEM2.out]
        clear HEM2 HEB
        have HRWm := hiD (HRWi.out.turn HK12.out.2.2.2.1 (fun b h1 h2 _ => HK12.out.2.2.2.2 b h2 (by have := HBT.out; omega)))
        have HK612 := hiD (HKh.out.trans HK12.out)
        clear HRWi HKh
        have hba : Below wz12.heap.size wz12 (wz12.alloc (.cells #[.string (bstr mn), .int .i64 (mk : Nat), .slice none 0 0, .int .i64 0, .string ⟨#[]⟩, .string ⟨#[]⟩, .slice none 0 0] 66)) := (Below.refl _ _).alloc (Nat.le_refl _) _
        have HRWa := hiD (HRWm.out.later hba)
        have HRa := hiD (HR12.out.later hba)
        have HTa := hiD (HT12.out.later hba)
        have HKa := hiD (HK612.out.trans (Kp.of hba))
        have HEa : Hid (Arr (wz12.alloc (.cells #[.string (bstr mn), .int .i64 (mk : Nat), .slice none 0 0, .int .i64 0, .string ⟨#[]⟩, .string ⟨#[]⟩, .slice none 0 0] 66)) 66 wz12.heap.size [.string (bstr mn), .int .i64 (mk : Nat), .slice none 0 0, .int .i64 0, .string ⟨#[]⟩, .string ⟨#[]⟩, .slice none 0 0]) := Arr.new' _ _ _ _ rfl
        have HXa : Hid (kdMem.rd (SubX (g + 1) (fun _ => False) (wz12.alloc (.cells #[.string (bstr mn), .int .i64 (mk : Nat), .slice none 0 0, .int .i64 0, .string ⟨#[]⟩, .string ⟨#[]⟩, .slice none 0 0] 66)) (.slice qm accm.length cm)) (wz12.alloc (.cells #[.string (bstr mn), .int .i64 (mk : Nat), .slice none 0 0, .int .i64 0, .string ⟨#[]⟩, .string ⟨#[]⟩, .slice none 0 0] 66)) (mn, (mk : Nat), [], ex0) [.string (bstr mn), .int .i64 (mk : Nat), .slice none 0 0, .int .i64 0, .string ⟨#[]⟩, .string ⟨#[]⟩, .slice none 0 0]) := kdMem.imp (fun b hb => ⟨by have := HNETM.out; have := hb.1; omega, Nat.lt_of_lt_of_le hb.2 hba.size, fun e => by have h1 := HBLm.out b e.symm; have := hb.1; have := HKBM.out; omega, fun h => h⟩) (kdMem.keep (fun b hb n => hba.cell (p := ⟨b, n, none⟩) hb.2) HX12.out)
        have HBS : Hid (g + 1 ≤ (wz12.alloc (.cells #[.string (bstr mn), .int .i64 (mk : Nat), .slice none 0 0, .int .i64 0, .string ⟨#[]⟩, .string ⟨#[]⟩, .slice none 0 0] 66)).heap.size) := by show _ ≤ _; have := HTa.out.lt; omega
        obtain ⟨e0, f0, e1, f1, e2, f2, e3, f3, e4, f4, e5, f5, e6, f6⟩ := HM12.out.all7
        obtain ⟨t0, r0, t1, r1⟩ := HT12.out.all2
        go_wp2_with (at_builtin; refine app_row (K := kdMem) (x := (mn, (mk : Nat), [], ex0)) rfl _ _ rfl rfl HRWa.out rfl HEa.out HXa.out HACm.out HBS.out (fun b h => h.elim) ?_)
        intro v20 w20 r20 g20 o20
        have HR20 := hiD (HRa.out.grown g20 (fun k hk => by have := o20 k hk; have := HBT.out; omega))
        have HT20 := hiD ((g20.block _ HTa.out.lt (fun e => absurd (o20 _ e.symm) (by omega))).trans HTa.out)
        have HK20 := hiD (HKa.out.grown g20 (fun k hk => by have := o20 k hk; have := HKBT.out; omega))
        have HRW20 := hiD r20
        obtain ⟨q20, c20, hv20⟩ := r20.form
        rw [List.length_append, List.length_singleton] at hv20
        subst hv20
        clear r20 g20 o20 hba HRWa HRa HTa HEa HXa HBS HKa HR12 HT12 HM12 HK12 HK612 HRWm HX12
        clear t0 t1 r0 r1
        clear e0 f0 e1 f1 e2 f2 e3 f3 e4 f4 e5 f5 e6 f6
        have HT20 : Hid (Arr w20 53 g [.string (bstr dn), .slice qm accm.length cm]) := HT20.out
        obtain ⟨e0, f0, e1, f1⟩ := HT20.out.all2
        have hwj := HWJ.out
        go_wp2_with fail
        clear e0 f0 e1 f1
        have HR21 := hiD (HR20.out.far (g := g) (i := 1) (.slice q20 (accm.length + 1) c20) (by have := HBT.out; omega))
        have HT21 : Hid (Arr (w20.setCell ⟨g, 1, none⟩ (.slice q20 (accm.length + 1) c20)) 53 g [.string (bstr dn), .slice q20 (accm.length + 1) c20]) := HT20.out.set 1 _
        have HRW21 := hiD (HRW20.out.box (g := g) (.inl (Nat.lt_succ_self _)) 1 (.slice q20 (accm.length + 1) c20))
        have HK21 := hiD (HK20.out.box (g := g) HKBT.out 1 (.slice q20 (accm.length + 1) c20))
        go_roundw
        case rel => exact ⟨j + 1, accm ++ [((mn, (mk : Nat), [], ex0) : MemB)], (.er c a), ox12, cx12, ax12, lv10, q20, c20, HLTj.out, by go_num, by rw [List.length_append, HLENm.out]; rfl, by rw [List.length_append]; exact HRW21.out, by exact HR21.out, by rw [List.length_append]; exact HT21.out, HP12, HLV12, HK21, HEN12⟩
        case measure => first | exact meas HLTj.out (Nat.le_trans HDM.out (by decide)) | exact meas' HLTj.out
       | go o12 =>
        obtain ⟨rfl, rfl, rfl, hol12⟩ := HP12.out.go
        have HOL12 := hiD hol12
        have hk1 := HMG.out o12 rfl
        have hk2 := HMK.out
        have hk3 : mk = 1 ∨ mk = 2 := by omega
        clear hol12 hk1 hk2 HMG HMK HP12
        rcases hk3 with rfl | rfl
        ·have x0 := HR12.out.2.1.cell 0
         have y0 := HR12.out.2.1.free 0
         have x1 := HR12.out.2.1.cell 1
         have y1 := HR12.out.2.1.free 1
         have x2 := HR12.out.2.1.cell 2
         have y2 := HR12.out.2.1.free 2
         have x3 := HR12.out.2.1.cell 3
         have y3 := HR12.out.2.1.free 3
         have x4 := HR12.out.2.1.cell 4
         have y4 := HR12.out.2.1.free 4
         simp only [List.getElem?_cons_zero, List.getElem?_cons_succ] at x0 x1 x2 x3 x4
         obtain ⟨e0, f0, e1, f1, e2, f2, e3, f3, e4, f4, e5, f5, e6, f6⟩ := HM12.out.all7
         go_upto_region 21 with (fail)
         clear e0 f0 e1 f1 e2 f2 e3 f3 e4 f4 e5 f5 e6 f6
         clear x0 y0 x1 y1 x2 y2 x3 y3 x4 y4
         go_upto_region 22 with (fail)
         obtain ⟨tn, htn⟩ : ∃ x, x = (numC b (chkR 1 32 15) (.go o12)).1 := ⟨_, rfl⟩
         obtain ⟨s13, hs13⟩ : ∃ x, x = (numC b (chkR 1 32 15) (.go o12)).2 := ⟨_, rfl⟩
         have HTN : Hid (tn ≤ 32) := by rw [htn]; exact numC_le (fun x hx => (chkC_0 hx).2) _
         have HTE : Hid (typesE b o12 lv10 = loopE (allE b) (tn - 0) [] s13 lv10) := by rw [htn, hs13]; rfl
         have HEM1 : Hid (memE b o10 lv10 = ((mn, 1, (typesE b o12 lv10).1, ex0), (typesE b o12 lv10).2)) := HEM.out
         have HTN13 := hiD htn
         have HS13 := hiD hs13
         clear HEM htn hs13
         have HCT := hiD (pNumT (lv := lv10) ((HRD.out.below HR12.out.2.2.2 (Nat.le_refl _)).mono HR12.out.2.2.2.size) (PI.of_go HOL12.out) HBL.out)
         rw [← HTN13.out, ← HS13.out] at HCT
         have HC13 := hiD (HCT.out)
         have x0 := HR12.out.2.1.cell 0
         have y0 := HR12.out.2.1.free 0
         have x1 := HR12.out.2.1.cell 1
         have y1 := HR12.out.2.1.free 1
         have x2 := HR12.out.2.1.cell 2
         have y2 := HR12.out.2.1.free 2
         have x3 := HR12.out.2.1.cell 3
         have y3 := HR12.out.2.1.free 3
         have x4 := HR12.out.2.1.cell 4
         have y4 := HR12.out.2.1.free 4
         simp only [List.getElem?_cons_zero, List.getElem?_cons_succ] at x0 x1 x2 x3 x4
         go_wp2_with fail
         refine HC13.out.mono ?_
         rintro e w13 ⟨ox13, cx13, ax13, rfl, hp13, b13⟩
         have HP13 := hiD hp13
         have HRx13 := hiD (HR12.out.later b13)
         have HTx13 := hiD (HT12.out.later b13)
         have HMx13 := hiD (HM12.out.later b13)
         have HKx13 := hiD (HK12.out.trans (Kp.of b13))
         clear hp13 b13 HC13 HR12 HT12 HM12 HK12
         clear x0 y0 x1 y1 x2 y2 x3 y3 x4 y4
         have x0 := HRx13.out.2.1.cell 0
         have y0 := HRx13.out.2.1.free 0
         have x1 := HRx13.out.2.1.cell 1
         have y1 := HRx13.out.2.1.free 1
         have x2 := HRx13.out.2.1.cell 2
         have y2 := HRx13.out.2.1.free 2
         have x3 := HRx13.out.2.1.cell 3
         have y3 := HRx13.out.2.1.free 3
         have x4 := HRx13.out.2.1.cell 4
         have y4 := HRx13.out.2.1.free 4
         simp only [List.getElem?_cons_zero, List.getElem?_cons_succ] at x0 x1 x2 x3 x4
         have hgwT : ¬ g = W.heap.size + 1 := by have := HBT.out; omega
         have hgvT : ¬ W.heap.size + 1 = g := by have := HBT.out; omega
         have hgwM : ¬ gm = W.heap.size + 1 := by have := HBM.out; omega
         have hgvM : ¬ W.heap.size + 1 = gm := by have := HBM.out; omega
         go_upto_region 23 with (fail)
         clear x0 y0 x1 y1 x2 y2 x3 y3 x4 y4
         have HR13 := hiD (HRx13.out.pl (.slice q b.length cp) (.int .i64 ox13) (.int .i64 cx13) (.int .i64 ax13) (.int .i64 (lv10 : Nat)))
         have HT13 := hiD ((Arr.farP HTx13.out (by have := HBT.out; omega) (.slice q b.length cp) (.int .i64 ox13) (.int .i64 cx13) (.int .i64 ax13) (.int .i64 (lv10 : Nat))))
         have HM13 := hiD ((Arr.farP HMx13.out (by have := HBM.out; omega) (.slice q b.length cp) (.int .i64 ox13) (.int .i64 cx13) (.int .i64 ax13) (.int .i64 (lv10 : Nat))))
         have HK13 := hiD (HKx13.out.trans (kp_setP w13 (W.heap.size + 1) (.slice q b.length cp) (.int .i64 ox13) (.int .i64 cx13) (.int .i64 ax13) (.int .i64 (lv10 : Nat))))
         clear hgwT hgvT HTx13 hgwM hgvM HMx13 HRx13 HKx13
         generalize (((((w13.setCell ⟨W.heap.size + 1, 0, none⟩ (.slice q b.length cp)).setCell ⟨W.heap.size + 1, 1, none⟩ (.int .i64 ox13)).setCell ⟨W.heap.size + 1, 2, none⟩ (.int .i64 cx13)).setCell ⟨W.heap.size + 1, 3, none⟩ (.int .i64 ax13)).setCell ⟨W.heap.size + 1, 4, none⟩ (.int .i64 (lv10 : Nat))) = wz13 at HR13 HT13 HM13 HK13 ⊢
         clear HCT HTN13 HS13
         have HBLg : Hid (gm < wz13.heap.size) := HM13.out.lt
         go_wp2_with fail
         go_loopw [14] (fun lv wt => ∃ (l : Nat) (acct : List AlB) (s14 : St) (ox14 cx14 ax14 : Int) (qt : Option Addr) (ct : Nat), l ≤ tn ∧ lv = .int .i64 (l : Nat) ∧ Hid (acct.length = l) ∧ Hid (AlRow (gm + 1) wt (.slice qt acct.length ct) acct) ∧ Hid (RT W [.slice q b.length cp, .int .i64 ox14, .int .i64 cx14, .int .i64 ax14, .int .i64 (lv10 : Nat)] [.slice none 0 0] [.slice q6 acc.length c6] wt) ∧ Hid (Arr wt 53 g [.string (bstr dn), .slice qm accm.length cm]) ∧ Hid (Arr wt 66 gm [.string (bstr mn), .int .i64 1, .slice qt acct.length ct, .int .i64 0, .string ⟨#[]⟩, .string ⟨#[]⟩, .slice none 0 0]) ∧ Hid (PI b s14 ox14 cx14 ax14) ∧ Hid (Kp (W.heap.size + 1) w10 wt) ∧ Hid (typesE b o12 lv10 = loopE (allE b) (tn - l) acct s14 lv10)) (fun lv _ => tn - (intOf lv).toNat)
         case atStart => exact ⟨0, [], s13, ox13, cx13, ax13, none, 0, Nat.zero_le _, rfl, rfl, AlRow.nil0, HR13, HT13, HM13, HP13, HK13, HTE⟩
         case round =>
          obtain ⟨l, acct, s14, ox14, cx14, ax14, qt, ct, hl, rfl, HLENt, HAR14, HR14, HT14, HM14, HP14, HK14, HTE14⟩ := hrel
          clear HR13 HT13 HM13 HP13 HK13 HTE
          generalize hwt : wr = wt at HAR14 HR14 HT14 HM14 HK14 ⊢
          clear hwt
          by_cases hlt : l < tn
          ·cases s14 with
           | er c a =>
            have hlt' : (l : Int) < tn := by omega
            have hcx0 := HP14.out.er
            have hc20 : (cx14 == 0) = false := by simpa using hcx0
            have HTEN : Hid (typesE b o12 lv10 = (acct, .er c a, lv10)) := by
             show _ = _
             rw [HTE14.out, loopE_er]
            clear hlt
            have HEM2 : Hid (memE b o10 lv10 = ((mn, 1, acct, ex0), (.er c a), lv10)) := by
             show _ = _
             rw [HEM1.out, HTEN.out]
            clear HTEN HEM1 HTE14
            have HX14 : Hid (rdMem (Bt (gm + 1) wt.heap.size) wt (mn, 1, acct, ex0) [.string (bstr mn), .int .i64 1, .slice qt acct.length ct, .int .i64 0, .string ⟨#[]⟩, .string ⟨#[]⟩, .slice none 0 0]) := ⟨_, _, _, _, _, rfl, AlRow.rd HAR14.out, VE.leaf _ _ _ _ _⟩
            have HLV14 : Hid (lv10 ≤ 32) := HL10
            clear HAR14
            have x0 := HR14.out.2.1.cell 0
            have y0 := HR14.out.2.1.free 0
            have x1 := HR14.out.2.1.cell 1
            have y1 := HR14.out.2.1.free 1
            have x2 := HR14.out.2.1.cell 2
            have y2 := HR14.out.2.1.free 2
            have x3 := HR14.out.2.1.cell 3
            have y3 := HR14.out.2.1.free 3
            have x4 := HR14.out.2.1.cell 4
            have y4 := HR14.out.2.1.free 4
            simp only [List.getElem?_cons_zero, List.getElem?_cons_succ] at x0 x1 x2 x3 x4
            go_upto_region 30 with (fail)
            clear x0 y0 x1 y1 x2 y2 x3 y3 x4 y4
            have HEN14 : Hid (loopE (memE b) (dm - 0) [] s9 lv6 = loopE (memE b) (dm - (j + 1)) (accm ++ [((mn, 1, acct, ex0) : MemB)]) (.er c a) lv10) := by
             show _ = _
             rw [HEB.out, HEM2.out]
            clear HEM2 HEB
            have HRWm := hiD (HRWi.out.turn HK14.out.2.2.2.1 (fun b h1 h2 _ => HK14.out.2.2.2.2 b h2 (by have := HBT.out; omega)))
            have HK614 := hiD (HKh.out.trans HK14.out)
            clear HRWi HKh
            have hba : Below wt.heap.size wt (wt.alloc (.cells #[.string (bstr mn), .int .i64 1, .slice qt acct.length ct, .int .i64 0, .string ⟨#[]⟩, .string ⟨#[]⟩, .slice none 0 0] 66)) := (Below.refl _ _).alloc (Nat.le_refl _) _
            have HRWa := hiD (HRWm.out.later hba)
            have HRa := hiD (HR14.out.later hba)
            have HTa := hiD (HT14.out.later hba)
            have HKa := hiD (HK614.out.trans (Kp.of hba))
            have HEa : Hid (Arr (wt.alloc (.cells #[.string (bstr mn), .int .i64 1, .slice qt acct.length ct, .int .i64 0, .string ⟨#[]⟩, .string ⟨#[]⟩, .slice none 0 0] 66)) 66 wt.heap.size [.string (bstr mn), .int .i64 1, .slice qt acct.length ct, .int .i64 0, .string ⟨#[]⟩, .string ⟨#[]⟩, .slice none 0 0]) := Arr.new' _ _ _ _ rfl
            have HXa : Hid (kdMem.rd (SubX (g + 1) (fun _ => False) (wt.alloc (.cells #[.string (bstr mn), .int .i64 1, .slice qt acct.length ct, .int .i64 0, .string ⟨#[]⟩, .string ⟨#[]⟩, .slice none 0 0] 66)) (.slice qm accm.length cm)) (wt.alloc (.cells #[.string (bstr mn), .int .i64 1, .slice qt acct.length ct, .int .i64 0, .string ⟨#[]⟩, .string ⟨#[]⟩, .slice none 0 0] 66)) (mn, 1, acct, ex0) [.string (bstr mn), .int .i64 1, .slice qt acct.length ct, .int .i64 0, .string ⟨#[]⟩, .string ⟨#[]⟩, .slice none 0 0]) := kdMem.imp (fun b hb => ⟨by have := HNETM.out; have := hb.1; omega, Nat.lt_of_lt_of_le hb.2 hba.size, fun e => by have h1 := HBLm.out b e.symm; have := hb.1; have := HKBM.out; omega, fun h => h⟩) (kdMem.keep (fun b hb n => hba.cell (p := ⟨b, n, none⟩) hb.2) HX14.out)
            have HBS : Hid (g + 1 ≤ (wt.alloc (.cells #[.string (bstr mn), .int .i64 1, .slice qt acct.length ct, .int .i64 0, .string ⟨#[]⟩, .string ⟨#[]⟩, .slice none 0 0] 66)).heap.size) := by show _ ≤ _; have := HTa.out.lt; omega
            obtain ⟨e0, f0, e1, f1, e2, f2, e3, f3, e4, f4, e5, f5, e6, f6⟩ := HM14.out.all7
            obtain ⟨t0, r0, t1, r1⟩ := HT14.out.all2
            go_wp2_with (at_builtin; refine app_row (K := kdMem) (x := (mn, 1, acct, ex0)) rfl _ _ rfl rfl HRWa.out rfl HEa.out HXa.out HACm.out HBS.out (fun b h => h.elim) ?_)
            intro v20 w20 r20 g20 o20
            have HR20 := hiD (HRa.out.grown g20 (fun k hk => by have := o20 k hk; have := HBT.out; omega))
            have HT20 := hiD ((g20.block _ HTa.out.lt (fun e => absurd (o20 _ e.symm) (by omega))).trans HTa.out)
            have HK20 := hiD (HKa.out.grown g20 (fun k hk => by have := o20 k hk; have := HKBT.out; omega))
            have HRW20 := hiD r20
            obtain ⟨q20, c20, hv20⟩ := r20.form
            rw [List.length_append, List.length_singleton] at hv20
            subst hv20
            clear r20 g20 o20 hba HRWa HRa HTa HEa HXa HBS HKa HR14 HT14 HM14 HK14 HK614 HRWm HX14
            clear t0 t1 r0 r1
            clear e0 f0 e1 f1 e2 f2 e3 f3 e4 f4 e5 f5 e6 f6
            have HT20 : Hid (Arr w20 53 g [.string (bstr dn), .slice qm accm.length cm]) := HT20.out
            obtain ⟨e0, f0, e1, f1⟩ := HT20.out.all2
            have hwj := HWJ.out
            go_wp2_with fail
            clear e0 f0 e1 f1
            have HR21 := hiD (HR20.out.far (g := g) (i := 1) (.slice q20 (accm.length + 1) c20) (by have := HBT.out; omega))
            have HT21 : Hid (Arr (w20.setCell ⟨g, 1, none⟩ (.slice q20 (accm.length + 1) c20)) 53 g [.string (bstr dn), .slice q20 (accm.length + 1) c20]) := HT20.out.set 1 _
            have HRW21 := hiD (HRW20.out.box (g := g) (.inl (Nat.lt_succ_self _)) 1 (.slice q20 (accm.length + 1) c20))
            have HK21 := hiD (HK20.out.box (g := g) HKBT.out 1 (.slice q20 (accm.length + 1) c20))
            go_roundw
            case rel => exact ⟨j + 1, accm ++ [((mn, 1, acct, ex0) : MemB)], (.er c a), ox14, cx14, ax14, lv10, q20, c20, HLTj.out, by go_num, by rw [List.length_append, HLENm.out]; rfl, by rw [List.length_append]; exact HRW21.out, by exact HR21.out, by rw [List.length_append]; exact HT21.out, HP14, HLV14, HK21, HEN14⟩
            case measure => first | exact meas HLTj.out (Nat.le_trans HDM.out (by decide)) | exact meas' HLTj.out
           | go o14 =>
            obtain ⟨rfl, rfl, rfl, hol14⟩ := HP14.out.go
            obtain ⟨w14, hw14⟩ : ∃ x, x = wt := ⟨_, rfl⟩
            rw [← hw14] at HAR14 HR14 HT14 HM14 HK14 ⊢
            clear hw14
            have HOL14 := hiD hol14
            have hlt' : (l : Int) < tn := by omega
            have HWT : Hid (wrap64 ((l : Int) + 1) = (l : Int) + 1) := by show _ = _; unfold wrap64; have := HTN.out; omega
            have HLTt : Hid (l < tn) := hlt
            obtain ⟨at1, hat1⟩ : ∃ x, x = (nameC b false (.go o14)).1 := ⟨_, rfl⟩
            obtain ⟨s15, hs15⟩ : ∃ x, x = (nameC b false (.go o14)).2 := ⟨_, rfl⟩
            obtain ⟨at2, hat2⟩ : ∃ x, x = (nameC b true s15).1 := ⟨_, rfl⟩
            obtain ⟨s16, hs16⟩ : ∃ x, x = (nameC b true s15).2 := ⟨_, rfl⟩
            have HTE16 : Hid (typesE b o12 lv10 = loopE (allE b) (tn - (l + 1)) (acct ++ [(at1, at2)]) s16 lv10) := by
             show _ = _
             rw [HTE14.out, show tn - l = (tn - (l + 1)) + 1 by omega, loopE, hat2, hs16, hat1, hs15]; rfl
            have HACt : Hid (acct.length + 1 ≤ 1000000) := by show _ ≤ _; have := HTN.out; have := HLENt.out; omega
            have HA1 := hiD hat1
            have HS15 := hiD hs15
            have HA2 := hiD hat2
            have HS16 := hiD hs16
            have HBLt : Hid (∀ b, (Value.slice qt acct.length ct).ownBlock = some b → b < w14.heap.size) := fun b hb => (HAR14.out.lt b hb).2
            clear HTE14 hlt hol14 HP14 hat1 hs15 hat2 hs16
            have HKt0 : Hid (Kp (W.heap.size + 1) w14 w14) := Kp.of (Below.refl _ _)
            have HK0 := HK14
            clear HK14
            have HK14 := HKt0
            clear HKt0
            have x0 := HR14.out.2.1.cell 0
            have y0 := HR14.out.2.1.free 0
            have x1 := HR14.out.2.1.cell 1
            have y1 := HR14.out.2.1.free 1
            have x2 := HR14.out.2.1.cell 2
            have y2 := HR14.out.2.1.free 2
            have x3 := HR14.out.2.1.cell 3
            have y3 := HR14.out.2.1.free 3
            have x4 := HR14.out.2.1.cell 4
            have y4 := HR14.out.2.1.free 4
            simp only [List.getElem?_cons_zero, List.getElem?_cons_succ] at x0 x1 x2 x3 x4
            go_upto_region 27 with (fail)
            clear x0 y0 x1 y1 x2 y2 x3 y3 x4 y4
            have hb14b : Below w14.heap.size w14 (w14.alloc (.cells #[.string ⟨#[]⟩, .string ⟨#[]⟩] 70)) := (Below.refl _ _).alloc (Nat.le_refl _) _
            have HR14b := hiD (HR14.out.later hb14b)
            have HT14b := hiD (HT14.out.later hb14b)
            have HM14b := hiD (HM14.out.later hb14b)
            have HA14b : Hid (Arr (w14.alloc (.cells #[.string ⟨#[]⟩, .string ⟨#[]⟩] 70)) 70 w14.heap.size [.string ⟨#[]⟩, .string ⟨#[]⟩]) := Arr.new' _ _ _ _ rfl
            have HK14b := hiD (HK14.out.trans (Kp.of hb14b))
            obtain ⟨ga, hg14b⟩ : ∃ x, x = w14.heap.size := ⟨_, rfl⟩
            have HG14b : Hid (w14.heap.size ≤ ga ∧ gm + 1 ≤ ga) := ⟨Nat.le_of_eq hg14b.symm, by have := HM14.out.lt; omega⟩
            rw [← hg14b] at HA14b ⊢
            clear hb14b hg14b HR14 HT14 HM14 HK14
            generalize w14.alloc (.cells #[.string ⟨#[]⟩, .string ⟨#[]⟩] 70) = w14b at HR14b HT14b HM14b HA14b HK14b ⊢
            clear hlt'
            have HBA : Hid (W.heap.size + 3 ≤ ga) := by show _ ≤ _; have := HG14b.out.2; have := HBM.out; omega
            have HNEAT : Hid (g < ga ∧ ¬ ga = g) := by have h1 := HG14b.out.2; have h2 := HNETM.out; exact ⟨by omega, by omega⟩
            have HNETA := HNEAT
            have HNEAM : Hid (gm < ga ∧ ¬ ga = gm) := by have h1 := HG14b.out.2; exact ⟨by omega, by omega⟩
            have HNEMA := HNEAM
            have HKBA : Hid (w14.heap.size ≤ ga) := HG14b.out.1
            have HCN := hiD (pName (lv := lv10) ((HRD.out.below HR14b.out.2.2.2 (Nat.le_refl _)).mono HR14b.out.2.2.2.size) (PI.of_go HOL14.out) HBL.out)
            rw [← HA1.out, ← HS15.out] at HCN
            have HC15 := hiD (HCN.out)
            have x0 := HR14b.out.2.1.cell 0
            have y0 := HR14b.out.2.1.free 0
            have x1 := HR14b.out.2.1.cell 1
            have y1 := HR14b.out.2.1.free 1
            have x2 := HR14b.out.2.1.cell 2
            have y2 := HR14b.out.2.1.free 2
            have x3 := HR14b.out.2.1.cell 3
            have y3 := HR14b.out.2.1.free 3
            have x4 := HR14b.out.2.1.cell 4
            have y4 := HR14b.out.2.1.free 4
            simp only [List.getElem?_cons_zero, List.getElem?_cons_succ] at x0 x1 x2 x3 x4
            go_wp2_with fail
            refine HC15.out.mono ?_
            rintro e w15 ⟨ox15, cx15, ax15, rfl, hp15, b15⟩
            have HP15 := hiD hp15
            have HRx15 := hiD (HR14b.out.later b15)
            have HTx15 := hiD (HT14b.out.later b15)
            have HMx15 := hiD (HM14b.out.later b15)
            have HAx15 := hiD (HA14b.out.later b15)
            have HKx15 := hiD (HK14b.out.trans (Kp.of b15))
            clear hp15 b15 HC15 HR14b HT14b HM14b HA14b HK14b
            clear x0 y0 x1 y1 x2 y2 x3 y3 x4 y4
            have x0 := HRx15.out.2.1.cell 0
            have y0 := HRx15.out.2.1.free 0
            have x1 := HRx15.out.2.1.cell 1
            have y1 := HRx15.out.2.1.free 1
            have x2 := HRx15.out.2.1.cell 2
            have y2 := HRx15.out.2.1.free 2
            have x3 := HRx15.out.2.1.cell 3
            have y3 := HRx15.out.2.1.free 3
            have x4 := HRx15.out.2.1.cell 4
            have y4 := HRx15.out.2.1.free 4
            simp only [List.getElem?_cons_zero, List.getElem?_cons_succ] at x0 x1 x2 x3 x4
            obtain ⟨e0, f0, e1, f1⟩ := HAx15.out.all2
            have hgwT : ¬ g = W.heap.size + 1 := by have := HBT.out; omega
            have hgvT : ¬ W.heap.size + 1 = g := by have := HBT.out; omega
            have hgwM : ¬ gm = W.heap.size + 1 := by have := HBM.out; omega
            have hgvM : ¬ W.heap.size + 1 = gm := by have := HBM.out; omega
            have hgwA : ¬ ga = W.heap.size + 1 := by have := HBA.out; omega
            have hgvA : ¬ W.heap.size + 1 = ga := by have := HBA.out; omega
            go_upto_region 28 with (fail)
            clear x0 y0 x1 y1 x2 y2 x3 y3 x4 y4
            clear e0 f0 e1 f1
            have HR15 := hiD ((HRx15.out.pl (.slice q b.length cp) (.int .i64 ox15) (.int .i64 cx15) (.int .i64 ax15) (.int .i64 (lv10 : Nat))).far (g := ga) (i := 0) (.string (bstr at1)) (by have := HBA.out; omega))
            have HT15 := hiD ((Arr.setCell (Arr.farP HTx15.out (by have := HBT.out; omega) (.slice q b.length cp) (.int .i64 ox15) (.int .i64 cx15) (.int .i64 ax15) (.int .i64 (lv10 : Nat))) (a := ⟨ga, 0, none⟩) (by have := HNETA.out; simp only [ne_eq]; omega) (.string (bstr at1))))
            have HM15 := hiD ((Arr.setCell (Arr.farP HMx15.out (by have := HBM.out; omega) (.slice q b.length cp) (.int .i64 ox15) (.int .i64 cx15) (.int .i64 ax15) (.int .i64 (lv10 : Nat))) (a := ⟨ga, 0, none⟩) (by have := HNEMA.out; simp only [ne_eq]; omega) (.string (bstr at1))))
            have HA15 := hiD ((Arr.set (Arr.farP HAx15.out (by have := HBA.out; omega) (.slice q b.length cp) (.int .i64 ox15) (.int .i64 cx15) (.int .i64 ax15) (.int .i64 (lv10 : Nat))) 0 (.string (bstr at1))))
            simp only [List.set_cons_zero, List.set_cons_succ] at HA15
            have HK15 := hiD ((HKx15.out.trans (kp_setP w15 (W.heap.size + 1) (.slice q b.length cp) (.int .i64 ox15) (.int .i64 cx15) (.int .i64 ax15) (.int .i64 (lv10 : Nat)))).box (by have := HKBA.out; omega) 0 (.string (bstr at1)))
            clear hgwT hgvT HTx15 hgwM hgvM HMx15 hgwA hgvA HAx15 HRx15 HKx15
            generalize (((((w15.setCell ⟨W.heap.size + 1, 0, none⟩ (.slice q b.length cp)).setCell ⟨W.heap.size + 1, 1, none⟩ (.int .i64 ox15)).setCell ⟨W.heap.size + 1, 2, none⟩ (.int .i64 cx15)).setCell ⟨W.heap.size + 1, 3, none⟩ (.int .i64 ax15)).setCell ⟨W.heap.size + 1, 4, none⟩ (.int .i64 (lv10 : Nat))).setCell ⟨ga, 0, none⟩ (.string (bstr at1)) = wz15 at HR15 HT15 HM15 HA15 HK15 ⊢
            clear HCN
            have HCN := hiD (pNameE (lv := lv10) ((HRD.out.below HR15.out.2.2.2 (Nat.le_refl _)).mono HR15.out.2.2.2.size) HP15.out HBL.out)
            rw [← HA2.out, ← HS16.out] at HCN
            have HC16 := hiD (HCN.out)
            have x0 := HR15.out.2.1.cell 0
            have y0 := HR15.out.2.1.free 0
            have x1 := HR15.out.2.1.cell 1
            have y1 := HR15.out.2.1.free 1
            have x2 := HR15.out.2.1.cell 2
            have y2 := HR15.out.2.1.free 2
            have x3 := HR15.out.2.1.cell 3
            have y3 := HR15.out.2.1.free 3
            have x4 := HR15.out.2.1.cell 4
            have y4 := HR15.out.2.1.free 4
            simp only [List.getElem?_cons_zero, List.getElem?_cons_succ] at x0 x1 x2 x3 x4
            go_wp2_with fail
            refine HC16.out.mono ?_
            rintro e w16 ⟨ox16, cx16, ax16, rfl, hp16, b16⟩
            have HP16 := hiD hp16
            have HRx16 := hiD (HR15.out.later b16)
            have HTx16 := hiD (HT15.out.later b16)
            have HMx16 := hiD (HM15.out.later b16)
            have HAx16 := hiD (HA15.out.later b16)
            have HKx16 := hiD (HK15.out.trans (Kp.of b16))
            clear hp16 b16 HC16 HR15 HT15 HM15 HA15 HK15
            clear x0 y0 x1 y1 x2 y2 x3 y3 x4 y4
            have x0 := HRx16.out.2.1.cell 0
            have y0 := HRx16.out.2.1.free 0
            have x1 := HRx16.out.2.1.cell 1
            have y1 := HRx16.out.2.1.free 1
            have x2 := HRx16.out.2.1.cell 2
            have y2 := HRx16.out.2.1.free 2
            have x3 := HRx16.out.2.1.cell 3
            have y3 := HRx16.out.2.1.free 3
            have x4 := HRx16.out.2.1.cell 4
            have y4 := HRx16.out.2.1.free 4
            simp only [List.getElem?_cons_zero, List.getElem?_cons_succ] at x0 x1 x2 x3 x4
            obtain ⟨e0, f0, e1, f1⟩ := HAx16.out.all2
            have hgwT : ¬ g = W.heap.size + 1 := by have := HBT.out; omega
            have hgvT : ¬ W.heap.size + 1 = g := by have := HBT.out; omega
            have hgwM : ¬ gm = W.heap.size + 1 := by have := HBM.out; omega
            have hgvM : ¬ W.heap.size + 1 = gm := by have := HBM.out; omega
            have hgwA : ¬ ga = W.heap.size + 1 := by have := HBA.out; omega
            have hgvA : ¬ W.heap.size + 1 = ga := by have := HBA.out; omega
            go_upto_region 29 with (fail)
            clear x0 y0 x1 y1 x2 y2 x3 y3 x4 y4
            clear e0 f0 e1 f1
            have HR16 := hiD ((HRx16.out.pl (.slice q b.length cp) (.int .i64 ox16) (.int .i64 cx16) (.int .i64 ax16) (.int .i64 (lv10 : Nat))).far (g := ga) (i := 1) (.string (bstr at2)) (by have := HBA.out; omega))
            have HT16 := hiD ((Arr.setCell (Arr.farP HTx16.out (by have := HBT.out; omega) (.slice q b.length cp) (.int .i64 ox16) (.int .i64 cx16) (.int .i64 ax16) (.int .i64 (lv10 : Nat))) (a := ⟨ga, 1, none⟩) (by have := HNETA.out; simp only [ne_eq]; omega) (.string (bstr at2))))
            have HM16 := hiD ((Arr.setCell (Arr.farP HMx16.out (by have := HBM.out; omega) (.slice q b.length cp) (.int .i64 ox16) (.int .i64 cx16) (.int .i64 ax16) (.int .i64 (lv10 : Nat))) (a := ⟨ga, 1, none⟩) (by have := HNEMA.out; simp only [ne_eq]; omega) (.string (bstr at2))))
            have HA16 := hiD ((Arr.set (Arr.farP HAx16.out (by have := HBA.out; omega) (.slice q b.length cp) (.int .i64 ox16) (.int .i64 cx16) (.int .i64 ax16) (.int .i64 (lv10 : Nat))) 1 (.string (bstr at2))))
            simp only [List.set_cons_zero, List.set_cons_succ] at HA16
            have HK16 := hiD ((HKx16.out.trans (kp_setP w16 (W.heap.size + 1) (.slice q b.length cp) (.int .i64 ox16) (.int .i64 cx16) (.int .i64 ax16) (.int .i64 (lv10 : Nat)))).box (by have := HKBA.out; omega) 1 (.string (bstr at2)))
            clear hgwT hgvT HTx16 hgwM hgvM HMx16 hgwA hgvA HAx16 HRx16 HKx16
            generalize (((((w16.setCell ⟨W.heap.size + 1, 0, none⟩ (.slice q b.length cp)).setCell ⟨W.heap.size + 1, 1, none⟩ (.int .i64 ox16)).setCell ⟨W.heap.size + 1, 2, none⟩ (.int .i64 cx16)).setCell ⟨W.heap.size + 1, 3, none⟩ (.int .i64 ax16)).setCell ⟨W.heap.size + 1, 4, none⟩ (.int .i64 (lv10 : Nat))).setCell ⟨ga, 1, none⟩ (.string (bstr at2)) = wz16 at HR16 HT16 HM16 HA16 HK16 ⊢
            clear HCN HA1 HA2 HS15 HS16
            have HAR16 := hiD (AlRow.kp HAR14.out HK16.out (by have := HBM.out; omega))
            have HK17 := hiD (HK0.out.trans HK16.out)
            have hba : Below wz16.heap.size wz16 (wz16.alloc (.cells #[.string (bstr at1), .string (bstr at2)] 70)) := (Below.refl _ _).alloc (Nat.le_refl _) _
            have HARa := hiD (AlRow.kp HAR16.out (Kp.of (pb := W.heap.size + 1) hba) (by have := HBM.out; omega))
            have HRa := hiD (HR16.out.later hba)
            have HTa := hiD (HT16.out.later hba)
            have HMa := hiD (HM16.out.later hba)
            have HKa := hiD (HK17.out.trans (Kp.of hba))
            have HEa : Hid (Arr (wz16.alloc (.cells #[.string (bstr at1), .string (bstr at2)] 70)) 70 wz16.heap.size [.string (bstr at1), .string (bstr at2)]) := Arr.new' _ _ _ _ rfl
            have HBS : Hid (gm + 1 ≤ (wz16.alloc (.cells #[.string (bstr at1), .string (bstr at2)] 70)).heap.size) := by show _ ≤ _; have := HMa.out.lt; omega
            obtain ⟨e0, f0, e1, f1, e2, f2, e3, f3, e4, f4, e5, f5, e6, f6⟩ := HM16.out.all7
            obtain ⟨t0, r0, t1, r1⟩ := HA16.out.all2
            go_wp2_with (at_builtin; refine app_al (e := (at1, at2)) rfl _ _ rfl rfl HARa.out rfl HEa.out HACt.out HBS.out ?_)
            intro v18 w18 r18 g18 o18
            have HR18 := hiD (HRa.out.grown g18 (fun k hk => by have := o18 k hk; have := HBM.out; omega))
            have HT18 := hiD ((g18.block _ HTa.out.lt (fun e => absurd (o18 _ e.symm) (by have := HNETM.out; omega))).trans HTa.out)
            have HM18 := hiD ((g18.block _ HMa.out.lt (fun e => absurd (o18 _ e.symm) (by omega))).trans HMa.out)
            have HK18 := hiD (HKa.out.grown g18 (fun k hk => by have := o18 k hk; have := HKBM.out; omega))
            have HAR18 := hiD r18
            obtain ⟨q18, c18, hv18⟩ := AlRow.form r18
            rw [List.length_append, List.length_singleton] at hv18
            subst hv18
            clear r18 g18 o18 hba HARa HRa HTa HMa HKa HEa HBS HR16 HT16 HM16 HA16 HK16 HK17 HAR16 HAR14 HK0
            clear t0 t1 r0 r1
            clear e0 f0 e1 f1 e2 f2 e3 f3 e4 f4 e5 f5 e6 f6
            have HM18 : Hid (Arr w18 66 gm [.string (bstr mn), .int .i64 1, .slice qt acct.length ct, .int .i64 0, .string ⟨#[]⟩, .string ⟨#[]⟩, .slice none 0 0]) := HM18.out
            obtain ⟨e0, f0, e1, f1, e2, f2, e3, f3, e4, f4, e5, f5, e6, f6⟩ := HM18.out.all7
            have hwt := HWT.out
            go_wp2_with fail
            clear e0 f0 e1 f1 e2 f2 e3 f3 e4 f4 e5 f5 e6 f6
            have HR19 := hiD (HR18.out.far (g := gm) (i := 2) (.slice q18 (acct.length + 1) c18) (by have := HBM.out; omega))
            have HT19 : Hid (Arr (w18.setCell ⟨gm, 2, none⟩ (.slice q18 (acct.length + 1) c18)) 53 g [.string (bstr dn), .slice qm accm.length cm]) := Arr.setCell HT18.out (by have := HNETM.out; simp only [ne_eq]; omega) _
            have HM19 : Hid (Arr (w18.setCell ⟨gm, 2, none⟩ (.slice q18 (acct.length + 1) c18)) 66 gm [.string (bstr mn), .int .i64 1, .slice q18 (acct.length + 1) c18, .int .i64 0, .string ⟨#[]⟩, .string ⟨#[]⟩, .slice none 0 0]) := HM18.out.set 2 _
            have HK19 := hiD (HK18.out.box (g := gm) HKBM.out 2 (.slice q18 (acct.length + 1) c18))
            have HAR19 : Hid (AlRow (gm + 1) (w18.setCell ⟨gm, 2, none⟩ (.slice q18 (acct.length + 1) c18)) (.slice q18 (acct.length + 1) c18) (acct ++ [(at1, at2)])) := AlRow.kp HAR18.out ((Kp.of (pb := gm) (Below.refl _ _)).set 2 _) (Nat.lt_succ_self _)
            go_roundw
            case rel => exact ⟨l + 1, acct ++ [(at1, at2)], s16, ox16, cx16, ax16, q18, c18, HLTt.out, by go_num, by rw [List.length_append, HLENt.out]; rfl, by rw [List.length_append]; exact HAR19.out, by exact HR19.out, by exact HT19.out, by rw [List.length_append]; exact HM19.out, HP16, HK19, HTE16⟩
            case measure => first | exact meas HLTt.out (Nat.le_trans HTN.out (by decide)) | exact meas' HLTt.out
          ·have hlt' : ¬ (l : Int) < tn := by omega
           have HTEN : Hid (typesE b o12 lv10 = (acct, s14, lv10)) := by
            show _ = _
            rw [HTE14.out, show tn - l = 0 by omega]; rfl
           clear hlt
           have HEM2 : Hid (memE b o10 lv10 = ((mn, 1, acct, ex0), s14, lv10)) := by
            show _ = _
            rw [HEM1.out, HTEN.out]
           clear HTEN HEM1 HTE14
           have HX14 : Hid (rdMem (Bt (gm + 1) wt.heap.size) wt (mn, 1, acct, ex0) [.string (bstr mn), .int .i64 1, .slice qt acct.length ct, .int .i64 0, .string ⟨#[]⟩, .string ⟨#[]⟩, .slice none 0 0]) := ⟨_, _, _, _, _, rfl, AlRow.rd HAR14.out, VE.leaf _ _ _ _ _⟩
           have HLV14 : Hid (lv10 ≤ 32) := HL10
           clear HAR14
           have x0 := HR14.out.2.1.cell 0
           have y0 := HR14.out.2.1.free 0
           have x1 := HR14.out.2.1.cell 1
           have y1 := HR14.out.2.1.free 1
           have x2 := HR14.out.2.1.cell 2
           have y2 := HR14.out.2.1.free 2
           have x3 := HR14.out.2.1.cell 3
           have y3 := HR14.out.2.1.free 3
           have x4 := HR14.out.2.1.cell 4
           have y4 := HR14.out.2.1.free 4
           simp only [List.getElem?_cons_zero, List.getElem?_cons_succ] at x0 x1 x2 x3 x4
           go_upto_region 30 with (fail)
           clear x0 y0 x1 y1 x2 y2 x3 y3 x4 y4
           have HEN14 : Hid (loopE (memE b) (dm - 0) [] s9 lv6 = loopE (memE b) (dm - (j + 1)) (accm ++ [((mn, 1, acct, ex0) : MemB)]) s14 lv10) := by
            show _ = _
            rw [HEB.out, HEM2.out]
           clear HEM2 HEB
           have HRWm := hiD (HRWi.out.turn HK14.out.2.2.2.1 (fun b h1 h2 _ => HK14.out.2.2.2.2 b h2 (by have := HBT.out; omega)))
           have HK614 := hiD (HKh.out.trans HK14.out)
           clear HRWi HKh
           have hba : Below wt.heap.size wt (wt.alloc (.cells #[.string (bstr mn), .int .i64 1, .slice qt acct.length ct, .int .i64 0, .string ⟨#[]⟩, .string ⟨#[]⟩, .slice none 0 0] 66)) := (Below.refl _ _).alloc (Nat.le_refl _) _
           have HRWa := hiD (HRWm.out.later hba)
           have HRa := hiD (HR14.out.later hba)
           have HTa := hiD (HT14.out.later hba)
           have HKa := hiD (HK614.out.trans (Kp.of hba))
           have HEa : Hid (Arr (wt.alloc (.cells #[.string (bstr mn), .int .i64 1, .slice qt acct.length ct, .int .i64 0, .string ⟨#[]⟩, .string ⟨#[]⟩, .slice none 0 0] 66)) 66 wt.heap.size [.string (bstr mn), .int .i64 1, .slice qt acct.length ct, .int .i64 0, .string ⟨#[]⟩, .string ⟨#[]⟩, .slice none 0 0]) := Arr.new' _ _ _ _ rfl
           have HXa : Hid (kdMem.rd (SubX (g + 1) (fun _ => False) (wt.alloc (.cells #[.string (bstr mn), .int .i64 1, .slice qt acct.length ct, .int .i64 0, .string ⟨#[]⟩, .string ⟨#[]⟩, .slice none 0 0] 66)) (.slice qm accm.length cm)) (wt.alloc (.cells #[.string (bstr mn), .int .i64 1, .slice qt acct.length ct, .int .i64 0, .string ⟨#[]⟩, .string ⟨#[]⟩, .slice none 0 0] 66)) (mn, 1, acct, ex0) [.string (bstr mn), .int .i64 1, .slice qt acct.length ct, .int .i64 0, .string ⟨#[]⟩, .string ⟨#[]⟩, .slice none 0 0]) := kdMem.imp (fun b hb => ⟨by have := HNETM.out; have := hb.1; omega, Nat.lt_of_lt_of_le hb.2 hba.size, fun e => by have h1 := HBLm.out b e.symm; have := hb.1; have := HKBM.out; omega, fun h => h⟩) (kdMem.keep (fun b hb n => hba.cell (p := ⟨b, n, none⟩) hb.2) HX14.out)
           have HBS : Hid (g + 1 ≤ (wt.alloc (.cells #[.string (bstr mn), .int .i64 1, .slice qt acct.length ct, .int .i64 0, .string ⟨#[]⟩, .string ⟨#[]⟩, .slice none 0 0] 66)).heap.size) := by show _ ≤ _; have := HTa.out.lt; omega
           obtain ⟨e0, f0, e1, f1, e2, f2, e3, f3, e4, f4, e5, f5, e6, f6⟩ := HM14.out.all7
           obtain ⟨t0, r0, t1, r1⟩ := HT14.out.all2
           go_wp2_with (at_builtin; refine app_row (K := kdMem) (x := (mn, 1, acct, ex0)) rfl _ _ rfl rfl HRWa.out rfl HEa.out HXa.out HACm.out HBS.out (fun b h => h.elim) ?_)
           intro v20 w20 r20 g20 o20
           have HR20 := hiD (HRa.out.grown g20 (fun k hk => by have := o20 k hk; have := HBT.out; omega))
           have HT20 := hiD ((g20.block _ HTa.out.lt (fun e => absurd (o20 _ e.symm) (by omega))).trans HTa.out)
           have HK20 := hiD (HKa.out.grown g20 (fun k hk => by have := o20 k hk; have := HKBT.out; omega))
           have HRW20 := hiD r20
           obtain ⟨q20, c20, hv20⟩ := r20.form
           rw [List.length_append, List.length_singleton] at hv20
           subst hv20
           clear r20 g20 o20 hba HRWa HRa HTa HEa HXa HBS HKa HR14 HT14 HM14 HK14 HK614 HRWm HX14
           clear t0 t1 r0 r1
           clear e0 f0 e1 f1 e2 f2 e3 f3 e4 f4 e5 f5 e6 f6
           have HT20 : Hid (Arr w20 53 g [.string (bstr dn), .slice qm accm.length cm]) := HT20.out
           obtain ⟨e0, f0, e1, f1⟩ := HT20.out.all2
           have hwj := HWJ.out
           go_wp2_with fail
           clear e0 f0 e1 f1
           have HR21 := hiD (HR20.out.far (g := g) (i := 1) (.slice q20 (accm.length + 1) c20) (by have := HBT.out; omega))
           have HT21 : Hid (Arr (w20.setCell ⟨g, 1, none⟩ (.slice q20 (accm.length + 1) c20)) 53 g [.string (bstr dn), .slice q20 (accm.length + 1) c20]) := HT20.out.set 1 _
           have HRW21 := hiD (HRW20.out.box (g := g) (.inl (Nat.lt_succ_self _)) 1 (.slice q20 (accm.length + 1) c20))
           have HK21 := hiD (HK20.out.box (g := g) HKBT.out 1 (.slice q20 (accm.length + 1) c20))
           go_roundw
           case rel => exact ⟨j + 1, accm ++ [((mn, 1, acct, ex0) : MemB)], s14, ox14, cx14, ax14, lv10, q20, c20, HLTj.out, by go_num, by rw [List.length_append, HLENm.out]; rfl, by rw [List.length_append]; exact HRW21.out, by exact HR21.out, by rw [List.length_append]; exact HT21.out, HP14, HLV14, HK21, HEN14⟩
           case measure => first | exact meas HLTj.out (Nat.le_trans HDM.out (by decide)) | exact meas' HLTj.out
        ·have HEM1 : Hid (memE b o10 lv10 = ((mn, 2, [], (refC b 16 o12 0).1), (refC b 16 o12 0).2)) := HEM.out
         clear HEM
         obtain ⟨⟨xk, xv, xn, xs⟩, hx⟩ : ∃ x, x = (refC b 16 o12 0).1 := ⟨_, rfl⟩
         obtain ⟨s13, hs13⟩ : ∃ x, x = (refC b 16 o12 0).2.1 := ⟨_, rfl⟩
         obtain ⟨lv13, hlv13⟩ : ∃ x, x = (refC b 16 o12 0).2.2 := ⟨_, rfl⟩
         have HLV13 : Hid (lv13 ≤ 32) := by show _ ≤ _; rw [hlv13]; exact (ref_as b 16 o12 0 (Nat.zero_le _)).2
         have HEM2 : Hid (memE b o10 lv10 = ((mn, 2, [], .mk xk xv xn xs), s13, lv13)) := by
          show _ = _
          rw [HEM1.out, hx, hs13, hlv13]
         have HRR : Hid (∀ w7, Rd w7.heap.size w7 (.slice q b.length cp) b → Calls Tryz.prog 27 #[.agg #[.slice q b.length cp, .int .i64 (o12 : Nat), .int .i64 0, .int .i64 0, .int .i64 0], .int .i64 1] w7 fun e w' => ∃ ox13 cx13 ax13 v, e = .returned (.tuple #[.agg #[.slice q b.length cp, .int .i64 ox13, .int .i64 cx13, .int .i64 ax13, .int .i64 (lv13 : Nat)], v]) ∧ PI b s13 ox13 cx13 ax13 ∧ VE w7.heap.size (.mk xk xv xn xs) w' v ∧ Below w7.heap.size w7 w') := fun w7 hw7 => by
          have h := pRead1 (W := w7) hw7 HBL.out HOL12.out
          unfold QPost at h
          rw [← hx, ← hs13, ← hlv13] at h
          exact h
         clear hx hs13 hlv13 HEM1
         have x0 := HR12.out.2.1.cell 0
         have y0 := HR12.out.2.1.free 0
         have x1 := HR12.out.2.1.cell 1
         have y1 := HR12.out.2.1.free 1
         have x2 := HR12.out.2.1.cell 2
         have y2 := HR12.out.2.1.free 2
         have x3 := HR12.out.2.1.cell 3
         have y3 := HR12.out.2.1.free 3
         have x4 := HR12.out.2.1.cell 4
         have y4 := HR12.out.2.1.free 4
         simp only [List.getElem?_cons_zero, List.getElem?_cons_succ] at x0 x1 x2 x3 x4
         obtain ⟨e0, f0, e1, f1, e2, f2, e3, f3, e4, f4, e5, f5, e6, f6⟩ := HM12.out.all7
         have hgwM : ¬ gm = W.heap.size + 1 := by have := HBM.out; omega
         have hgvM : ¬ W.heap.size + 1 = gm := by have := HBM.out; omega
         go_upto_region 19 with (fail)
         clear e0 f0 e1 f1 e2 f2 e3 f3 e4 f4 e5 f5 e6 f6
         clear x0 y0 x1 y1 x2 y2 x3 y3 x4 y4
         have HR12b : Hid (RT W [.slice q b.length cp, .int .i64 (o12 : Nat), .int .i64 0, .int .i64 0, .int .i64 0] [.slice none 0 0] [.slice q6 acc.length c6] (wz12.setCell ⟨W.heap.size + 1, 4, none⟩ (.int .i64 0))) := HR12.out.cp (i := 4) _ (by decide)
         have HT12b := hiD (Arr.setCell HT12.out (a := ⟨W.heap.size + 1, 4, none⟩) (by have := HBT.out; simp only [ne_eq]; omega) (.int .i64 0))
         have HM12b := hiD (Arr.setCell HM12.out (a := ⟨W.heap.size + 1, 4, none⟩) (by have := HBM.out; simp only [ne_eq]; omega) (.int .i64 0))
         have HK12b := hiD (HK12.out.set 4 (.int .i64 0))
         clear HR12 HT12 HM12 HK12
         generalize wz12.setCell ⟨W.heap.size + 1, 4, none⟩ (.int .i64 0) = w12 at HR12b HT12b HM12b HK12b ⊢
         have HC13 := hiD (HRR.out w12 ((HRD.out.below HR12b.out.2.2.2 (Nat.le_refl _)).mono HR12b.out.2.2.2.size))
         have HTL : Hid (gm < w12.heap.size) := HM12b.out.lt
         have x0 := HR12b.out.2.1.cell 0
         have y0 := HR12b.out.2.1.free 0
         have x1 := HR12b.out.2.1.cell 1
         have y1 := HR12b.out.2.1.free 1
         have x2 := HR12b.out.2.1.cell 2
         have y2 := HR12b.out.2.1.free 2
         have x3 := HR12b.out.2.1.cell 3
         have y3 := HR12b.out.2.1.free 3
         have x4 := HR12b.out.2.1.cell 4
         have y4 := HR12b.out.2.1.free 4
         simp only [List.getElem?_cons_zero, List.getElem?_cons_succ] at x0 x1 x2 x3 x4
         go_wp2_with fail
         refine HC13.out.mono ?_
         rintro e w13 ⟨ox13, cx13, ax13, v, rfl, hp13, hv13, b13⟩
         have r13' : VE w12.heap.size (.mk xk xv xn xs) w13 v := hv13
         obtain ⟨q13, c13, rfl, _, _⟩ := RdE.form hv13
         unfold exv at r13' ⊢
         dsimp only [Ex.kind, Ex.via, Ex.nm, Ex.kids] at r13' ⊢
         have HV13 : Hid (VE w12.heap.size (.mk xk xv xn xs) w13 (.agg #[.int .i64 xk, .string (bstr xv), .string (bstr xn), .slice q13 xs.length c13])) := r13'
         have HP13 := hiD hp13
         have HRx13 := hiD (HR12b.out.later b13)
         have HTx13 := hiD (HT12b.out.later b13)
         have HMx13 := hiD (HM12b.out.later b13)
         have HKx13 := hiD (HK12b.out.trans (Kp.of b13))
         clear r13' hv13 hp13 b13 HC13 HRR HR12b HT12b HM12b HK12b
         clear x0 y0 x1 y1 x2 y2 x3 y3 x4 y4
         have x0 := HRx13.out.2.1.cell 0
         have y0 := HRx13.out.2.1.free 0
         have x1 := HRx13.out.2.1.cell 1
         have y1 := HRx13.out.2.1.free 1
         have x2 := HRx13.out.2.1.cell 2
         have y2 := HRx13.out.2.1.free 2
         have x3 := HRx13.out.2.1.cell 3
         have y3 := HRx13.out.2.1.free 3
         have x4 := HRx13.out.2.1.cell 4
         have y4 := HRx13.out.2.1.free 4
         simp only [List.getElem?_cons_zero, List.getElem?_cons_succ] at x0 x1 x2 x3 x4
         obtain ⟨e0, f0, e1, f1, e2, f2, e3, f3, e4, f4, e5, f5, e6, f6⟩ := HMx13.out.all7
         go_upto_region 20 with (fail)
         clear hgwM hgvM
         clear e0 f0 e1 f1 e2 f2 e3 f3 e4 f4 e5 f5 e6 f6
         clear x0 y0 x1 y1 x2 y2 x3 y3 x4 y4
         have HR13 := hiD (((((HRx13.out.pl (.slice q b.length cp) (.int .i64 ox13) (.int .i64 cx13) (.int .i64 ax13) (.int .i64 (lv13 : Nat))).far (g := gm) (i := 3) (.int .i64 xk) (by have := HBM.out; omega)).far (g := gm) (i := 4) (.string (bstr xv)) (by have := HBM.out; omega)).far (g := gm) (i := 5) (.string (bstr xn)) (by have := HBM.out; omega)).far (g := gm) (i := 6) (.slice q13 xs.length c13) (by have := HBM.out; omega))
         have HT13 := hiD (Arr.far43 (Arr.farP (b := W.heap.size + 1) HTx13.out (by have := HBT.out; omega) (.slice q b.length cp) (.int .i64 ox13) (.int .i64 cx13) (.int .i64 ax13) (.int .i64 (lv13 : Nat))) (g2 := gm) (by have := HNETM.out.1; omega) (.int .i64 xk) (.string (bstr xv)) (.string (bstr xn)) (.slice q13 xs.length c13))
         have HM13 : Hid (Arr (((((((((w13.setCell ⟨W.heap.size + 1, 0, none⟩ (.slice q b.length cp)).setCell ⟨W.heap.size + 1, 1, none⟩ (.int .i64 ox13)).setCell ⟨W.heap.size + 1, 2, none⟩ (.int .i64 cx13)).setCell ⟨W.heap.size + 1, 3, none⟩ (.int .i64 ax13)).setCell ⟨W.heap.size + 1, 4, none⟩ (.int .i64 (lv13 : Nat))).setCell ⟨gm, 3, none⟩ (.int .i64 xk)).setCell ⟨gm, 4, none⟩ (.string (bstr xv))).setCell ⟨gm, 5, none⟩ (.string (bstr xn))).setCell ⟨gm, 6, none⟩ (.slice q13 xs.length c13)) 66 gm [.string (bstr mn), .int .i64 2, .slice none 0 0, .int .i64 xk, .string (bstr xv), .string (bstr xn), .slice q13 xs.length c13]) := (((((Arr.farP (b := W.heap.size + 1) HMx13.out (by have := HBM.out; omega) (.slice q b.length cp) (.int .i64 ox13) (.int .i64 cx13) (.int .i64 ax13) (.int .i64 (lv13 : Nat))).set 3 (.int .i64 xk)).set 4 (.string (bstr xv))).set 5 (.string (bstr xn))).set 6 (.slice q13 xs.length c13))
         have hk1 := kp_setP w13 (W.heap.size + 1) (.slice q b.length cp) (.int .i64 ox13) (.int .i64 cx13) (.int .i64 ax13) (.int .i64 (lv13 : Nat))
         have hk2 := kp_set43 (((((w13.setCell ⟨W.heap.size + 1, 0, none⟩ (.slice q b.length cp)).setCell ⟨W.heap.size + 1, 1, none⟩ (.int .i64 ox13)).setCell ⟨W.heap.size + 1, 2, none⟩ (.int .i64 cx13)).setCell ⟨W.heap.size + 1, 3, none⟩ (.int .i64 ax13)).setCell ⟨W.heap.size + 1, 4, none⟩ (.int .i64 (lv13 : Nat))) gm (.int .i64 xk) (.string (bstr xv)) (.string (bstr xn)) (.slice q13 xs.length c13)
         have HK13 := hiD ((HKx13.out.trans hk1).andThen hk2 HKBM.out)
         have HV14 := hiD ((HV13.out.kp hk1 (by have := HBM.out; have := HTL.out; omega)).kp hk2 HTL.out)
         clear hk1 hk2 HRx13 HTx13 HMx13 HKx13 HV13
         generalize (((((((((w13.setCell ⟨W.heap.size + 1, 0, none⟩ (.slice q b.length cp)).setCell ⟨W.heap.size + 1, 1, none⟩ (.int .i64 ox13)).setCell ⟨W.heap.size + 1, 2, none⟩ (.int .i64 cx13)).setCell ⟨W.heap.size + 1, 3, none⟩ (.int .i64 ax13)).setCell ⟨W.heap.size + 1, 4, none⟩ (.int .i64 (lv13 : Nat))).setCell ⟨gm, 3, none⟩ (.int .i64 xk)).setCell ⟨gm, 4, none⟩ (.string (bstr xv))).setCell ⟨gm, 5, none⟩ (.string (bstr xn))).setCell ⟨gm, 6, none⟩ (.slice q13 xs.length c13)) = wz13 at HR13 HT13 HM13 HK13 HV14 ⊢
         have HX13 : Hid (rdMem (Bt (gm + 1) wz13.heap.size) wz13 (mn, 2, [], .mk xk xv xn xs) [.string (bstr mn), .int .i64 2, .slice none 0 0, .int .i64 xk, .string (bstr xv), .string (bstr xn), .slice q13 xs.length c13]) := ⟨_, _, _, _, _, rfl, RdA.nil _ _, HV14.out.low (by have := HTL.out; omega)⟩
         clear HV14 HTL
         cases s13 with
         | er c a =>
          have hcx0 := HP13.out.er
          have hc20 : (cx13 == 0) = false := by simpa using hcx0
          have x0 := HR13.out.2.1.cell 0
          have y0 := HR13.out.2.1.free 0
          have x1 := HR13.out.2.1.cell 1
          have y1 := HR13.out.2.1.free 1
          have x2 := HR13.out.2.1.cell 2
          have y2 := HR13.out.2.1.free 2
          have x3 := HR13.out.2.1.cell 3
          have y3 := HR13.out.2.1.free 3
          have x4 := HR13.out.2.1.cell 4
          have y4 := HR13.out.2.1.free 4
          simp only [List.getElem?_cons_zero, List.getElem?_cons_succ] at x0 x1 x2 x3 x4
          go_upto_region 30 with (fail)
          clear x0 y0 x1 y1 x2 y2 x3 y3 x4 y4
          have HEN13 : Hid (loopE (memE b) (dm - 0) [] s9 lv6 = loopE (memE b) (dm - (j + 1)) (accm ++ [((mn, 2, [], .mk xk xv xn xs) : MemB)]) (.er c a) lv13) := by
           show _ = _
           rw [HEB.out, HEM2.out]
          clear HEM2 HEB
          have HRWm := hiD (HRWi.out.turn HK13.out.2.2.2.1 (fun b h1 h2 _ => HK13.out.2.2.2.2 b h2 (by have := HBT.out; omega)))
          have HK613 := hiD (HKh.out.trans HK13.out)
          clear HRWi HKh
          have hba : Below wz13.heap.size wz13 (wz13.alloc (.cells #[.string (bstr mn), .int .i64 2, .slice none 0 0, .int .i64 xk, .string (bstr xv), .string (bstr xn), .slice q13 xs.length c13] 66)) := (Below.refl _ _).alloc (Nat.le_refl _) _
          have HRWa := hiD (HRWm.out.later hba)
          have HRa := hiD (HR13.out.later hba)
          have HTa := hiD (HT13.out.later hba)
          have HKa := hiD (HK613.out.trans (Kp.of hba))
          have HEa : Hid (Arr (wz13.alloc (.cells #[.string (bstr mn), .int .i64 2, .slice none 0 0, .int .i64 xk, .string (bstr xv), .string (bstr xn), .slice q13 xs.length c13] 66)) 66 wz13.heap.size [.string (bstr mn), .int .i64 2, .slice none 0 0, .int .i64 xk, .string (bstr xv), .string (bstr xn), .slice q13 xs.length c13]) := Arr.new' _ _ _ _ rfl
          have HXa : Hid (kdMem.rd (SubX (g + 1) (fun _ => False) (wz13.alloc (.cells #[.string (bstr mn), .int .i64 2, .slice none 0 0, .int .i64 xk, .string (bstr xv), .string (bstr xn), .slice q13 xs.length c13] 66)) (.slice qm accm.length cm)) (wz13.alloc (.cells #[.string (bstr mn), .int .i64 2, .slice none 0 0, .int .i64 xk, .string (bstr xv), .string (bstr xn), .slice q13 xs.length c13] 66)) (mn, 2, [], .mk xk xv xn xs) [.string (bstr mn), .int .i64 2, .slice none 0 0, .int .i64 xk, .string (bstr xv), .string (bstr xn), .slice q13 xs.length c13]) := kdMem.imp (fun b hb => ⟨by have := HNETM.out; have := hb.1; omega, Nat.lt_of_lt_of_le hb.2 hba.size, fun e => by have h1 := HBLm.out b e.symm; have := hb.1; have := HKBM.out; omega, fun h => h⟩) (kdMem.keep (fun b hb n => hba.cell (p := ⟨b, n, none⟩) hb.2) HX13.out)
          have HBS : Hid (g + 1 ≤ (wz13.alloc (.cells #[.string (bstr mn), .int .i64 2, .slice none 0 0, .int .i64 xk, .string (bstr xv), .string (bstr xn), .slice q13 xs.length c13] 66)).heap.size) := by show _ ≤ _; have := HTa.out.lt; omega
          obtain ⟨e0, f0, e1, f1, e2, f2, e3, f3, e4, f4, e5, f5, e6, f6⟩ := HM13.out.all7
          obtain ⟨t0, r0, t1, r1⟩ := HT13.out.all2
          go_wp2_with (at_builtin; refine app_row (K := kdMem) (x := (mn, 2, [], .mk xk xv xn xs)) rfl _ _ rfl rfl HRWa.out rfl HEa.out HXa.out HACm.out HBS.out (fun b h => h.elim) ?_)
          intro v20 w20 r20 g20 o20
          have HR20 := hiD (HRa.out.grown g20 (fun k hk => by have := o20 k hk; have := HBT.out; omega))
          have HT20 := hiD ((g20.block _ HTa.out.lt (fun e => absurd (o20 _ e.symm) (by omega))).trans HTa.out)
          have HK20 := hiD (HKa.out.grown g20 (fun k hk => by have := o20 k hk; have := HKBT.out; omega))
          have HRW20 := hiD r20
          obtain ⟨q20, c20, hv20⟩ := r20.form
          rw [List.length_append, List.length_singleton] at hv20
          subst hv20
          clear r20 g20 o20 hba HRWa HRa HTa HEa HXa HBS HKa HR13 HT13 HM13 HK13 HK613 HRWm HX13
          clear t0 t1 r0 r1
          clear e0 f0 e1 f1 e2 f2 e3 f3 e4 f4 e5 f5 e6 f6
          have HT20 : Hid (Arr w20 53 g [.string (bstr dn), .slice qm accm.length cm]) := HT20.out
          obtain ⟨e0, f0, e1, f1⟩ := HT20.out.all2
          have hwj := HWJ.out
          go_wp2_with fail
          clear e0 f0 e1 f1
          have HR21 := hiD (HR20.out.far (g := g) (i := 1) (.slice q20 (accm.length + 1) c20) (by have := HBT.out; omega))
          have HT21 : Hid (Arr (w20.setCell ⟨g, 1, none⟩ (.slice q20 (accm.length + 1) c20)) 53 g [.string (bstr dn), .slice q20 (accm.length + 1) c20]) := HT20.out.set 1 _
          have HRW21 := hiD (HRW20.out.box (g := g) (.inl (Nat.lt_succ_self _)) 1 (.slice q20 (accm.length + 1) c20))
          have HK21 := hiD (HK20.out.box (g := g) HKBT.out 1 (.slice q20 (accm.length + 1) c20))
          go_roundw
          case rel => exact ⟨j + 1, accm ++ [((mn, 2, [], .mk xk xv xn xs) : MemB)], (.er c a), ox13, cx13, ax13, lv13, q20, c20, HLTj.out, by go_num, by rw [List.length_append, HLENm.out]; rfl, by rw [List.length_append]; exact HRW21.out, by exact HR21.out, by rw [List.length_append]; exact HT21.out, HP13, HLV13, HK21, HEN13⟩
          case measure => first | exact meas HLTj.out (Nat.le_trans HDM.out (by decide)) | exact meas' HLTj.out
         | go o13 =>
          obtain ⟨e1, e2, e3, hol13⟩ := HP13.out.go
          subst e1 e2 e3
          have HOL13 := hiD hol13
          clear hol13
          have x0 := HR13.out.2.1.cell 0
          have y0 := HR13.out.2.1.free 0
          have x1 := HR13.out.2.1.cell 1
          have y1 := HR13.out.2.1.free 1
          have x2 := HR13.out.2.1.cell 2
          have y2 := HR13.out.2.1.free 2
          have x3 := HR13.out.2.1.cell 3
          have y3 := HR13.out.2.1.free 3
          have x4 := HR13.out.2.1.cell 4
          have y4 := HR13.out.2.1.free 4
          simp only [List.getElem?_cons_zero, List.getElem?_cons_succ] at x0 x1 x2 x3 x4
          obtain ⟨e0, f0, e1, f1, e2, f2, e3, f3, e4, f4, e5, f5, e6, f6⟩ := HM13.out.all7
          go_upto_region 30 with (fail)
          clear e0 f0 e1 f1 e2 f2 e3 f3 e4 f4 e5 f5 e6 f6
          clear x0 y0 x1 y1 x2 y2 x3 y3 x4 y4
          have HEN13 : Hid (loopE (memE b) (dm - 0) [] s9 lv6 = loopE (memE b) (dm - (j + 1)) (accm ++ [((mn, 2, [], .mk xk xv xn xs) : MemB)]) (.go o13) lv13) := by
           show _ = _
           rw [HEB.out, HEM2.out]
          clear HEM2 HEB
          have HRWm := hiD (HRWi.out.turn HK13.out.2.2.2.1 (fun b h1 h2 _ => HK13.out.2.2.2.2 b h2 (by have := HBT.out; omega)))
          have HK613 := hiD (HKh.out.trans HK13.out)
          clear HRWi HKh
          have hba : Below wz13.heap.size wz13 (wz13.alloc (.cells #[.string (bstr mn), .int .i64 2, .slice none 0 0, .int .i64 xk, .string (bstr xv), .string (bstr xn), .slice q13 xs.length c13] 66)) := (Below.refl _ _).alloc (Nat.le_refl _) _
          have HRWa := hiD (HRWm.out.later hba)
          have HRa := hiD (HR13.out.later hba)
          have HTa := hiD (HT13.out.later hba)
          have HKa := hiD (HK613.out.trans (Kp.of hba))
          have HEa : Hid (Arr (wz13.alloc (.cells #[.string (bstr mn), .int .i64 2, .slice none 0 0, .int .i64 xk, .string (bstr xv), .string (bstr xn), .slice q13 xs.length c13] 66)) 66 wz13.heap.size [.string (bstr mn), .int .i64 2, .slice none 0 0, .int .i64 xk, .string (bstr xv), .string (bstr xn), .slice q13 xs.length c13]) := Arr.new' _ _ _ _ rfl
          have HXa : Hid (kdMem.rd (SubX (g + 1) (fun _ => False) (wz13.alloc (.cells #[.string (bstr mn), .int .i64 2, .slice none 0 0, .int .i64 xk, .string (bstr xv), .string (bstr xn), .slice q13 xs.length c13] 66)) (.slice qm accm.length cm)) (wz13.alloc (.cells #[.string (bstr mn), .int .i64 2, .slice none 0 0, .int .i64 xk, .string (bstr xv), .string (bstr xn), .slice q13 xs.length c13] 66)) (mn, 2, [], .mk xk xv xn xs) [.string (bstr mn), .int .i64 2, .slice none 0 0, .int .i64 xk, .string (bstr xv), .string (bstr xn), .slice q13 xs.length c13]) := kdMem.imp (fun b hb => ⟨by have := HNETM.out; have := hb.1; omega, Nat.lt_of_lt_of_le hb.2 hba.size, fun e => by have h1 := HBLm.out b e.symm; have := hb.1; have := HKBM.out; omega, fun h => h⟩) (kdMem.keep (fun b hb n => hba.cell (p := ⟨b, n, none⟩) hb.2) HX13.out)
          have HBS : Hid (g + 1 ≤ (wz13.alloc (.cells #[.string (bstr mn), .int .i64 2, .slice none 0 0, .int .i64 xk, .string (bstr xv), .string (bstr xn), .slice q13 xs.length c13] 66)).heap.size) := by show _ ≤ _; have := HTa.out.lt; omega
          obtain ⟨e0, f0, e1, f1, e2, f2, e3, f3, e4, f4, e5, f5, e6, f6⟩ := HM13.out.all7
          obtain ⟨t0, r0, t1, r1⟩ := HT13.out.all2
          go_wp2_with (at_builtin; refine app_row (K := kdMem) (x := (mn, 2, [], .mk xk xv xn xs)) rfl _ _ rfl rfl HRWa.out rfl HEa.out HXa.out HACm.out HBS.out (fun b h => h.elim) ?_)
          intro v20 w20 r20 g20 o20
          have HR20 := hiD (HRa.out.grown g20 (fun k hk => by have := o20 k hk; have := HBT.out; omega))
          have HT20 := hiD ((g20.block _ HTa.out.lt (fun e => absurd (o20 _ e.symm) (by omega))).trans HTa.out)
          have HK20 := hiD (HKa.out.grown g20 (fun k hk => by have := o20 k hk; have := HKBT.out; omega))
          have HRW20 := hiD r20
          obtain ⟨q20, c20, hv20⟩ := r20.form
          rw [List.length_append, List.length_singleton] at hv20
          subst hv20
          clear r20 g20 o20 hba HRWa HRa HTa HEa HXa HBS HKa HR13 HT13 HM13 HK13 HK613 HRWm HX13
          clear t0 t1 r0 r1
          clear e0 f0 e1 f1 e2 f2 e3 f3 e4 f4 e5 f5 e6 f6
          have HT20 : Hid (Arr w20 53 g [.string (bstr dn), .slice qm accm.length cm]) := HT20.out
          obtain ⟨e0, f0, e1, f1⟩ := HT20.out.all2
          have hwj := HWJ.out
          go_wp2_with fail
          clear e0 f0 e1 f1
          have HR21 := hiD (HR20.out.far (g := g) (i := 1) (.slice q20 (accm.length + 1) c20) (by have := HBT.out; omega))
          have HT21 : Hid (Arr (w20.setCell ⟨g, 1, none⟩ (.slice q20 (accm.length + 1) c20)) 53 g [.string (bstr dn), .slice q20 (accm.length + 1) c20]) := HT20.out.set 1 _
          have HRW21 := hiD (HRW20.out.box (g := g) (.inl (Nat.lt_succ_self _)) 1 (.slice q20 (accm.length + 1) c20))
          have HK21 := hiD (HK20.out.box (g := g) HKBT.out 1 (.slice q20 (accm.length + 1) c20))
          go_roundw
          case rel => exact ⟨j + 1, accm ++ [((mn, 2, [], .mk xk xv xn xs) : MemB)], (.go o13), (o13 : Int), 0, 0, lv13, q20, c20, HLTj.out, by go_num, by rw [List.length_append, HLENm.out]; rfl, by rw [List.length_append]; exact HRW21.out, by exact HR21.out, by rw [List.length_append]; exact HT21.out, HP13, HLV13, HK21, HEN13⟩
          case measure => first | exact meas HLTj.out (Nat.le_trans HDM.out (by decide)) | exact meas' HLTj.out
     ·have hlt' : ¬ (j : Int) < dm := by omega
      have HENm : Hid (loopE (memE b) (dm - 0) [] s9 lv6 = (accm, s10, lv10)) := by
       show _ = _
       rw [HED.out, show dm - j = 0 by omega]; rfl
      clear HED hlt
      have x0 := HRm.out.2.1.cell 0
      have y0 := HRm.out.2.1.free 0
      have x1 := HRm.out.2.1.cell 1
      have y1 := HRm.out.2.1.free 1
      have x2 := HRm.out.2.1.cell 2
      have y2 := HRm.out.2.1.free 2
      have x3 := HRm.out.2.1.cell 3
      have y3 := HRm.out.2.1.free 3
      have x4 := HRm.out.2.1.cell 4
      have y4 := HRm.out.2.1.free 4
      simp only [List.getElem?_cons_zero, List.getElem?_cons_succ] at x0 x1 x2 x3 x4
      go_upto_region 31 with (fail)
      clear x0 y0 x1 y1 x2 y2 x3 y3 x4 y4
      have HE8 : Hid (schE b = loopE (defE b) (n - (i + 1)) (acc ++ [((dn, accm) : DefB)]) s10 lv10) := by
       have h := HD0.out
       rw [HENm.out] at h
       show _ = _
       rw [HE7.out, h]
      clear HENm HE7 HD0
      have HRDm := hiD (PRow.rdK HRWm.out)
      have HRWo := hiD (HRW6.out.turn HKm.out.2.2.2.1 (fun b h1 h2 _ => HKm.out.2.2.2.2 b h2 (by omega)))
      clear HRW6 HRWm
      have hba : Below wm.heap.size wm (wm.alloc (.cells #[.string (bstr dn), .slice qm accm.length cm] 53)) := (Below.refl _ _).alloc (Nat.le_refl _) _
      have HRWa := hiD (HRWo.out.later hba)
      have HRa := hiD (HRm.out.later hba)
      have HEa : Hid (Arr (wm.alloc (.cells #[.string (bstr dn), .slice qm accm.length cm] 53)) 53 wm.heap.size [.string (bstr dn), .slice qm accm.length cm]) := Arr.new' _ _ _ _ rfl
      have HXm : rdDef (Bt (g + 1) wm.heap.size) wm (dn, accm) [.string (bstr dn), .slice qm accm.length cm] := ⟨_, rfl, HRDm.out⟩
      have HXa : Hid (kdDef.rd (SubX (W.heap.size + 3) (fun _ => False) (wm.alloc (.cells #[.string (bstr dn), .slice qm accm.length cm] 53)) (.slice q6 acc.length c6)) (wm.alloc (.cells #[.string (bstr dn), .slice qm accm.length cm] 53)) (dn, accm) [.string (bstr dn), .slice qm accm.length cm]) := kdDef.imp (fun b hb => ⟨by have := HG6.out.1; have := hb.1; omega, Nat.lt_of_lt_of_le hb.2 hba.size, fun e => by have h1 := HBLK.out b e.symm; have := hb.1; have := HG6.out.2; omega, fun h => h⟩) (kdDef.keep (fun b hb n => hba.cell (p := ⟨b, n, none⟩) hb.2) HXm)
      have HBS : Hid (W.heap.size + 3 ≤ (wm.alloc (.cells #[.string (bstr dn), .slice qm accm.length cm] 53)).heap.size) := by show _ ≤ _; have := HRa.out.2.2.1.lt; omega
      clear HXm
      have e0 := HRm.out.2.2.1.cell 0
      have f0 := HRm.out.2.2.1.free 0
      simp only [List.getElem?_cons_zero] at e0
      obtain ⟨t0, r0, t1, r1⟩ := HTm.out.all2
      go_wp2_with (at_builtin; refine app_row (K := kdDef) (x := (dn, accm)) rfl _ _ rfl rfl HRWa.out rfl HEa.out HXa.out HAC.out HBS.out (fun b h => h.elim) ?_)
      intro v30 w30 r30 g30 o30
      have HR30 := hiD (HRa.out.grown g30 (fun k hk => o30 k hk))
      have HRW30 := hiD r30
      obtain ⟨q30, c30, hv30⟩ := r30.form
      rw [List.length_append, List.length_singleton] at hv30
      subst hv30
      clear r30 g30 o30 hba HRWa HRa HEa HXa HBS HRm HTm HKm HRWo HRDm
      clear t0 t1 r0 r1 e0 f0
      have e0 := HR30.out.2.2.1.cell 0
      have f0 := HR30.out.2.2.1.free 0
      simp only [List.getElem?_cons_zero] at e0
      have hw := HW.out
      go_wp2_with fail
      clear e0 f0
      have HR31 := hiD (HR30.out.ce (i := 0) (.slice q30 (acc.length + 1) c30) (by decide))
      have HRW31 := hiD (HRW30.out.box (g := W.heap.size + 2) (.inl (by omega)) 0 (.slice q30 (acc.length + 1) c30))
      go_roundw
      case rel => exact ⟨i + 1, acc ++ [(dn, accm)], s10, ox10, cx10, ax10, lv10, q30, c30, HLT.out, by go_num, by rw [List.length_append, HLEN.out]; rfl, by rw [List.length_append]; exact HRW31.out, by rw [List.length_append]; exact HR31.out, HP10, HLV10, HE8⟩
      case measure => first | exact meas HLT.out (Nat.le_trans HNN.out (by decide)) | exact meas' HLT.out
  ·have hlt' : ¬ (i : Int) < n := by omega
   have HEN : Hid (schE b = (acc, s6, lv6)) := by
    show _ = _
    rw [HE6.out, show n - i = 0 by omega]; rfl
   clear HE6 hlt
   have x0 := HR6.out.2.1.cell 0
   have y0 := HR6.out.2.1.free 0
   have x1 := HR6.out.2.1.cell 1
   have y1 := HR6.out.2.1.free 1
   have x2 := HR6.out.2.1.cell 2
   have y2 := HR6.out.2.1.free 2
   have x3 := HR6.out.2.1.cell 3
   have y3 := HR6.out.2.1.free 3
   have x4 := HR6.out.2.1.cell 4
   have y4 := HR6.out.2.1.free 4
   simp only [List.getElem?_cons_zero, List.getElem?_cons_succ] at x0 x1 x2 x3 x4
   have HEE : Hid (parseSc b = (if (finC b s6).1 = 0 then acc else [], finC b s6)) := by
    have h := parseSc_ref b
    rw [HEN.out] at h
    exact h
   have HF := hiD (pFin0 (lv := lv6) (W := wr) (q := q) (cp := cp) HP6.out)
   obtain ⟨fc, hfc⟩ : ∃ x, x = (finC b s6).1 := ⟨_, rfl⟩
   obtain ⟨fa, hfa⟩ : ∃ x, x = (finC b s6).2 := ⟨_, rfl⟩
   rw [← hfc, ← hfa] at HF
   have HE1 : Hid (parseSc b = (if fc = 0 then acc else [], fc, fa)) := by rw [hfc, hfa]; exact HEE.out
   have HFZ := hiD HF.out.1
   have HFC := hiD HF.out.2
   clear hfc hfa HEE HEN HF
   go_wp2_with fail
   refine HFC.out.mono ?_
   rintro e w7 ⟨rfl, b7⟩
   have HR7 := hiD (HR6.out.later b7)
   have HW7 := hiD (HRW6.out.later b7)
   clear b7 HFC HR6 HRW6
   clear x0 y0 x1 y1 x2 y2 x3 y3 x4 y4
   have e0 := HR7.out.1.cell 0
   have f0 := HR7.out.1.free 0
   simp only [List.getElem?_cons_zero] at e0
   have t0 := HR7.out.2.2.1.cell 0
   have r0 := HR7.out.2.2.1.free 0
   simp only [List.getElem?_cons_zero] at t0
   by_cases hz : fc = 0
   ·have HE2 : Hid (parseSc b = (acc, 0, 0)) := by show _ = _; rw [HE1.out, if_pos hz, HFZ.out hz, hz]
    subst hz
    go_wp2_with fail
    have hA := HR7.out.cz (i := 0) (.slice q6 acc.length c6) (by decide)
    have hW := HW7.out.box (g := W.heap.size) (.inl (by omega)) 0 (.slice q6 acc.length c6)
    refine bodyPost_ret (resS3 rfl hA.1 rfl) rfl ?_
    rw [HE2.out]
    exact ⟨_, rfl, ⟨_, rfl, (rowK hW).imp fun b hb => ⟨by have := hb.1; omega, hb.2⟩⟩, hA.2.2.2⟩
   ·have HE2 : Hid (parseSc b = ([], fc, fa)) := by show _ = _; rw [HE1.out, if_neg hz]
    have hcx : ¬ (fc : Int) = 0 := by omega
    have hc2 : ((fc : Int) == 0) = false := by rw [beq_eq_false_iff_ne]; exact hcx
    have hc3 : ((fc : Int) != 0) = true := by rw [bne_iff_ne]; exact hcx
    go_wp2_with fail
    have hA := HR7.out.cz (i := 0) (.slice none 0 0) (by decide)
    refine bodyPost_ret (resS3 rfl hA.1 rfl) rfl ?_
    rw [HE2.out]
    exact ⟨_, rfl, ⟨_, rfl, none, 0, rfl, Nat.le_refl _, fun h => absurd h (Nat.lt_irrefl 0)⟩, hA.2.2.2⟩
def laidL : List (String × DataW Unit) := [("errors.errorType", Rows.laid_errors_errorType), ("vestry/name.reserved", Rows.laid_vestry_name_reserved)]

theorem own : ownKnob Tryz.prog.godebug = none := by kernel_rfl
theorem laidOut : laidOutB Tryz.prog = true := by kernel_rfl
theorem gErr : Tryz.prog.globalNamed "errors.errorType" = some 0 := by kernel_rfl
theorem gRes : Tryz.prog.globalNamed "vestry/name.reserved" = some 1 := by kernel_rfl
theorem tRes : (Tryz.prog.globals[1]?).map (·.type) = some 155 := by kernel_rfl
theorem rtyp : (Tryz.prog.cutTypes.find? (·.1 == "internal/reflectlite.rtype")).map (·.2) = some 157 := by kernel_rfl
theorem nTypes : ∃ n, Tryz.prog.types.size = n ∧ ((List.range n).filter fun t => Tryz.prog.rowNamed t [101, 114, 114, 111, 114]) = [28] := ⟨_, rfl, by kernel_rfl⟩
theorem errHandle : typeHandle Tryz.prog 28 = .pointer (some ⟨3, 28, none⟩) := by kernel_rfl
theorem cells9 : Tryz.prog.cellsOf 9 = 1 := by kernel_rfl

theorem door_met (os : Os) (args : Array Value) : laidMetH Tryz.prog laidL ((World.doorLaid Tryz.prog 400 os).forCall (fun _ _ => 0) ⟨#[], args, []⟩).memory :=
  laidMetH_of_parts3 (fuel := 8) (laidMet_of_run' 8 (by kernel_rfl) (by kernel_rfl)) (by kernel_rfl) (by kernel_rfl)

set_option maxRecDepth 100000 in
theorem env_of_laid {W : World} (h : laidMetH Tryz.prog laidL W)  : Env W := by
  have h' : laidMet Tryz.prog [("vestry/name.reserved", Rows.laid_vestry_name_reserved)] W ∧ handlesMet Tryz.prog [("errors.errorType", Rows.laid_errors_errorType)] W := h
  obtain ⟨h1, h2⟩ := h'
  refine ⟨?_, ?_⟩
  · obtain ⟨ps, ⟨g0, t0, cs0, f0, p0, q0, hg0, ht0, hv0, hd0, _, _⟩, _, _⟩ := h1
    obtain rfl := Option.some.inj (gRes.symm.trans hg0)
    obtain rfl := Option.some.inj (tRes.symm.trans ht0)
    obtain ⟨xs, m1, rfl, hx1, hlen, hn3, hel⟩ := DataW.trod_array Tryz.underlying155 hd0
    have e0 := hel 0 (by decide)
    have e1 := hel 1 (by decide)
    have e2 := hel 2 (by decide)
    rw [cells9] at e0 e1 e2
    simp only [Prod.mk.injEq, Rows.laid_vestry_name_reserved, DataW.agg.injEq] at hx1
    match xs, hn3, hx1, e0, e1, e2 with
    | [x0, x1, x2], _, hx1, e0, e1, e2 =>
      simp only [List.map_cons, List.map_nil, List.cons.injEq] at hx1
      obtain ⟨s0, a0, b0, _⟩ := DataW.trod_string Tryz.underlying9 (show DataW.trod _ Tryz.prog W 0 _ false m1 9 _ = some x0 from e0)
      obtain ⟨s1, a1, b1, _⟩ := DataW.trod_string Tryz.underlying9 (show DataW.trod _ Tryz.prog W 0 _ false m1 9 _ = some x1 from e1)
      obtain ⟨s2, a2, b2, _⟩ := DataW.trod_string Tryz.underlying9 (show DataW.trod _ Tryz.prog W 0 _ false m1 9 _ = some x2 from e2)
      rw [b0, b1, b2] at hx1
      simp at hx1
      obtain ⟨⟨y0, y1, y2⟩, _⟩ := hx1
      have z0 : s0 = wDef := bytes_inj y0.symm
      have z1 : s1 = wRel := bytes_inj y1.symm
      have z2 : s2 = wPerm := bytes_inj y2.symm
      subst z0 z1 z2
      have v0 := World.var?_cell hg0 hv0 0
      have v1 := World.var?_cell hg0 hv0 1
      have v2 := World.var?_cell hg0 hv0 2
      obtain ⟨l⟩ := cs0
      match l, a0, a1, a2 with
      | [c0, c1, c2], a0, a1, a2 =>
        simp at a0 a1 a2
        subst a0 a1 a2
        exact ⟨by simpa using v0, by simpa using v1, by simpa using v2⟩
  · obtain ⟨name, u, ty, k1, k2, k3, k4, k5⟩ := h2 _ (List.mem_singleton.2 rfl)
    have en : name = [101, 114, 114, 111, 114] := (Option.some.inj k1).symm
    subst en
    obtain rfl := Option.some.inj (rtyp.symm.trans k2)
    obtain ⟨n, hn, hone⟩ := nTypes
    have hm : ty ∈ (List.range n).filter fun t => Tryz.prog.rowNamed t [101, 114, 114, 111, 114] := List.mem_filter.2 ⟨List.mem_range.2 (by rw [← hn]; exact k3), k4⟩
    rw [hone] at hm
    obtain rfl := List.mem_singleton.1 hm
    rw [errHandle] at k5
    have k6 := World.var?_cell gErr k5 0
    show errAs.ErrT W
    unfold errAs.ErrT
    simpa using k6

section
variable {H : Type} {enc : TypeId × Value → H}
theorem wrap_and {a : Assume} {C : Checked} {os : Os} {f : FuncId} {fn : Func} {s : ChangeSpec} {conds : List PathCond} {apart fresh handsOn again : Bool} {X : World → Array Value → Prop}
    (hX : ∀ (w w' : World) (args : Array Value), w.heap = w'.heap → X w args → X w' args)
    (own : ownKnob C.prog.godebug = none) (started : os.Started) (noInit : C.prog.inits.idxOf? f = none) (hfn : C.prog.funcs[f]? = some fn)
    (witness : ∃ (w : World) (tape : Tape) (i : Input), w.os = os ∧ (w.forCall tape i).Shaped C.prog ∧ i.vars = [] ∧ Input.okWide C.prog (w.forCall tape i) .any w.heap.size f i ∧
      ((s.pre enc C.prog fn conds apart (w.forCall tape i).memory i.args ∧ X (w.forCall tape i).memory i.args) ∧ sizedMet enc C.prog fn (OpenSpec.ofChange s) apart (w.forCall tape i).memory i.args) ∧ a.holds C.prog (lone (Frame.enter C.prog f i.args .normal) [] (w.forCall tape i)))
    (contract : ∀ (W : World) (base : Nat) (args : Array Value) (ds gs : List (DataW H)) (before : List MemPlace),
      (∀ (j : Nat) t v, fn.params[j]? = some t → args[j]? = some v → Value.okWide C.prog W .any base t v) →
      DataW.Whole enc C.prog fn.params.toList s.vars apart W args.toList ds gs before →
      W.ShapedOpen C.prog → X W args →
      Calls C.prog f args W fun e W' => ∃ v, e = .returned v ∧ s.post enc C.prog fn apart fresh handsOn again W args v W') :
    ReturnsInHanded a C os f .any (fun w args => (s.pre enc C.prog fn conds apart w args ∧ X w args) ∧ sizedMet enc C.prog fn (OpenSpec.ofChange s) apart w args) (s.post enc C.prog fn apart fresh handsOn again) := by
  refine returnsInHanded_of_calls own started noInit witness ?_
  intro w tape i _ hsh _ hok hpre _
  obtain ⟨_, _, _, fn', hfn', _, _, _, _, hval⟩ := hok
  have e : fn' = fn := Option.some.inj (hfn'.symm.trans hfn)
  subst e
  obtain ⟨⟨⟨ds, gs, before, hw, _⟩, hx⟩, _⟩ := hpre
  have hw' := DataW.Whole.of_heap (w' := w.forCall tape i) (by rfl) hw
  refine (contract (w.forCall tape i) w.heap.size i.args ds gs before hval hw' hsh (hX _ _ _ (by rfl) hx)).mono fun e W' ⟨v, he, hp⟩ => ?_
  subst he
  exact ChangeSpec.post_blind hp
theorem wrap_sized {a : Assume} {C : Checked} {os : Os} {f : FuncId} {fn : Func} {s : ChangeSpec} {conds : List PathCond} {apart fresh handsOn again : Bool} {X : World → Array Value → Prop}
    (hX : ∀ (w w' : World) (args : Array Value), w.heap = w'.heap → X w args → X w' args)
    (own : ownKnob C.prog.godebug = none) (started : os.Started) (noInit : C.prog.inits.idxOf? f = none) (hfn : C.prog.funcs[f]? = some fn)
    (witness : ∃ (w : World) (tape : Tape) (i : Input), w.os = os ∧ (w.forCall tape i).Shaped C.prog ∧ i.vars = [] ∧ Input.okWide C.prog (w.forCall tape i) .any w.heap.size f i ∧
      ((s.pre enc C.prog fn conds apart (w.forCall tape i).memory i.args ∧ X (w.forCall tape i).memory i.args) ∧ sizedMet enc C.prog fn (OpenSpec.ofChange s) apart (w.forCall tape i).memory i.args) ∧ a.holds C.prog (lone (Frame.enter C.prog f i.args .normal) [] (w.forCall tape i)))
    (contract : ∀ (W : World) (base : Nat) (args : Array Value) (ds gs : List (DataW H)) (before : List MemPlace),
      (∀ (j : Nat) t v, fn.params[j]? = some t → args[j]? = some v → Value.okWide C.prog W .any base t v) →
      DataW.Whole enc C.prog fn.params.toList s.vars apart W args.toList ds gs before →
      W.ShapedOpen C.prog → X W args →
      (DataW.weightsEach C.prog (fn.params.toList ++ (OpenSpec.ofChange s).bare.plain.varTypes C.prog) (ds ++ gs)).all (· ≤ reachBytes) = true →
      Calls C.prog f args W fun e W' => ∃ v, e = .returned v ∧ s.post enc C.prog fn apart fresh handsOn again W args v W') :
    ReturnsInHanded a C os f .any (fun w args => (s.pre enc C.prog fn conds apart w args ∧ X w args) ∧ sizedMet enc C.prog fn (OpenSpec.ofChange s) apart w args) (s.post enc C.prog fn apart fresh handsOn again) := by
  refine returnsInHanded_of_calls own started noInit witness ?_
  intro w tape i _ hsh _ hok hpre _
  obtain ⟨_, _, _, fn', hfn', _, _, _, _, hval⟩ := hok
  have e : fn' = fn := Option.some.inj (hfn'.symm.trans hfn)
  subst e
  obtain ⟨⟨⟨ds, gs, before, hw, _⟩, hx⟩, hz⟩ := hpre
  have hw' := DataW.Whole.of_heap (w' := w.forCall tape i) (by rfl) hw
  refine (contract (w.forCall tape i) w.heap.size i.args ds gs before hval hw' hsh (hX _ _ _ (by rfl) hx) (hz.weights hw)).mono fun e W' ⟨v, he, hp⟩ => ?_
  subst he
  exact ChangeSpec.post_blind hp
end
end Go.Proofs.YtdnmgemjhpkekaaGreatDoor

