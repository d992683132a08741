/-
  print.member of what was read: its line.
-/
import Derived.Test.YtkildckeikedhaaGreatDoorMr8
import Derived.Test.YtkildckeikedhaaGreatDoorMr2
import Derived.Test.YtkildckeikedhaaGreatDoorMr0
import Derived.Shelf.Strings.BuilderK
import Derived.Lib.OthersKept
import Derived.Lib.Hide
import Derived.Laws.EntriesVeiled
import Derived.Test.YtkildckeikedhaaGreatDoorMr7
namespace Go.Proofs.YtkildckeikedhaaGreatDoor
open Go.ChangeShapes Go.WideShapes Go.ChangeAt Go.RowKit
set_option linter.unusedVariables false

theorem typesT_join : ∀ l : List AlB, typesT l = Lib.join (l.map allT) [32, 124, 32]
 | [] => rfl
 | a :: r => by
  rw [List.map_cons, Lib.join_cons]
  unfold typesT Lib.joinTail
  rw [List.map_map]
  rfl
set_option maxRecDepth 100000 in
set_option maxHeartbeats 2000000 in
theorem nallT_any (a : AlB) (hg : GoodA a) (w : World) (h : ResT w) : Calls Tryz.prog 43 #[.agg #[.string (bstr a.1), .string (bstr a.2)]] w fun e w' => e = .returned (.tuple #[.string (bstr (allT a)), .bool true]) ∧ Below w.heap.size w w' := by
 obtain ⟨t, r⟩ := a
 obtain ⟨tn, htn⟩ : ∃ x, x = bstr t := ⟨_, rfl⟩
 have g1 : (tn.size : Int) ≤ 100 := by have : t.length ≤ 64 := name_len hg.1; rw [htn, bstr_size]; omega
 have hn1 : isName tn = true := by rw [htn]; exact hg.1
 show Calls _ _ #[.agg #[.string (bstr t), .string (bstr r)]] w _
 by_cases hz : r = []
 ·have HA : Hid (bstr (allT (t, r)) = tn) := by show bstr (allT (t, r)) = tn; rw [htn]; unfold allT; rw [if_pos hz]
  rw [hz, show bstr [] = (⟨#[]⟩ : ByteArray) from rfl, ← htn]
  rw [hz] at HA
  have hb0 : Below w.heap.size w (w.alloc (.cells #[.string tn, .string ⟨#[]⟩] 42)) := (Below.refl _ _).alloc (Nat.le_refl _) _
  have HB0 := hiD hb0
  have HX0 : Hid (Arr (w.alloc (.cells #[.string tn, .string ⟨#[]⟩] 42)) 42 w.heap.size [.string tn, .string ⟨#[]⟩]) := Arr.new' _ _ _ _ rfl
  have HN := hiD (isName_at tn hn1 _ (h.below hb0 h.lt))
  clear hg hz htn h hb0 hn1
  go_enter Tryz.func43, Tryz.ntmps43
  go_wp2_with fail
  refine HN.out.mono ?_
  rintro e w1 ⟨rfl, b1⟩
  have HB := hiD (HB0.out.trans (b1.mono HB0.out.size))
  have HX := hiD (HX0.out.later b1)
  clear b1 HB0 HX0
  obtain ⟨x0, y0, x1, y1⟩ := HX.out.all2
  go_wp2_with fail
  refine bodyPost_ret (v := .tuple #[.string tn, .bool true]) ?_ rfl ⟨by rw [HA.out], HB.out⟩
  simp [results, Tryz.results43, go_sem]
 ·obtain ⟨rn, hrn⟩ : ∃ x, x = bstr r := ⟨_, rfl⟩
  have hn := hg.2.resolve_left hz
  have hn2 : isName rn = true := by rw [hrn]; exact hn
  have g2 : (rn.size : Int) ≤ 100 := by have : r.length ≤ 64 := name_len hn; rw [hrn, bstr_size]; omega
  have HA : Hid (bstr (allT (t, r)) = tn ++ ⟨#[35]⟩ ++ rn) := by
   show bstr (allT (t, r)) = _
   rw [htn, hrn, show (⟨#[35]⟩ : ByteArray) = bstr [35] from rfl, bstr_app, bstr_app]
   unfold allT
   rw [if_neg hz]
   show bstr (t ++ 35 :: r) = bstr (t ++ [35] ++ r)
   rw [List.append_assoc]
   rfl
  obtain ⟨hne, hne2⟩ := isName_ne hn
  rw [← hrn] at hne hne2 ⊢
  rw [← htn]
  have hb0 : Below w.heap.size w (w.alloc (.cells #[.string tn, .string rn] 42)) := (Below.refl _ _).alloc (Nat.le_refl _) _
  have HB0 := hiD hb0
  have HX0 : Hid (Arr (w.alloc (.cells #[.string tn, .string rn] 42)) 42 w.heap.size [.string tn, .string rn]) := Arr.new' _ _ _ _ rfl
  have HR0 : Hid (ResT (w.alloc (.cells #[.string tn, .string rn] 42))) := h.below hb0 h.lt
  have HN := hiD (isName_at tn hn1 _ HR0.out)
  have HN2 := hiD hn2
  clear hg hz htn hrn hn h hb0 hn1 hn2
  go_enter Tryz.func43, Tryz.ntmps43
  go_wp2_with fail
  refine HN.out.mono ?_
  rintro e w1 ⟨rfl, b1⟩
  have HB := hiD (HB0.out.trans (b1.mono HB0.out.size))
  have HX := hiD (HX0.out.later b1)
  have HR : Hid (ResT w1) := HR0.out.below b1 HR0.out.lt
  have HM := hiD (isName_at rn HN2.out w1 HR.out)
  clear b1 HB0 HX0 HR0
  obtain ⟨x0, y0, x1, y1⟩ := HX.out.all2
  go_wp2_with fail
  refine HM.out.mono ?_
  rintro e w2 ⟨rfl, b2⟩
  clear x0 y0 x1 y1
  have HX := hiD (HX.out.later b2)
  have HB := hiD (HB.out.trans (b2.mono HB.out.size))
  clear b2
  obtain ⟨x0, y0, x1, y1⟩ := HX.out.all2
  go_wp2_with fail
  refine bodyPost_ret (v := .tuple #[.string (tn ++ ⟨#[35]⟩ ++ rn), .bool true]) ?_ rfl ⟨by rw [HA.out], HB.out⟩
  simp [results, Tryz.results43, go_sem]
set_option maxRecDepth 100000 in
set_option maxHeartbeats 2000000 in
theorem pmemT_perm {mk : Int} {mv mn n : List UInt8} {ms : List Ex} {tn : ByteArray} {qa q4 : Option Addr} {ca c4 : Nat} {P : Nat → Prop} {w : World} (hn : isName (bstr n) = true) (htn : tn = bstr n) (h1 : RdE P w (.mk mk mv mn ms) (.agg #[.int .i64 mk, .string (bstr mv), .string (bstr mn), .slice q4 ms.length c4])) (hP : ∀ b, P b → b < w.heap.size) (hg : FineE (.mk mk mv mn ms)) (hr : ResT w) :
  Calls Tryz.prog 24 #[.agg #[.string tn, .int .i64 2, .slice qa 0 ca, .int .i64 mk, .string (bstr mv), .string (bstr mn), .slice q4 ms.length c4]] w fun e w' => e = .returned (.string (bstr (memT (n, 2, [], .mk mk mv mn ms)))) ∧ Below w.heap.size w w' := by
 have hb0 : Below w.heap.size w (w.alloc (.cells #[.string tn, .int .i64 2, .slice qa 0 ca, .int .i64 mk, .string (bstr mv), .string (bstr mn), .slice q4 ms.length c4] 48)) := (Below.refl _ _).alloc (Nat.le_refl _) _
 have HB := hiD hb0
 have HX : Hid (Arr (w.alloc (.cells #[.string tn, .int .i64 2, .slice qa 0 ca, .int .i64 mk, .string (bstr mv), .string (bstr mn), .slice q4 ms.length c4] 48)) 48 w.heap.size [.string tn, .int .i64 2, .slice qa 0 ca, .int .i64 mk, .string (bstr mv), .string (bstr mn), .slice q4 ms.length c4]) := Arr.new' _ _ _ _ rfl
 obtain ⟨te, hte⟩ : ∃ x, x = bstr (textE (.mk mk mv mn ms)) := ⟨_, rfl⟩
 have g1 : (tn.size : Int) ≤ 100 := by have := name_len hn; rw [htn, bstr_size]; omega
 have g2 : (te.size : Int) ≤ 10000 := by have := (fine_w hg).2; rw [hte, bstr_size]; omega
 have HMT : Hid (bstr (memT (n, 2, [], .mk mk mv mn ms)) = ⟨#[112, 101, 114, 109, 105, 115, 115, 105, 111, 110, 32]⟩ ++ tn ++ ⟨#[32, 61, 32]⟩ ++ te ++ ⟨#[59]⟩) := by
  show bstr _ = _
  rw [htn, hte, show (⟨#[112, 101, 114, 109, 105, 115, 115, 105, 111, 110, 32]⟩ : ByteArray) = bstr permS from rfl, show (⟨#[32, 61, 32]⟩ : ByteArray) = bstr [32, 61, 32] from rfl, show (⟨#[59]⟩ : ByteArray) = bstr [59] from rfl, bstr_app, bstr_app, bstr_app, bstr_app]
  unfold memT
  rw [if_pos rfl]
 have HTX : Hid (∀ w', Below (w.alloc (.cells #[.string tn, .int .i64 2, .slice qa 0 ca, .int .i64 mk, .string (bstr mv), .string (bstr mn), .slice q4 ms.length c4] 48)).heap.size (w.alloc (.cells #[.string tn, .int .i64 2, .slice qa 0 ca, .int .i64 mk, .string (bstr mv), .string (bstr mn), .slice q4 ms.length c4] 48)) w' → Calls Tryz.prog 42 #[.agg #[.int .i64 mk, .string (bstr mv), .string (bstr mn), .slice q4 ms.length c4]] w' fun r w'' => r = .returned (.string te) ∧ Below w'.heap.size w' w'') := by
  show ∀ w', _
  intro w' hw
  have h := etext_any (.mk mk mv mn ms) _ P w' (Nat.le_trans hg.2.2 (by decide)) (Nat.le_trans (fine_w hg).1 (by decide)) ((h1.below hb0 hP).below hw (lt_keep hb0 hP)) (lt_keep hw (lt_keep hb0 hP)) ((hr.below hb0 hr.lt).below hw (hr.below hb0 hr.lt).lt)
  rw [if_pos hg.1] at h
  rw [hte]
  exact h
 clear hb0 h1 hP hg hn htn hte hr
 go_enter Tryz.func24, Tryz.ntmps24
 go_upto_region 1 with (fail)
 generalize (w.alloc (.cells #[.string tn, .int .i64 2, .slice qa 0 ca, .int .i64 mk, .string (bstr mv), .string (bstr mn), .slice q4 ms.length c4] 48)) = w0 at HX HB HTX ⊢
 obtain ⟨x0, y0, x1, y1, x2, y2, x3, y3, x4, y4, x5, y5, x6, y6⟩ := HX.out.all7
 go_upto_region 2 with (fail)
 clear x0 y0 x1 y1 x2 y2 x3 y3 x4 y4 x5 y5 x6 y6
 have HX := hiD (HX.out.later (Below.refl w0.heap.size w0).drew)
 refine wp_region_held_drew (S := fun W' => Arr W' 48 w.heap.size [.string tn, .int .i64 2, .slice qa 0 ca, .int .i64 mk, .string (bstr mv), .string (bstr mn), .slice q4 ms.length c4]) (by kernel_rfl) HX.out (fun hHeld => ?_)
 try simp only [Act.put]
 have HB := hiD (HB.out.trans ((Below.refl w0.heap.size w0).drew.mono HB.out.size))
 have HTX := hiD (HTX.out w0.drew (Below.refl _ _).drew)
 generalize w0.drew = w3 at hHeld HX HB HTX ⊢
 refine wpAnyH_take (i := 0) (oi := ⟨some 11, _, _, _, _, _⟩) (v := .pointer (some ⟨w.heap.size, 0, none⟩)) rfl (by kernel_rfl) (by kernel_rfl) (by kernel_rfl) (fun _ _ _ h => h) (.inl ⟨by rfl, fun w' hSw => ?_⟩) hHeld ?_
 focus (skip; clear hHeld; go_simp)
 try simp only [Act.put, pz0, pz1, pz2]
 refine wpAnyH_take (i := 1) (oi := ⟨some 12, _, _, _, _, _⟩) (v := .string tn) rfl (by kernel_rfl) (by kernel_rfl) (by kernel_rfl) (fun _ _ _ h => h) (.inl ⟨by rfl, fun w' hSw => ?_⟩) hHeld ?_
 focus (have q0 := hSw.cell 0; have q1 := hSw.cell 1; have q2 := hSw.cell 2; have q3 := hSw.cell 3; have q4 := hSw.cell 4; have q5 := hSw.cell 5; have q6 := hSw.cell 6; simp only [List.getElem?_cons_zero, List.getElem?_cons_succ] at q0 q1 q2 q3 q4 q5 q6; clear hHeld; go_simp)
 try simp only [Act.put, pz0, pz1, pz2]
 refine wpAnyH_take (i := 2) (oi := ⟨some 13, _, _, _, _, _⟩) (v := .string (⟨#[112, 101, 114, 109, 105, 115, 115, 105, 111, 110, 32]⟩ ++ tn)) rfl (by kernel_rfl) (by kernel_rfl) (by kernel_rfl) (fun _ _ _ h => h) (.inl ⟨by rfl, fun w' hSw => ?_⟩) hHeld ?_
 focus (skip; clear hHeld; go_simp; omega)
 try simp only [Act.put, pz0, pz1, pz2]
 refine wpAnyH_take (i := 3) (oi := ⟨some 14, _, _, _, _, _⟩) (v := .string ((⟨#[112, 101, 114, 109, 105, 115, 115, 105, 111, 110, 32]⟩ ++ tn) ++ ⟨#[32, 61, 32]⟩)) rfl (by kernel_rfl) (by kernel_rfl) (by kernel_rfl) (fun _ _ _ h => h) (.inl ⟨by rfl, fun w' hSw => ?_⟩) hHeld ?_
 focus (skip; clear hHeld; go_simp; omega)
 try simp only [Act.put, pz0, pz1, pz2]
 refine wpAnyH_take (i := 4) (oi := ⟨some 15, _, _, _, _, _⟩) (v := .pointer (some ⟨w.heap.size, 3, none⟩)) rfl (by kernel_rfl) (by kernel_rfl) (by kernel_rfl) (fun _ _ _ h => h) (.inl ⟨by rfl, fun w' hSw => ?_⟩) hHeld ?_
 focus (skip; clear hHeld; go_simp)
 try simp only [Act.put, pz0, pz1, pz2]
 refine wpAnyH_take (i := 5) (oi := ⟨some 16, _, _, _, _, _⟩) (v := .agg #[.int .i64 mk, .string (bstr mv), .string (bstr mn), .slice q4 ms.length c4]) rfl (by kernel_rfl) (by kernel_rfl) (by kernel_rfl) (fun _ _ _ h => h) (.inl ⟨by rfl, fun w' hSw => ?_⟩) hHeld ?_
 focus (have q0 := hSw.cell 0; have q1 := hSw.cell 1; have q2 := hSw.cell 2; have q3 := hSw.cell 3; have q4 := hSw.cell 4; have q5 := hSw.cell 5; have q6 := hSw.cell 6; simp only [List.getElem?_cons_zero, List.getElem?_cons_succ] at q0 q1 q2 q3 q4 q5 q6; clear hHeld; go_simp)
 try simp only [Act.put, pz0, pz1, pz2]
 refine wpAnyH_ready (rs := [6]) (by kernel_rfl) (by simp) ?_
 refine AllReadyH.cons (o := ⟨some 17, _, _, _, _, _⟩) rfl (fun K' hK' => ?_) AllReadyH.nil
 refine stepw_call (R := fun v w' => v = .string te ∧ Below w3.heap.size w3 w') (by rfl) ?_ (HTX.out.mono fun r w' ⟨h1, h2⟩ => ⟨_, h1, rfl, h2⟩) ?_
 focus go_simp
 rintro v wn ⟨rfl, bn⟩
 have hkn := hHeld.later bn
 clear hHeld
 have HB := hiD (HB.out.trans (bn.mono HB.out.size))
 clear bn
 refine hK'.out _ _ hkn (fun hHeld => ?_)
 clear hK' K' hkn
 try simp only [Act.put, pz0, pz1, pz2]
 refine wpAnyH_take (i := 7) (oi := ⟨some 18, _, _, _, _, _⟩) (v := .string (((⟨#[112, 101, 114, 109, 105, 115, 115, 105, 111, 110, 32]⟩ ++ tn) ++ ⟨#[32, 61, 32]⟩) ++ te)) rfl (by kernel_rfl) (by kernel_rfl) (by kernel_rfl) (fun _ _ _ h => h) (.inl ⟨by rfl, fun w' hSw => ?_⟩) hHeld ?_
 focus (skip; clear hHeld; go_simp; omega)
 try simp only [Act.put, pz0, pz1, pz2]
 refine wpAnyH_take (i := 8) (oi := ⟨some 19, _, _, _, _, _⟩) (v := .string ((((⟨#[112, 101, 114, 109, 105, 115, 115, 105, 111, 110, 32]⟩ ++ tn) ++ ⟨#[32, 61, 32]⟩) ++ te) ++ ⟨#[59]⟩)) rfl (by kernel_rfl) (by kernel_rfl) (by kernel_rfl) (fun _ _ _ h => h) (.inl ⟨by rfl, fun w' hSw => ?_⟩) hHeld ?_
 focus (skip; clear hHeld; go_simp; omega)
 try simp only [Act.put, pz0, pz1, pz2]
 refine wpAnyH_take (i := 9) (oi := ⟨some 2, _, _, _, _, _⟩) (v := .string ((((⟨#[112, 101, 114, 109, 105, 115, 115, 105, 111, 110, 32]⟩ ++ tn) ++ ⟨#[32, 61, 32]⟩) ++ te) ++ ⟨#[59]⟩)) rfl (by kernel_rfl) (by kernel_rfl) (by kernel_rfl) (fun _ _ _ h => h) (.inl ⟨by rfl, fun w' hSw => ?_⟩) hHeld ?_
 focus (skip; clear hHeld; go_simp)
 try simp only [Act.put, pz0, pz1, pz2]
 refine wpAnyH_done (by kernel_rfl) ?_ _
 clear hHeld
 go_wp2_with fail
 go_ret
 exact ⟨by rw [HMT.out]; rfl, HB.out⟩
set_option maxRecDepth 100000 in
set_option maxHeartbeats 2000000 in
theorem pmemT_rel {n : List UInt8} {ls : List AlB} {tn : ByteArray} {qa q4 : Option Addr} {ca c4 : Nat} {P : Nat → Prop} {w : World} (hn : isName (bstr n) = true) (htn : tn = bstr n) (h1 : RdA P w ls (.slice qa ls.length ca)) (hP : ∀ b, P b → b < w.heap.size) (ha : ∀ a ∈ ls, GoodA a) (hl : ls.length ≤ 32) (hr : ResT w) :
  Calls Tryz.prog 24 #[.agg #[.string tn, .int .i64 1, .slice qa ls.length ca, .int .i64 0, .string ⟨#[]⟩, .string ⟨#[]⟩, .slice q4 0 c4]] w fun e w' => e = .returned (.string (bstr (memT (n, 1, ls, ex0)))) ∧ Below w.heap.size w w' := by
 have hb0 : Below w.heap.size w (w.alloc (.cells #[.string tn, .int .i64 1, .slice qa ls.length ca, .int .i64 0, .string ⟨#[]⟩, .string ⟨#[]⟩, .slice q4 0 c4] 48)) := (Below.refl _ _).alloc (Nat.le_refl _) _
 have HB := hiD hb0
 have HX : Hid (Arr (w.alloc (.cells #[.string tn, .int .i64 1, .slice qa ls.length ca, .int .i64 0, .string ⟨#[]⟩, .string ⟨#[]⟩, .slice q4 0 c4] 48)) 48 w.heap.size [.string tn, .int .i64 1, .slice qa ls.length ca, .int .i64 0, .string ⟨#[]⟩, .string ⟨#[]⟩, .slice q4 0 c4]) := Arr.new' _ _ _ _ rfl
 have H1 := hiD (rdA_keep h1 hb0 hP)
 have HP := hiD (lt_keep hb0 hP)
 have HG := hiD ha
 have HR0 : Hid (ResT (w.alloc (.cells #[.string tn, .int .i64 1, .slice qa ls.length ca, .int .i64 0, .string ⟨#[]⟩, .string ⟨#[]⟩, .slice q4 0 c4] 48))) := hr.below hb0 hr.lt
 have g1 : (tn.size : Int) ≤ 100 := by have := name_len hn; rw [htn, bstr_size]; omega
 have HTN := hiD htn
 have HNL := hiD (name_len hn)
 have HBE : Hid ((w.alloc (.cells #[.string tn, .int .i64 1, .slice qa ls.length ca, .int .i64 0, .string ⟨#[]⟩, .string ⟨#[]⟩, .slice q4 0 c4] 48)).heap.size = w.heap.size + 1) := by show _ = _; simp
 have hz : (ls.length : Int) ≤ 32 := by omega
 clear hb0 h1 hP ha hn htn hl hr
 go_enter Tryz.func24, Tryz.ntmps24
 go_upto_region 1 with (fail)
 generalize (w.alloc (.cells #[.string tn, .int .i64 1, .slice qa ls.length ca, .int .i64 0, .string ⟨#[]⟩, .string ⟨#[]⟩, .slice q4 0 c4] 48)) = w0 at HX HB H1 HP HR0 HBE ⊢
 obtain ⟨x0, y0, x1, y1, x2, y2, x3, y3, x4, y4, x5, y5, x6, y6⟩ := HX.out.all7
 go_wp2_with fail
 clear x0 y0 x1 y1 x2 y2 x3 y3 x4 y4 x5 y5 x6 y6
 go_loopw [3, 23] (fun rv iv wr => ∃ (i : Nat) (q5 : Option Addr) (c5 : Nat), i ≤ ls.length ∧ iv = .int .i64 i ∧ rv = .slice q5 i c5 ∧ Hid (StrRow (w.heap.size + 1) wr (.slice q5 i c5) ((ls.map allT).take i)) ∧ Hid (Arr wr 48 w.heap.size [.string tn, .int .i64 1, .slice qa ls.length ca, .int .i64 0, .string ⟨#[]⟩, .string ⟨#[]⟩, .slice q4 0 c4]) ∧ Hid (Below w0.heap.size w0 wr) ∧ Hid (Below w.heap.size w wr)) (fun _ iv _ => ls.length - (intOf iv).toNat)
 case atStart => exact ⟨0, none, 0, Nat.zero_le _, rfl, rfl, World.ownsRow_nil _ _ _ _, HX.out, Below.refl _ _, HB.out⟩
 case round =>
  obtain ⟨i, q5, c5, hi, rfl, rfl, HRW, HX, HK, HB⟩ := hrel
  have hi0 : (0 : Int) ≤ i := by omega
  by_cases hlt : i < ls.length
  ·have hi1 : (i : Int) < ls.length := by omega
   obtain ⟨b, o, rfl, hb, x0, x1⟩ := H1.out.at hlt
   obtain ⟨a, hx⟩ : ∃ a, ls[i]? = some a := ⟨_, List.getElem?_eq_getElem hlt⟩
   have hgd : ls.getD i ([], []) = a := by rw [List.getD_eq_getElem?_getD, hx]; rfl
   rw [hgd] at x0 x1
   have hga := HG.out a (List.mem_of_getElem? hx)
   have a0 := (HK.out.cell (p := ⟨b, _, none⟩) (HP.out b hb)).trans x0
   have a1 := (HK.out.cell (p := ⟨b, _, none⟩) (HP.out b hb)).trans x1
   have hb5 : Below wr.heap.size wr (wr.alloc (.cells #[.string (bstr a.1), .string (bstr a.2)] 42)) := (Below.refl _ _).alloc (Nat.le_refl _) _
   have HZ5 : Hid (Arr (wr.alloc (.cells #[.string (bstr a.1), .string (bstr a.2)] 42)) 42 wr.heap.size [.string (bstr a.1), .string (bstr a.2)]) := Arr.new' _ _ _ _ rfl
   have HNA := hiD (nallT_any a hga (wr.alloc (.cells #[.string (bstr a.1), .string (bstr a.2)] 42)) ((HR0.out.below HK.out HR0.out.lt).below hb5 (HR0.out.below HK.out HR0.out.lt).lt))
   have HTK : Hid ((ls.map allT).take (i + 1) = (ls.map allT).take i ++ [allT a]) := by
    show _ = _
    rw [List.take_succ_eq_append_getElem (by rw [List.length_map]; exact hlt), List.getElem_map, (List.getElem?_eq_some_iff.1 hx).2]
   have HRW := hiD (HRW.out.later hb5)
   have HX := hiD (HX.out.later hb5)
   have HK := hiD (HK.out.trans (hb5.mono HK.out.size))
   have HB := hiD (HB.out.trans (hb5.mono HB.out.size))
   go_upto_region 7 with (fail)
   clear x0 x1 a0 a1 hb hx hgd hga hb5 hlt
   generalize wr.alloc (.cells #[.string (bstr a.1), .string (bstr a.2)] 42) = w5 at HZ5 HNA HRW HX HK HB ⊢
   obtain ⟨u0, v0, u1, v1⟩ := HZ5.out.all2
   go_wp2_with fail
   refine HNA.out.mono ?_
   rintro e w6 ⟨rfl, b6⟩
   clear u0 v0 u1 v1
   have HRW := hiD (HRW.out.later b6)
   have HX := hiD (HX.out.later b6)
   have HK := hiD (HK.out.trans (b6.mono HK.out.size))
   have HB := hiD (HB.out.trans (b6.mono HB.out.size))
   clear b6
   have hb7 : Below w6.heap.size w6 (w6.alloc (.cells #[.string (bstr (allT a))] 9)) := (Below.refl _ _).alloc (Nat.le_refl _) _
   have HRW := hiD (HRW.out.later hb7)
   have HX := hiD (HX.out.later hb7)
   have HK := hiD (HK.out.trans (hb7.mono HK.out.size))
   have HB := hiD (HB.out.trans (hb7.mono HB.out.size))
   have HS7 : Hid (Arr (w6.alloc (.cells #[.string (bstr (allT a))] 9)) 9 w6.heap.size [.string (bstr (allT a))]) := Arr.new' _ _ _ _ rfl
   have HLN : Hid (((ls.map allT).take i).length = i) := by show _ = _; rw [List.length_take, List.length_map]; omega
   have HAC : Hid (((ls.map allT).take i).length + 1 ≤ 1000000) := by show _ ≤ _; rw [HLN.out]; omega
   have HBS7 : Hid (w.heap.size + 1 ≤ (w6.alloc (.cells #[.string (bstr (allT a))] 9)).heap.size) := by have h := HK.out.size; rw [HBE.out] at h; exact h
   clear hb7
   go_wp2_with (at_builtin; refine app_str (base := w.heap.size + 1) (xs := (ls.map allT).take i) (t := allT a) rfl _ _ rfl rfl HRW.out rfl HS7.out HAC.out HBS7.out ?_)
   intro v8 w8 r8 b8
   have HX : Hid (Arr w8 48 w.heap.size [.string tn, .int .i64 1, .slice (some ⟨b, o, none⟩) ls.length ca, .int .i64 0, .string ⟨#[]⟩, .string ⟨#[]⟩, .slice q4 0 c4]) := (b8.block _ (Nat.lt_succ_self _)).trans HX.out
   have HK : Hid (Below w0.heap.size w0 w8) := HK.out.trans (by rw [HBE.out]; exact b8)
   have HB := hiD (HB.out.trans (b8.mono (Nat.le_succ _)))
   have HRW : Hid (StrRow (w.heap.size + 1) w8 v8 ((ls.map allT).take (i + 1))) := by
    show StrRow _ _ _ _
    rw [HTK.out]
    exact r8
   obtain ⟨q8, c8, hv8⟩ := r8.form
   rw [List.length_append, List.length_singleton, HLN.out] at hv8
   subst hv8
   clear r8 b8 HS7
   go_wp2_with fail
   go_roundw
   case rel => exact ⟨i + 1, q8, c8, by omega, by go_num, rfl, HRW.out, HX.out, HK.out, HB.out⟩
   case measure => simp [intOf]; omega
  ·have hi1 : ¬ (i : Int) < ls.length := by omega
   have hil : i = ls.length := by omega
   obtain ⟨te, hte⟩ : ∃ x, x = bstr (typesT ls) := ⟨_, rfl⟩
   have hty := typesT_len (l := ls) fun a h => HG.out a h
   have g2 : (te.size : Int) ≤ 10000 := by rw [hte, bstr_size]; omega
   have HMT : Hid (bstr (memT (n, 1, ls, ex0)) = ⟨#[114, 101, 108, 97, 116, 105, 111, 110, 32]⟩ ++ tn ++ ⟨#[58, 32]⟩ ++ te ++ ⟨#[59]⟩) := by
    show bstr _ = _
    rw [HTN.out, hte, show (⟨#[114, 101, 108, 97, 116, 105, 111, 110, 32]⟩ : ByteArray) = bstr relS from rfl, show (⟨#[58, 32]⟩ : ByteArray) = bstr [58, 32] from rfl, show (⟨#[59]⟩ : ByteArray) = bstr [59] from rfl, bstr_app, bstr_app, bstr_app, bstr_app]
    unfold memT
    rw [if_neg (show ¬ (1 : Int) = 2 by decide)]
   have HJ : Hid (∀ w', Below wr.heap.size wr w' → Calls Tryz.prog 44 #[.slice q5 i c5, .string ⟨#[32, 124, 32]⟩] w' fun r w'' => r = .returned (.string te) ∧ Below w'.heap.size w' w'') := by
    show ∀ w', _
    intro w' hw
    have h := HRW.out.later hw
    rw [hil, show ls.length = (ls.map allT).length from (List.length_map _).symm, List.take_length] at h
    rw [hte, typesT_join ls, hil]
    rw [List.length_map] at h
    exact StrRow.join [32, 124, 32] h (by rw [← typesT_join]; omega) (by rw [List.length_map]; omega)
   clear hil hte hty hlt HRW
   obtain ⟨x0, y0, x1, y1, x2, y2, x3, y3, x4, y4, x5, y5, x6, y6⟩ := HX.out.all7
   go_upto_region 10 with (fail)
   clear x0 y0 x1 y1 x2 y2 x3 y3 x4 y4 x5 y5 x6 y6
   have HX := hiD (HX.out.later (Below.refl wr.heap.size wr).drew)
   refine wp_region_held_drew (S := fun W' => Arr W' 48 w.heap.size [.string tn, .int .i64 1, .slice qa ls.length ca, .int .i64 0, .string ⟨#[]⟩, .string ⟨#[]⟩, .slice q4 0 c4]) (by kernel_rfl) HX.out (fun hHeld => ?_)
   try simp only [Act.put]
   have HB := hiD (HB.out.trans ((Below.refl wr.heap.size wr).drew.mono HB.out.size))
   have HJ := hiD (HJ.out wr.drew (Below.refl _ _).drew)
   generalize wr.drew = w3 at hHeld HX HB HJ ⊢
   refine wpAnyH_take (i := 0) (oi := ⟨some 37, _, _, _, _, _⟩) (v := .pointer (some ⟨w.heap.size, 0, none⟩)) rfl (by kernel_rfl) (by kernel_rfl) (by kernel_rfl) (fun _ _ _ h => h) (.inl ⟨by rfl, fun w' hSw => ?_⟩) hHeld ?_
   focus (skip; clear hHeld; go_simp)
   try simp only [Act.put, pz0, pz1, pz2]
   refine wpAnyH_take (i := 1) (oi := ⟨some 38, _, _, _, _, _⟩) (v := .string tn) rfl (by kernel_rfl) (by kernel_rfl) (by kernel_rfl) (fun _ _ _ h => h) (.inl ⟨by rfl, fun w' hSw => ?_⟩) hHeld ?_
   focus (have q0 := hSw.cell 0; have q1 := hSw.cell 1; have q2 := hSw.cell 2; have q3 := hSw.cell 3; have q4 := hSw.cell 4; have q5 := hSw.cell 5; have q6 := hSw.cell 6; simp only [List.getElem?_cons_zero, List.getElem?_cons_succ] at q0 q1 q2 q3 q4 q5 q6; clear hHeld; go_simp)
   try simp only [Act.put, pz0, pz1, pz2]
   refine wpAnyH_take (i := 2) (oi := ⟨some 39, _, _, _, _, _⟩) (v := .string (⟨#[114, 101, 108, 97, 116, 105, 111, 110, 32]⟩ ++ tn)) rfl (by kernel_rfl) (by kernel_rfl) (by kernel_rfl) (fun _ _ _ h => h) (.inl ⟨by rfl, fun w' hSw => ?_⟩) hHeld ?_
   focus (skip; clear hHeld; go_simp; omega)
   try simp only [Act.put, pz0, pz1, pz2]
   refine wpAnyH_take (i := 3) (oi := ⟨some 40, _, _, _, _, _⟩) (v := .string ((⟨#[114, 101, 108, 97, 116, 105, 111, 110, 32]⟩ ++ tn) ++ ⟨#[58, 32]⟩)) rfl (by kernel_rfl) (by kernel_rfl) (by kernel_rfl) (fun _ _ _ h => h) (.inl ⟨by rfl, fun w' hSw => ?_⟩) hHeld ?_
   focus (skip; clear hHeld; go_simp; omega)
   try simp only [Act.put, pz0, pz1, pz2]
   refine wpAnyH_take (i := 4) (oi := ⟨some 41, _, _, _, _, _⟩) (v := .slice q5 i c5) rfl (by kernel_rfl) (by kernel_rfl) (by kernel_rfl) (fun _ _ _ h => h) (.inl ⟨by rfl, fun w' hSw => ?_⟩) hHeld ?_
   focus (skip; clear hHeld; go_simp)
   try simp only [Act.put, pz0, pz1, pz2]
   refine wpAnyH_ready (rs := [5]) (by kernel_rfl) (by simp) ?_
   refine AllReadyH.cons (o := ⟨some 42, _, _, _, _, _⟩) rfl (fun K' hK' => ?_) AllReadyH.nil
   refine stepw_call (R := fun v w' => v = .string te ∧ Below w3.heap.size w3 w') (by rfl) ?_ (HJ.out.mono fun r w' ⟨h1, h2⟩ => ⟨_, h1, rfl, h2⟩) ?_
   focus go_simp
   rintro v wn ⟨rfl, bn⟩
   have hkn := hHeld.later bn
   clear hHeld
   have HB := hiD (HB.out.trans (bn.mono HB.out.size))
   clear bn
   refine hK'.out _ _ hkn (fun hHeld => ?_)
   clear hK' K' hkn
   try simp only [Act.put, pz0, pz1, pz2]
   refine wpAnyH_take (i := 6) (oi := ⟨some 43, _, _, _, _, _⟩) (v := .string (((⟨#[114, 101, 108, 97, 116, 105, 111, 110, 32]⟩ ++ tn) ++ ⟨#[58, 32]⟩) ++ te)) rfl (by kernel_rfl) (by kernel_rfl) (by kernel_rfl) (fun _ _ _ h => h) (.inl ⟨by rfl, fun w' hSw => ?_⟩) hHeld ?_
   focus (skip; clear hHeld; go_simp; omega)
   try simp only [Act.put, pz0, pz1, pz2]
   refine wpAnyH_take (i := 7) (oi := ⟨some 44, _, _, _, _, _⟩) (v := .string ((((⟨#[114, 101, 108, 97, 116, 105, 111, 110, 32]⟩ ++ tn) ++ ⟨#[58, 32]⟩) ++ te) ++ ⟨#[59]⟩)) rfl (by kernel_rfl) (by kernel_rfl) (by kernel_rfl) (fun _ _ _ h => h) (.inl ⟨by rfl, fun w' hSw => ?_⟩) hHeld ?_
   focus (skip; clear hHeld; go_simp; omega)
   try simp only [Act.put, pz0, pz1, pz2]
   refine wpAnyH_take (i := 8) (oi := ⟨some 2, _, _, _, _, _⟩) (v := .string ((((⟨#[114, 101, 108, 97, 116, 105, 111, 110, 32]⟩ ++ tn) ++ ⟨#[58, 32]⟩) ++ te) ++ ⟨#[59]⟩)) rfl (by kernel_rfl) (by kernel_rfl) (by kernel_rfl) (fun _ _ _ h => h) (.inl ⟨by rfl, fun w' hSw => ?_⟩) hHeld ?_
   focus (skip; clear hHeld; go_simp)
   try simp only [Act.put, pz0, pz1, pz2]
   refine wpAnyH_done (by kernel_rfl) ?_ _
   clear hHeld
   go_wp2_with fail
   go_ret
   exact ⟨by rw [HMT.out]; rfl, HB.out⟩
theorem pmemT_any (x : MemB) (cs : List Value) (P : Nat → Prop) (w : World) (h : rdMem P w x cs) (hP : ∀ b, P b → b < w.heap.size) (hg : GoodM x) (hr : ResT w) : Calls Tryz.prog 24 #[.agg cs.toArray] w fun e w' => e = .returned (.string (bstr (memT x))) ∧ Below w.heap.size w w' := by
 obtain ⟨n, k, ls, mk, mv, mn, ms⟩ := x
 obtain ⟨qa, ca, q4, c4, rfl, h3, h4⟩ := rdMem_form h
 obtain ⟨hn, ⟨hk, h1, h2, ha, he⟩ | ⟨hk, hl, he⟩⟩ := hg
 ·have hk : k = 1 := hk
  have he : Ex.mk mk mv mn ms = .mk 0 [] [] [] := he
  cases he
  subst hk
  exact pmemT_rel hn rfl h3 hP ha h2 hr
 ·have hk : k = 2 := hk
  have hl : ls = [] := hl
  subst hk
  subst hl
  exact pmemT_perm hn rfl h4 hP he hr
abbrev tB : TypeId := 73
abbrev tU : TypeId := 5
def BuS (B b : Nat) (l : List UInt8) (w : World) : Prop := Lib.IsBuilderF tB tU B b (Lib.byteCells l) w
theorem strCells_eq (s : ByteArray) : Lib.strCells s = Lib.byteCells s.data.toList := rfl
theorem byteCells_app (a b : List UInt8) : Lib.byteCells a ++ Lib.byteCells b = Lib.byteCells (a ++ b) := by simp [Lib.byteCells]
def WrK (B b : Nat) (w w' : World) : Prop := Below B w w' ∧ Lib.OthersKept tU (some b) w w'
theorem WrK.trans {B b : Nat} {w w' w2 : World} (h : WrK B b w w') (g : WrK B b w' w2) : WrK B b w w2 := ⟨h.1.trans g.1, h.2.trans g.2⟩
theorem WrK.arr {B b : Nat} {w w' : World} (h : WrK B b w w') {t : TypeId} {g : Nat} {cs : List Value} (hA : Arr w t g cs) (hg : g ≠ b) (ht : t ≠ tU) : Arr w' t g cs :=
  h.2 g _ hA (fun e => hg (Option.some.inj e)) (fun c fz e => ht (by cases e; rfl))
theorem bwrite_any (B b : Nat) (l : List UInt8) (s : ByteArray) (w : World) (h : BuS B b l w) (hlen : l.length + s.size ≤ 1000000000) (hB : B ≤ w.heap.size) :
    Calls Tryz.prog 22 #[.pointer (some ⟨b, 0, none⟩), .string s] w fun e w' => e = .returned (.tuple #[.int .i64 s.size, .nilIface]) ∧ BuS B b (l ++ s.data.toList) w' ∧ WrK B b w w' := by
  have h1 := Any.Builder_WriteString_k (ρ := Tryz.lays156_ren) { Tryz.lays156 with } Tryz.Builder_Extra_156 B b (Lib.byteCells l) s w h (by rw [Lib.byteCells_length]; omega) hB
  refine h1.mono ?_
  rintro e w' ⟨rfl, h2, h3, h4⟩
  rw [strCells_eq, byteCells_app] at h2
  exact ⟨rfl, .inr h2, h3, h4⟩
theorem bstring_any (B b : Nat) (l : List UInt8) (w : World) (h : BuS B b l w) (hB : B ≤ w.heap.size) :
    Calls Tryz.prog 25 #[.pointer (some ⟨b, 0, none⟩)] w fun e w' => e = .returned (.string ⟨l.toArray⟩) ∧ Below B w w' := by
  have h1 := Any.Builder_String_any_k (ρ := Tryz.lays156_ren) { Tryz.lays156 with } Tryz.Builder_Extra_156 B b l w h hB
  refine h1.mono ?_
  rintro e w' ⟨rfl, h2, h3, h4⟩
  exact ⟨rfl, h3⟩
def cat (xs : List ByteArray) : List UInt8 := (xs.map fun x => x.data.toList).flatten
theorem cat_take (xs : List ByteArray) (i : Nat) (x : ByteArray) (h : xs[i]? = some x) : cat (xs.take (i + 1)) = cat (xs.take i) ++ x.data.toList := by
  have hi : i < xs.length := (List.getElem?_eq_some_iff.1 h).1
  unfold cat
  rw [List.take_succ_eq_append_getElem hi, List.map_append, List.flatten_append, (List.getElem?_eq_some_iff.1 h).2]
  simp
theorem cat_le (xs : List ByteArray) (i : Nat) : (cat (xs.take i)).length ≤ (cat xs).length := by
  have h : cat xs = cat (xs.take i) ++ cat (xs.drop i) := by
    unfold cat
    rw [← List.flatten_append, ← List.map_append, List.take_append_drop]
  rw [h, List.length_append]
  omega
set_option maxRecDepth 100000 in
set_option maxHeartbeats 2000000 in
theorem line_any (B b gp pc : Nat) (l : List UInt8) (xs : List ByteArray) (w : World) (h : BuS B b l w) (hp : Arr w 9 gp (xs.map Value.string)) (hc : Arr w 74 pc [.func (.func 22) #[.pointer (some ⟨b, 0, none⟩)] #[]]) (hg : gp ≠ b) (hpc : pc ≠ b) (hlen : l.length + (cat xs).length ≤ 100000000) (hn : xs.length ≤ 100) (hB : B ≤ w.heap.size) :
    Calls Tryz.prog 23 #[.slice (some ⟨gp, 0, none⟩) xs.length xs.length, .pointer (some ⟨pc, 0, none⟩)] w fun e w' => e = .returned (.tuple #[]) ∧ BuS B b (l ++ cat xs ++ [10]) w' ∧ WrK B b w w' := by
  have HBU := hiD h
  have HP := hiD hp
  have HC := hiD hc
  have HG1 := hiD hg
  have HG2 := hiD hpc
  have HLE := hiD hlen
  have HBW := hiD hB
  have hz : (xs.length : Int) ≤ 100 := by omega
  clear h hp hc hg hpc hlen hn hB
  go_enter Tryz.func23, Tryz.ntmps23
  go_wp2_with fail
  go_loopw [7] (fun iv wr => ∃ i : Nat, i ≤ xs.length ∧ iv = .int .i64 i ∧ Hid (BuS B b (l ++ cat (xs.take i)) wr) ∧ Hid (WrK B b w wr)) (fun iv _ => xs.length - (intOf iv).toNat)
  case atStart => exact ⟨0, Nat.zero_le _, rfl, (by show BuS B b (l ++ []) w; rw [List.append_nil]; exact HBU.out), ⟨Below.refl _ _, Lib.OthersKept.refl _ _ _⟩⟩
  case round =>
    obtain ⟨i, hi, rfl, HBU, HK⟩ := hrel
    have hi0 : (0 : Int) ≤ i := by omega
    have HCR := hiD (HK.out.arr HC.out HG2.out (by decide))
    have HSZ : Hid (B ≤ wr.heap.size) := Nat.le_trans HBW.out HK.out.1.size
    by_cases hlt : i < xs.length
    · have hi1 : (i : Int) < xs.length := by omega
      obtain ⟨x, hx⟩ : ∃ x, xs[i]? = some x := ⟨_, List.getElem?_eq_getElem hlt⟩
      have HT := hiD (cat_take xs i x hx)
      have a0 := (HK.out.arr HP.out HG1.out (by decide)).cell i
      rw [List.getElem?_map, hx] at a0
      have a0 : wr.cell? ⟨gp, i, none⟩ = some (.string x) := a0
      have HW := hiD (bwrite_any B b _ x wr HBU.out (by
        have h1 := cat_le xs (i + 1)
        rw [cat_take xs i x hx, List.length_append] at h1
        have h2 : x.data.toList.length = x.size := by rw [Array.length_toList]; rfl
        have := HLE.out
        rw [List.length_append]
        omega) HSZ.out)
      clear hx hlt
      obtain ⟨u0, v0⟩ := HCR.out.all1
      go_wp2_with fail
      refine HW.out.mono ?_
      rintro e w2 ⟨rfl, b2, k2⟩
      have HB2 := hiD b2
      have HK2 := hiD (HK.out.trans k2)
      clear b2 k2 a0 u0 v0
      go_wp2_with fail
      go_roundw
      case rel => exact ⟨i + 1, by omega, by go_num, by rw [HT.out, ← List.append_assoc]; exact HB2.out, HK2.out⟩
      case measure => simp [intOf]; omega
    · have hi1 : ¬ (i : Int) < xs.length := by omega
      have hil : i = xs.length := by omega
      have HB1 : Hid (BuS B b (l ++ cat xs) wr) := by have h := HBU.out; rw [hil, List.take_length] at h; exact h
      have HW := hiD (bwrite_any B b _ ⟨#[10]⟩ wr HB1.out (by rw [List.length_append]; have := HLE.out; show _ + 1 ≤ _; omega) HSZ.out)
      clear hil hlt
      obtain ⟨u0, v0⟩ := HCR.out.all1
      go_wp2_with fail
      refine HW.out.mono ?_
      rintro e w2 ⟨rfl, b2, k2⟩
      have HB2 := hiD b2
      have HK2 := hiD (HK.out.trans k2)
      clear b2 k2 u0 v0
      go_wp2_with fail
      go_end0
      exact ⟨rfl, HB2.out, HK2.out⟩
theorem schT_pre (l : List DefB) (i : Nat) : (schT (l.take i)).length ≤ (schT l).length := by
 have h : schT l = schT (l.take i) ++ schT (l.drop i) := by unfold schT; rw [← List.flatten_append, ← List.map_append, List.take_append_drop]
 rw [h, List.length_append]
 omega
theorem memsT_pre (l : List MemB) (i : Nat) : (memsT (l.take i)).length ≤ (memsT l).length := by
 have h : memsT l = memsT (l.take i) ++ memsT (l.drop i) := by unfold memsT; rw [← List.flatten_append, ← List.map_append, List.take_append_drop]
 rw [h, List.length_append]
 omega
theorem mem_vals {P : Nat → Prop} {w : World} {x : MemB} {cs : List Value} (h : rdMem P w x cs) : ∃ (y0 : ByteArray) (y1 : Int) (qa : Option Addr) (la ca : Nat) (y3 : Int) (y4 y5 : ByteArray) (q4 : Option Addr) (l4 c4 : Nat), cs = [.string y0, .int .i64 y1, .slice qa la ca, .int .i64 y3, .string y4, .string y5, .slice q4 l4 c4] := by
 obtain ⟨n, k, ls, mk, mv, mn, ms⟩ := x
 obtain ⟨qa, ca, q4, c4, rfl, _, _⟩ := rdMem_form h
 exact ⟨_, _, _, _, _, _, _, _, _, _, _, rfl⟩
theorem BuS.lt {B b : Nat} {l : List UInt8} {w : World} (h : BuS B b l w) : b < w.heap.size := h.elim (fun x => x.lt) (fun x => x.lt)
theorem rowF_later {B : Nat} {w w' : World} {e : TypeId} {v : Value} {n : Nat} {xs : List Value} (h : w.ownsRowF B e 1 v n xs) (hb : Below w.heap.size w w') : w'.ownsRowF B e 1 v n xs := by
 refine ⟨h.1, ?_⟩
 rcases h.2 with h | ⟨g, cap, cur, fz, hv, h0, h1, r⟩
 ·exact .inl h
 ·exact .inr ⟨g, cap, cur, fz, hv, h0, (hb.block g (Array.getElem?_eq_some_iff.1 h1).1).trans h1, r⟩
theorem BuS.later {B b : Nat} {l : List UInt8} {w w' : World} (h : BuS B b l w) (hb : Below w.heap.size w w') : BuS B b l w' := by
 rcases h with ⟨h0, v, h1, h2, h3⟩ | ⟨h0, v, h1, h2, h3⟩
 ·exact .inl ⟨h0, v, (hb.block b (Array.getElem?_eq_some_iff.1 h1).1).trans h1, rowF_later h2 hb, h3⟩
 ·exact .inr ⟨h0, v, (hb.block b (Array.getElem?_eq_some_iff.1 h1).1).trans h1, rowF_later h2 hb, h3⟩
theorem BuS.new (w : World) : BuS w.heap.size w.heap.size [] (w.alloc (.cells #[.pointer none, .slice none 0 0] tB)) :=
 .inl ⟨Nat.le_refl _, .slice none 0 0, by rw [heap_alloc_new], World.ownsRowF_nil _ _ _ _, by intro h; cases h⟩
set_option maxRecDepth 100000 in
set_option maxHeartbeats 4000000 in
theorem pschT_any (l : List DefB) (q : Option Addr) (c : Nat) (P : Nat → Prop) (w : World) (h : RdK kdDef P w l (.slice q l.length c)) (hP : ∀ b, P b → b < w.heap.size) (hg : GoodS l) (hr : ResT w) (hlen : (schT l).length ≤ 100000) :
  Calls Tryz.prog 10 #[.agg #[.slice q l.length c]] w fun e w' => e = .returned (.tuple #[.string (bstr (schT l)), .bool true]) ∧ Below w.heap.size w w' := by
 have hb0 : Below w.heap.size w (w.alloc (.cells #[.slice q l.length c] 29)) := (Below.refl _ _).alloc (Nat.le_refl _) _
 have HB := hiD hb0
 have HX : Hid (Arr (w.alloc (.cells #[.slice q l.length c] 29)) 29 w.heap.size [.slice q l.length c]) := Arr.new' _ _ _ _ rfl
 have HR : Hid (ResT (w.alloc (.cells #[.slice q l.length c] 29))) := hr.below hb0 hr.lt
 have H1 := hiD (rdK_keep h hb0 hP)
 have HP := hiD (lt_keep hb0 hP)
 have HG := hiD hg
 have HLL := hiD hlen
 have hz : (l.length : Int) ≤ 64 := by have := hg.1; omega
 have HFO := hiD (form_any l q c P (w.alloc (.cells #[.slice q l.length c] 29)) H1.out HP.out hg HR.out)
 clear hb0 h hP hg hr hlen
 go_enter Tryz.func10, Tryz.ntmps10
 go_upto_region 1 with (fail)
 generalize (w.alloc (.cells #[.slice q l.length c] 29)) = w0 at HX HB HR H1 HP HFO ⊢
 obtain ⟨x0, y0⟩ := HX.out.all1
 go_wp2_with fail
 refine HFO.out.mono ?_
 rintro e w1 ⟨rfl, b1⟩
 clear x0 y0
 have HB := hiD (HB.out.trans (b1.mono HB.out.size))
 have HX := hiD (HX.out.later b1)
 have HR : Hid (ResT w1) := HR.out.below b1 HR.out.lt
 have H1 := hiD (rdK_keep H1.out b1 HP.out)
 have HP := hiD (lt_keep b1 HP.out)
 clear b1 HFO
 go_upto_region 4 with (fail)
 have hb2 : Below w1.heap.size w1 (w1.alloc (.cells #[.pointer none, .slice none 0 0] 73)) := (Below.refl _ _).alloc (Nat.le_refl _) _
 have HBU : Hid (BuS w1.heap.size w1.heap.size [] (w1.alloc (.cells #[.pointer none, .slice none 0 0] 73))) := BuS.new w1
 have HGW : Hid (w.heap.size < w1.heap.size) := HX.out.lt
 have HRG : Hid (1 < w1.heap.size) := HR.out.lt
 have HB := hiD (HB.out.trans (hb2.mono HB.out.size))
 have HX := hiD (HX.out.later hb2)
 have H1 := hiD (rdK_keep H1.out hb2 HP.out)
 have HR : Hid (ResT (w1.alloc (.cells #[.pointer none, .slice none 0 0] 73))) := HR.out.below hb2 HR.out.lt
 obtain ⟨gb, hgb⟩ : ∃ x, x = w1.heap.size := ⟨_, rfl⟩
 rw [← hgb] at HBU HGW HRG HP ⊢
 generalize w1.alloc (.cells #[.pointer none, .slice none 0 0] 73) = w2 at HB HX H1 HR HBU ⊢
 clear hgb hb2
 go_upto_region 5 with (fail)
 have hb3 : Below w2.heap.size w2 (w2.alloc (.cells #[.func (.func 22) #[.pointer (some ⟨gb, 0, none⟩)] #[]] 74)) := (Below.refl _ _).alloc (Nat.le_refl _) _
 have HC : Hid (Arr (w2.alloc (.cells #[.func (.func 22) #[.pointer (some ⟨gb, 0, none⟩)] #[]] 74)) 74 w2.heap.size [.func (.func 22) #[.pointer (some ⟨gb, 0, none⟩)] #[]]) := Arr.new' _ _ _ _ rfl
 have HGP : Hid (gb < w2.heap.size) := HBU.out.lt
 have HB := hiD (HB.out.trans (hb3.mono HB.out.size))
 have HX := hiD (HX.out.later hb3)
 have HBU := hiD (HBU.out.later hb3)
 have H1 : Hid (RdK kdDef P (w2.alloc (.cells #[.func (.func 22) #[.pointer (some ⟨gb, 0, none⟩)] #[]] 74)) l (.slice q l.length c)) := rdK_keep H1.out hb3 (fun b hb => Nat.lt_trans (HP.out b hb) HGP.out)
 have HR : Hid (ResT (w2.alloc (.cells #[.func (.func 22) #[.pointer (some ⟨gb, 0, none⟩)] #[]] 74))) := HR.out.below hb3 HR.out.lt
 obtain ⟨pc, hpc⟩ : ∃ x, x = w2.heap.size := ⟨_, rfl⟩
 rw [← hpc] at HC HGP ⊢
 generalize w2.alloc (.cells #[.func (.func 22) #[.pointer (some ⟨gb, 0, none⟩)] #[]] 74) = w3 at HB HX H1 HR HBU HC ⊢
 clear hpc hb3
 obtain ⟨x0, y0⟩ := HX.out.all1
 go_wp2_with fail
 clear x0 y0
 go_loopw [19] (fun iv wr => ∃ i : Nat, i ≤ l.length ∧ iv = .int .i64 i ∧ Hid (BuS gb gb (schT (l.take i)) wr) ∧ Hid (Arr wr 74 pc [.func (.func 22) #[.pointer (some ⟨gb, 0, none⟩)] #[]]) ∧ Hid (Arr wr 29 w.heap.size [.slice q l.length c]) ∧ Hid (Below gb w3 wr) ∧ Hid (Below w.heap.size w wr)) (fun iv _ => l.length - (intOf iv).toNat)
 case atStart => exact ⟨0, Nat.zero_le _, rfl, HBU.out, HC.out, HX.out, Below.refl _ _, HB.out⟩
 case round =>
  obtain ⟨i, hi, rfl, HBU, HC, HX, HK, HB⟩ := hrel
  have hi0 : (0 : Int) ≤ i := by omega
  by_cases hlt : i < l.length
  ·have hi1 : (i : Int) < l.length := by omega
   obtain ⟨d, hx⟩ : ∃ d, l[i]? = some d := ⟨_, List.getElem?_eq_getElem hlt⟩
   have hgd := HG.out.2 d (List.mem_of_getElem? hx)
   obtain ⟨b, o, a, rfl, hb, r1, x1⟩ := H1.out.at hx
   rw [show kdDef.size = 2 from rfl] at x1
   obtain ⟨n, m⟩ := d
   obtain ⟨u, rfl, r⟩ := r1
   have HM1 := hiD r
   obtain ⟨q2, c2, rfl, _⟩ := r
   obtain ⟨tn, htn⟩ : ∃ t, t = bstr n := ⟨_, rfl⟩
   have HTN := hiD htn
   have HTD : Hid ((tn : ByteArray).data.toList = n) := by show _ = _; rw [htn]; rfl
   rw [← htn] at x1
   have a0 := (HK.out.cell (p := ⟨b, _, none⟩) (HP.out b hb)).trans (x1 0 _ rfl)
   have a1 := (HK.out.cell (p := ⟨b, _, none⟩) (HP.out b hb)).trans (x1 1 _ rfl)
   simp only [Nat.add_zero] at a0
   have HTK := hiD (schT_take l i (n, m) hx)
   have HNL : Hid ((schT (l.take i) ++ defT (n, m)).length ≤ 100000) := by
    show _ ≤ _
    rw [← HTK.out]
    exact Nat.le_trans (schT_pre l (i + 1)) HLL.out
   have HGM := hiD hgd.2.2
   have hm2 : (m.length : Int) ≤ 64 := by have : m.length ≤ 64 := hgd.2.1; omega
   clear x1 hb hx hgd htn hlt
   go_upto_region 9 with (fail)
   clear a0 a1
   have hb5 : Below wr.heap.size wr (wr.alloc (.cells #[.string tn, .slice q2 m.length c2] 39)) := (Below.refl _ _).alloc (Nat.le_refl _) _
   have HD : Hid (Arr (wr.alloc (.cells #[.string tn, .slice q2 m.length c2] 39)) 39 wr.heap.size [.string tn, .slice q2 m.length c2]) := Arr.new' _ _ _ _ rfl
   have HGD : Hid (gb < wr.heap.size) := HBU.out.lt
   have HBU := hiD (HBU.out.later hb5)
   have HC := hiD (HC.out.later hb5)
   have HX := hiD (HX.out.later hb5)
   have HB := hiD (HB.out.trans (hb5.mono HB.out.size))
   have HK := hiD (HK.out.trans (hb5.mono (Nat.le_of_lt HGD.out)))
   obtain ⟨gd, hgd⟩ : ∃ x, x = wr.heap.size := ⟨_, rfl⟩
   rw [← hgd] at HD HGD ⊢
   generalize wr.alloc (.cells #[.string tn, .slice q2 m.length c2] 39) = w5 at HD HBU HC HX HB HK ⊢
   clear hgd hb5
   have HL9 : Hid ((schT (l.take i)).length + (cat [⟨#[100, 101, 102, 105, 110, 105, 116, 105, 111, 110, 32]⟩, tn, ⟨#[32, 123]⟩]).length ≤ 100000000 ∧ schT (l.take i) ++ cat [⟨#[100, 101, 102, 105, 110, 105, 116, 105, 111, 110, 32]⟩, tn, ⟨#[32, 123]⟩] ++ [10] = schT (l.take i) ++ defS ++ n ++ [32, 123, 10] ++ memsT (m.take 0)) := by
    have h1 : cat [⟨#[100, 101, 102, 105, 110, 105, 116, 105, 111, 110, 32]⟩, tn, ⟨#[32, 123]⟩] = defS ++ n ++ [32, 123] := by
     unfold cat
     simp only [List.map_cons, List.map_nil, List.flatten_cons, List.flatten_nil, List.append_nil]
     rw [HTD.out, List.append_assoc]
     rfl
    have h2 := HNL.out
    unfold defT at h2
    rw [h1]
    refine ⟨?_, ?_⟩
    ·simp only [List.length_append, List.length_cons, List.length_nil] at h2 ⊢
     omega
    ·rw [show memsT (m.take 0) = [] from rfl, List.append_nil]
     simp only [List.append_assoc]
     rfl
   obtain ⟨u0, v0, u1, v1⟩ := HD.out.all2
   have hbn : Below w5.heap.size w5 (w5.alloc (.cells #[.string ⟨#[100, 101, 102, 105, 110, 105, 116, 105, 111, 110, 32]⟩, .string tn, .string ⟨#[32, 123]⟩] 9)) := (Below.refl _ _).alloc (Nat.le_refl _) _
   have HPT : Hid (Arr (w5.alloc (.cells #[.string ⟨#[100, 101, 102, 105, 110, 105, 116, 105, 111, 110, 32]⟩, .string tn, .string ⟨#[32, 123]⟩] 9)) 9 w5.heap.size ([⟨#[100, 101, 102, 105, 110, 105, 116, 105, 111, 110, 32]⟩, tn, ⟨#[32, 123]⟩].map Value.string)) := Arr.new' _ _ _ _ rfl
   have hgp : gb < w5.heap.size := HBU.out.lt
   have HX := hiD (HX.out.later hbn)
   have HC := hiD (HC.out.later hbn)
   have HD := hiD (HD.out.later hbn)
   have HBU := hiD (HBU.out.later hbn)
   have HB := hiD (HB.out.trans (hbn.mono HB.out.size))
   have HK := hiD (HK.out.trans (hbn.mono (Nat.le_of_lt hgp)))
   have HLN : Hid (Calls Tryz.prog 23 #[.slice (some ⟨w5.heap.size, 0, none⟩) 3 3, .pointer (some ⟨pc, 0, none⟩)] (w5.alloc (.cells #[.string ⟨#[100, 101, 102, 105, 110, 105, 116, 105, 111, 110, 32]⟩, .string tn, .string ⟨#[32, 123]⟩] 9)) fun e w' => e = .returned (.tuple #[]) ∧ BuS gb gb (schT (l.take i) ++ defS ++ n ++ [32, 123, 10] ++ memsT (m.take 0)) w' ∧ WrK gb gb (w5.alloc (.cells #[.string ⟨#[100, 101, 102, 105, 110, 105, 116, 105, 111, 110, 32]⟩, .string tn, .string ⟨#[32, 123]⟩] 9)) w') := by
    have h := line_any gb gb w5.heap.size pc _ [⟨#[100, 101, 102, 105, 110, 105, 116, 105, 111, 110, 32]⟩, tn, ⟨#[32, 123]⟩] (w5.alloc (.cells #[.string ⟨#[100, 101, 102, 105, 110, 105, 116, 105, 111, 110, 32]⟩, .string tn, .string ⟨#[32, 123]⟩] 9)) HBU.out HPT.out HC.out (by omega) (by have := HGP.out; omega) (HL9.out.1) (by simp only [List.length_cons, List.length_nil]; decide) (Nat.le_of_lt (Nat.lt_of_lt_of_le hgp hbn.size))
    rw [HL9.out.2] at h
    exact h
   clear hbn hgp HPT
   go_wp2_with fail
   refine HLN.out.mono ?_
   rintro e w6 ⟨rfl, b2, k2⟩
   have HX := hiD (k2.arr HX.out (by have := HGW.out; omega) (by decide))
   have HC := hiD (k2.arr HC.out (by have := HGP.out; omega) (by decide))
   have HD := hiD (k2.arr HD.out (by have := HGD.out; omega) (by decide))
   have HB := hiD (HB.out.trans (k2.1.mono (Nat.le_of_lt HGW.out)))
   have HK := hiD (HK.out.trans k2.1)
   have HBU := hiD b2
   clear b2 k2 HLN
   clear u0 v0 u1 v1
   obtain ⟨u0, v0, u1, v1⟩ := HD.out.all2
   go_wp2_with fail
   clear u0 v0 u1 v1
   go_loopw [31] (fun jv wr2 => ∃ j : Nat, j ≤ m.length ∧ jv = .int .i64 j ∧ Hid (BuS gb gb (schT (l.take i) ++ defS ++ n ++ [32, 123, 10] ++ memsT (m.take j)) wr2) ∧ Hid (Arr wr2 74 pc [.func (.func 22) #[.pointer (some ⟨gb, 0, none⟩)] #[]]) ∧ Hid (Arr wr2 29 w.heap.size [.slice (some ⟨b, o, none⟩) l.length c]) ∧ Hid (Arr wr2 39 gd [.string tn, .slice q2 m.length c2]) ∧ Hid (Below gb w3 wr2) ∧ Hid (Below w.heap.size w wr2)) (fun jv _ => m.length - (intOf jv).toNat)
   case atStart => exact ⟨0, Nat.zero_le _, rfl, HBU.out, HC.out, HX.out, HD.out, HK.out, HB.out⟩
   case round =>
    obtain ⟨j, hj, rfl, HBU, HC, HX, HD, HK, HB⟩ := hrel
    have hj0 : (0 : Int) ≤ j := by omega
    by_cases hjl : j < m.length
    ·have hj1 : (j : Int) < m.length := by omega
     obtain ⟨x, hx2⟩ : ∃ x, m[j]? = some x := ⟨_, List.getElem?_eq_getElem hjl⟩
     obtain ⟨b3, o3, a3, rfl, hb3, r3, x3⟩ := HM1.out.at hx2
     rw [show kdMem.size = 7 from rfl] at x3
     obtain ⟨y0, y1, qa, la, ca, y3, y4, y5, q4, l4, c4, rfl⟩ := mem_vals r3
     have a0 := (HK.out.cell (p := ⟨b3, _, none⟩) (HP.out b3 hb3)).trans (x3 0 _ rfl)
     have a1 := (HK.out.cell (p := ⟨b3, _, none⟩) (HP.out b3 hb3)).trans (x3 1 _ rfl)
     have a2 := (HK.out.cell (p := ⟨b3, _, none⟩) (HP.out b3 hb3)).trans (x3 2 _ rfl)
     have a3 := (HK.out.cell (p := ⟨b3, _, none⟩) (HP.out b3 hb3)).trans (x3 3 _ rfl)
     have a4 := (HK.out.cell (p := ⟨b3, _, none⟩) (HP.out b3 hb3)).trans (x3 4 _ rfl)
     have a5 := (HK.out.cell (p := ⟨b3, _, none⟩) (HP.out b3 hb3)).trans (x3 5 _ rfl)
     have a6 := (HK.out.cell (p := ⟨b3, _, none⟩) (HP.out b3 hb3)).trans (x3 6 _ rfl)
     simp only [Nat.add_zero] at a0
     have hbm : Below wr.heap.size wr (wr.alloc (.cells #[.string y0, .int .i64 y1, .slice qa la ca, .int .i64 y3, .string y4, .string y5, .slice q4 l4 c4] 48)) := (Below.refl _ _).alloc (Nat.le_refl _) _
     have HMB : Hid (Arr (wr.alloc (.cells #[.string y0, .int .i64 y1, .slice qa la ca, .int .i64 y3, .string y4, .string y5, .slice q4 l4 c4] 48)) 48 wr.heap.size [.string y0, .int .i64 y1, .slice qa la ca, .int .i64 y3, .string y4, .string y5, .slice q4 l4 c4]) := Arr.new' _ _ _ _ rfl
     have hgb2 : gb < wr.heap.size := HBU.out.lt
     have HBU := hiD (HBU.out.later hbm)
     have HC := hiD (HC.out.later hbm)
     have HX := hiD (HX.out.later hbm)
     have HD := hiD (HD.out.later hbm)
     have HB := hiD (HB.out.trans (hbm.mono HB.out.size))
     have HK := hiD (HK.out.trans (hbm.mono (Nat.le_of_lt hgb2)))
     have HPM := hiD (pmemT_any x [.string y0, .int .i64 y1, .slice qa la ca, .int .i64 y3, .string y4, .string y5, .slice q4 l4 c4] P (wr.alloc (.cells #[.string y0, .int .i64 y1, .slice qa la ca, .int .i64 y3, .string y4, .string y5, .slice q4 l4 c4] 48)) (rdMem.keep (fun b hb n => HK.out.cell (p := ⟨b, n, none⟩) (HP.out b hb)) r3) (fun b hb => Nat.lt_trans (HP.out b hb) (Nat.lt_of_lt_of_le hgb2 hbm.size)) (HGM.out x (List.mem_of_getElem? hx2)) (HR.out.below HK.out HRG.out))
     obtain ⟨tm, htm⟩ : ∃ t, t = bstr (memT x) := ⟨_, rfl⟩
     have HTM : Hid ((tm : ByteArray).data.toList = memT x) := by show _ = _; rw [htm]; rfl
     rw [← htm] at HPM
     have HLJ : Hid ((schT (l.take i) ++ defS ++ n ++ [32, 123, 10] ++ memsT (m.take j)).length + (cat [⟨#[9]⟩, tm]).length ≤ 100000000 ∧ schT (l.take i) ++ defS ++ n ++ [32, 123, 10] ++ memsT (m.take j) ++ cat [⟨#[9]⟩, tm] ++ [10] = schT (l.take i) ++ defS ++ n ++ [32, 123, 10] ++ memsT (m.take (j + 1))) := by
      have h1 : cat [⟨#[9]⟩, tm] = [9] ++ memT x := by
       unfold cat
       simp only [List.map_cons, List.map_nil, List.flatten_cons, List.flatten_nil, List.append_nil]
       rw [HTM.out]
      have h2 := HNL.out
      have h3 := memsT_pre m (j + 1)
      unfold defT at h2
      rw [memsT_take m j x hx2] at h3 ⊢
      rw [h1]
      refine ⟨?_, by simp only [List.append_assoc]⟩
      simp only [List.length_append, List.length_cons, List.length_nil] at h2 h3 ⊢
      omega
     clear x3 r3 hb3 hx2 htm hjl hgb2 hbm
     go_upto_region 13 with (fail)
     clear a0 a1 a2 a3 a4 a5 a6
     generalize wr.alloc (.cells #[.string y0, .int .i64 y1, .slice qa la ca, .int .i64 y3, .string y4, .string y5, .slice q4 l4 c4] 48) = w7 at HMB HBU HC HX HD HB HK HPM ⊢
     obtain ⟨x0, y0, x1, y1, x2, y2, x3, y3, x4, y4, x5, y5, x6, y6⟩ := HMB.out.all7
     go_wp2_with fail
     refine HPM.out.mono ?_
     rintro e w8 ⟨rfl, b8⟩
     clear x0 y0 x1 y1 x2 y2 x3 y3 x4 y4 x5 y5 x6 y6
     have hgb2 : gb < w7.heap.size := HBU.out.lt
     have HBU := hiD (HBU.out.later b8)
     have HC := hiD (HC.out.later b8)
     have HX := hiD (HX.out.later b8)
     have HD := hiD (HD.out.later b8)
     have HB := hiD (HB.out.trans (b8.mono HB.out.size))
     have HK := hiD (HK.out.trans (b8.mono (Nat.le_of_lt hgb2)))
     clear b8 hgb2 HPM HMB
     have hbn : Below w8.heap.size w8 (w8.alloc (.cells #[.string ⟨#[9]⟩, .string tm] 9)) := (Below.refl _ _).alloc (Nat.le_refl _) _
     have HPT : Hid (Arr (w8.alloc (.cells #[.string ⟨#[9]⟩, .string tm] 9)) 9 w8.heap.size ([⟨#[9]⟩, tm].map Value.string)) := Arr.new' _ _ _ _ rfl
     have hgp : gb < w8.heap.size := HBU.out.lt
     have HX := hiD (HX.out.later hbn)
     have HC := hiD (HC.out.later hbn)
     have HD := hiD (HD.out.later hbn)
     have HBU := hiD (HBU.out.later hbn)
     have HB := hiD (HB.out.trans (hbn.mono HB.out.size))
     have HK := hiD (HK.out.trans (hbn.mono (Nat.le_of_lt hgp)))
     have HLN : Hid (Calls Tryz.prog 23 #[.slice (some ⟨w8.heap.size, 0, none⟩) 2 2, .pointer (some ⟨pc, 0, none⟩)] (w8.alloc (.cells #[.string ⟨#[9]⟩, .string tm] 9)) fun e w' => e = .returned (.tuple #[]) ∧ BuS gb gb (schT (l.take i) ++ defS ++ n ++ [32, 123, 10] ++ memsT (m.take (j + 1))) w' ∧ WrK gb gb (w8.alloc (.cells #[.string ⟨#[9]⟩, .string tm] 9)) w') := by
      have h := line_any gb gb w8.heap.size pc _ [⟨#[9]⟩, tm] (w8.alloc (.cells #[.string ⟨#[9]⟩, .string tm] 9)) HBU.out HPT.out HC.out (by omega) (by have := HGP.out; omega) (HLJ.out.1) (by simp only [List.length_cons, List.length_nil]; decide) (Nat.le_of_lt (Nat.lt_of_lt_of_le hgp hbn.size))
      rw [HLJ.out.2] at h
      exact h
     clear hbn hgp HPT
     go_wp2_with fail
     refine HLN.out.mono ?_
     rintro e w9 ⟨rfl, b2, k2⟩
     have HX := hiD (k2.arr HX.out (by have := HGW.out; omega) (by decide))
     have HC := hiD (k2.arr HC.out (by have := HGP.out; omega) (by decide))
     have HD := hiD (k2.arr HD.out (by have := HGD.out; omega) (by decide))
     have HB := hiD (HB.out.trans (k2.1.mono (Nat.le_of_lt HGW.out)))
     have HK := hiD (HK.out.trans k2.1)
     have HBU := hiD b2
     clear b2 k2 HLN
     go_wp2_with fail
     go_roundw
     case rel => exact ⟨j + 1, by omega, by go_num, HBU.out, HC.out, HX.out, HD.out, HK.out, HB.out⟩
     case measure => simp [intOf]; omega
    ·have hj1 : ¬ (j : Int) < m.length := by omega
     have HLE : Hid ((schT (l.take i) ++ defS ++ n ++ [32, 123, 10] ++ memsT (m.take j)).length + (cat [⟨#[125]⟩]).length ≤ 100000000 ∧ schT (l.take i) ++ defS ++ n ++ [32, 123, 10] ++ memsT (m.take j) ++ cat [⟨#[125]⟩] ++ [10] = schT (l.take (i + 1))) := by
      have h1 : cat [⟨#[125]⟩] = [125] := rfl
      have h2 := HNL.out
      have h3 := memsT_pre m j
      rw [h1, HTK.out]
      unfold defT at h2 ⊢
      refine ⟨?_, ?_⟩
      ·simp only [List.length_append, List.length_cons, List.length_nil] at h2 h3 ⊢
       omega
      ·rw [show j = m.length by omega, List.take_length]
       simp only [List.append_assoc]
       rfl
     clear hjl HD
     go_upto_region 15 with (fail)
     have hbn : Below wr.heap.size wr (wr.alloc (.cells #[.string ⟨#[125]⟩] 9)) := (Below.refl _ _).alloc (Nat.le_refl _) _
     have HPT : Hid (Arr (wr.alloc (.cells #[.string ⟨#[125]⟩] 9)) 9 wr.heap.size ([⟨#[125]⟩].map Value.string)) := Arr.new' _ _ _ _ rfl
     have hgp : gb < wr.heap.size := HBU.out.lt
     have HX := hiD (HX.out.later hbn)
     have HC := hiD (HC.out.later hbn)
     have HBU := hiD (HBU.out.later hbn)
     have HB := hiD (HB.out.trans (hbn.mono HB.out.size))
     have HK := hiD (HK.out.trans (hbn.mono (Nat.le_of_lt hgp)))
     have HLN : Hid (Calls Tryz.prog 23 #[.slice (some ⟨wr.heap.size, 0, none⟩) 1 1, .pointer (some ⟨pc, 0, none⟩)] (wr.alloc (.cells #[.string ⟨#[125]⟩] 9)) fun e w' => e = .returned (.tuple #[]) ∧ BuS gb gb (schT (l.take (i + 1))) w' ∧ WrK gb gb (wr.alloc (.cells #[.string ⟨#[125]⟩] 9)) w') := by
      have h := line_any gb gb wr.heap.size pc _ [⟨#[125]⟩] (wr.alloc (.cells #[.string ⟨#[125]⟩] 9)) HBU.out HPT.out HC.out (by omega) (by have := HGP.out; omega) (HLE.out.1) (by simp only [List.length_cons, List.length_nil]; decide) (Nat.le_of_lt (Nat.lt_of_lt_of_le hgp hbn.size))
      rw [HLE.out.2] at h
      exact h
     clear hbn hgp HPT
     go_wp2_with fail
     refine HLN.out.mono ?_
     rintro e w9 ⟨rfl, b2, k2⟩
     have HX := hiD (k2.arr HX.out (by have := HGW.out; omega) (by decide))
     have HC := hiD (k2.arr HC.out (by have := HGP.out; omega) (by decide))
     have HB := hiD (HB.out.trans (k2.1.mono (Nat.le_of_lt HGW.out)))
     have HK := hiD (HK.out.trans k2.1)
     have HBU := hiD b2
     clear b2 k2 HLN
     go_wp2_with fail
     go_roundw
     case rel => exact ⟨i + 1, by omega, by go_num, HBU.out, HC.out, HX.out, HK.out, HB.out⟩
     case measure => simp [intOf]; omega
  ·have hi1 : ¬ (i : Int) < l.length := by omega
   have HBF : Hid (BuS gb gb (schT l) wr) := by
    have h := HBU.out
    rw [show i = l.length by omega, List.take_length] at h
    exact h
   have HST := hiD (bstring_any gb gb _ wr HBF.out (Nat.le_of_lt HBF.out.lt))
   clear hlt
   go_wp2_with fail
   refine HST.out.mono ?_
   rintro e w9 ⟨rfl, b9⟩
   have HB := hiD (HB.out.trans (b9.mono (Nat.le_of_lt HGW.out)))
   clear b9
   go_wp2_with fail
   refine bodyPost_ret (v := .tuple #[.string ⟨(schT l).toArray⟩, .bool true]) ?_ rfl ⟨rfl, HB.out⟩
   simp [results, Tryz.results10, go_sem]
set_option maxRecDepth 100000 in
set_option maxHeartbeats 4000000 in
theorem rschT_any (l : List DefB) (q : Option Addr) (c : Nat) (P : Nat → Prop) (w : World) (h : RdK kdDef P w l (.slice q l.length c)) (hP : ∀ b, P b → b < w.heap.size) (hg : GoodS l) (hlen : (schT l).length ≤ 100000) :
  Calls Tryz.prog 9 #[.agg #[.slice q l.length c]] w fun e w' => e = .returned (.string (bstr (schT l))) ∧ Below w.heap.size w w' := by
 have hb0 : Below w.heap.size w (w.alloc (.cells #[.slice q l.length c] 29)) := (Below.refl _ _).alloc (Nat.le_refl _) _
 have HB := hiD hb0
 have HX : Hid (Arr (w.alloc (.cells #[.slice q l.length c] 29)) 29 w.heap.size [.slice q l.length c]) := Arr.new' _ _ _ _ rfl
 have H1 := hiD (rdK_keep h hb0 hP)
 have HP := hiD (lt_keep hb0 hP)
 have HG := hiD hg
 have HLL := hiD hlen
 have hz : (l.length : Int) ≤ 64 := by have := hg.1; omega
 clear hb0 h hP hg hlen
 go_enter Tryz.func9, Tryz.ntmps9
 go_upto_region 1 with (fail)
 generalize (w.alloc (.cells #[.slice q l.length c] 29)) = w0 at HX HB H1 HP ⊢
 go_wp2_with fail
 go_loopw [3, 4] (fun sv iv wr => ∃ i : Nat, i ≤ l.length ∧ iv = .int .i64 i ∧ sv = .string (bstr (schT (l.take i))) ∧ Hid (Arr wr 29 w.heap.size [.slice q l.length c]) ∧ Hid (Below w0.heap.size w0 wr) ∧ Hid (Below w.heap.size w wr)) (fun _ iv _ => l.length - (intOf iv).toNat)
 case atStart => exact ⟨0, Nat.zero_le _, rfl, rfl, HX.out, Below.refl _ _, HB.out⟩
 case round =>
  obtain ⟨i, hi, rfl, rfl, HX, HK, HB⟩ := hrel
  have hi0 : (0 : Int) ≤ i := by omega
  obtain ⟨sb, hsb⟩ : ∃ sb, sb = bstr (schT (l.take i)) := ⟨_, rfl⟩
  have z0 : (sb.size : Int) ≤ 100000 := by
   have h1 := schT_pre l i
   have h2 := HLL.out
   rw [hsb, bstr_size]
   omega
  by_cases hlt : i < l.length
  ·have hi1 : (i : Int) < l.length := by omega
   obtain ⟨d, hx⟩ : ∃ d, l[i]? = some d := ⟨_, List.getElem?_eq_getElem hlt⟩
   have hgd := HG.out.2 d (List.mem_of_getElem? hx)
   obtain ⟨b, o, a, rfl, hb, r1, x1⟩ := H1.out.at hx
   rw [show kdDef.size = 2 from rfl] at x1
   obtain ⟨n, m⟩ := d
   obtain ⟨u, rfl, r⟩ := r1
   have HM1 := hiD r
   obtain ⟨q2, c2, rfl, _⟩ := r
   obtain ⟨tn, htn⟩ : ∃ t, t = bstr n := ⟨_, rfl⟩
   have HTN := hiD htn
   have z1 : (tn.size : Int) ≤ 100 := by have : n.length ≤ 64 := name_len hgd.1; rw [htn, bstr_size]; omega
   rw [← htn] at x1
   have HX1 : Hid (b < w0.heap.size ∧ w0.cell? ⟨b, o + i * 2, none⟩ = some (.string tn) ∧ w0.cell? ⟨b, o + i * 2 + 1, none⟩ = some (.slice q2 m.length c2)) := ⟨HP.out b hb, x1 0 _ rfl, x1 1 _ rfl⟩
   have HTK := hiD (schT_take l i (n, m) hx)
   have HNL : Hid ((schT (l.take i) ++ defT (n, m)).length ≤ 100000) := by
    show _ ≤ _
    rw [← HTK.out]
    exact Nat.le_trans (schT_pre l (i + 1)) HLL.out
   have HGM := hiD hgd.2.2
   have hm2 : (m.length : Int) ≤ 64 := by have : m.length ≤ 64 := hgd.2.1; omega
   have a0 := (HK.out.cell (p := ⟨b, _, none⟩) HX1.out.1).trans HX1.out.2.1
   have HSB : Hid (bstr (schT (l.take i) ++ defS ++ n ++ [32, 123, 10] ++ memsT (m.take 0)) = sb ++ ⟨#[100, 101, 102, 105, 110, 105, 116, 105, 111, 110, 32]⟩ ++ tn ++ ⟨#[32, 123, 10]⟩) := by
    show bstr _ = _
    rw [hsb, HTN.out, show (⟨#[100, 101, 102, 105, 110, 105, 116, 105, 111, 110, 32]⟩ : ByteArray) = bstr defS from rfl, show (⟨#[32, 123, 10]⟩ : ByteArray) = bstr [32, 123, 10] from rfl, bstr_app, bstr_app, bstr_app, show memsT (m.take 0) = [] from rfl, List.append_nil]
   rw [← hsb]
   clear x1 hb hx hgd htn hlt hsb
   obtain ⟨x0, y0⟩ := HX.out.all1
   go_upto_region 7 with (fail)
   clear x0 y0
   clear a0 z0
   rw [← HSB.out]
   obtain ⟨s0, hs0⟩ : ∃ x, x = bstr (schT (l.take i) ++ defS ++ n ++ [32, 123, 10] ++ memsT (m.take 0)) := ⟨_, rfl⟩
   rw [← hs0]
   have HS0 := hiD hs0
   clear hs0
   go_loopw [3, 5] (fun sv jv wr => ∃ j : Nat, j ≤ m.length ∧ jv = .int .i64 j ∧ sv = .string (bstr (schT (l.take i) ++ defS ++ n ++ [32, 123, 10] ++ memsT (m.take j))) ∧ Hid (Arr wr 29 w.heap.size [.slice (some ⟨b, o, none⟩) l.length c]) ∧ Hid (Below w0.heap.size w0 wr) ∧ Hid (Below w.heap.size w wr)) (fun _ jv _ => m.length - (intOf jv).toNat)
   case atStart => exact ⟨0, Nat.zero_le _, rfl, by rw [HS0.out], HX.out, HK.out, HB.out⟩
   case round =>
    obtain ⟨j, hj, rfl, rfl, HX, HK, HB⟩ := hrel
    have hj0 : (0 : Int) ≤ j := by omega
    obtain ⟨sb, hsb⟩ : ∃ sb, sb = bstr (schT (l.take i) ++ defS ++ n ++ [32, 123, 10] ++ memsT (m.take j)) := ⟨_, rfl⟩
    have z0 : (sb.size : Int) ≤ 200000 := by
     have h2 := HNL.out
     have h3 := memsT_pre m j
     unfold defT at h2
     rw [hsb, bstr_size]
     simp only [List.length_append, List.length_cons, List.length_nil] at h2 h3 ⊢
     omega
    have c1 := (HK.out.cell (p := ⟨b, _, none⟩) HX1.out.1).trans HX1.out.2.2
    by_cases hjl : j < m.length
    ·have hj1 : (j : Int) < m.length := by omega
     obtain ⟨x, hx2⟩ : ∃ x, m[j]? = some x := ⟨_, List.getElem?_eq_getElem hjl⟩
     obtain ⟨b3, o3, a3, rfl, hb3, r3, x3⟩ := HM1.out.at hx2
     rw [show kdMem.size = 7 from rfl] at x3
     obtain ⟨y0, y1, qa, la, ca, y3, y4, y5, q4, l4, c4, rfl⟩ := mem_vals r3
     have a0 := (HK.out.cell (p := ⟨b3, _, none⟩) (HP.out b3 hb3)).trans (x3 0 _ rfl)
     have a1 := (HK.out.cell (p := ⟨b3, _, none⟩) (HP.out b3 hb3)).trans (x3 1 _ rfl)
     have a2 := (HK.out.cell (p := ⟨b3, _, none⟩) (HP.out b3 hb3)).trans (x3 2 _ rfl)
     have a3 := (HK.out.cell (p := ⟨b3, _, none⟩) (HP.out b3 hb3)).trans (x3 3 _ rfl)
     have a4 := (HK.out.cell (p := ⟨b3, _, none⟩) (HP.out b3 hb3)).trans (x3 4 _ rfl)
     have a5 := (HK.out.cell (p := ⟨b3, _, none⟩) (HP.out b3 hb3)).trans (x3 5 _ rfl)
     have a6 := (HK.out.cell (p := ⟨b3, _, none⟩) (HP.out b3 hb3)).trans (x3 6 _ rfl)
     simp only [Nat.add_zero] at a0
     have HPM := hiD (rmemT_any x [.string y0, .int .i64 y1, .slice qa la ca, .int .i64 y3, .string y4, .string y5, .slice q4 l4 c4] P _ (rdMem.keep (fun b hb n => HK.out.cell (p := ⟨b, n, none⟩) (HP.out b hb)) r3) (fun b hb => Nat.lt_of_lt_of_le (HP.out b hb) HK.out.size) (HGM.out x (List.mem_of_getElem? hx2)))
     obtain ⟨tm, htm⟩ : ∃ t, t = bstr (memT x) := ⟨_, rfl⟩
     have z2 : (tm.size : Int) ≤ 100000 := by
      have h2 := HNL.out
      have h3 := memsT_pre m (j + 1)
      unfold defT at h2
      rw [memsT_take m j x hx2] at h3
      rw [htm, bstr_size]
      simp only [List.length_append, List.length_cons, List.length_nil] at h2 h3 ⊢
      omega
     have HSJ : Hid (bstr (schT (l.take i) ++ defS ++ n ++ [32, 123, 10] ++ memsT (m.take (j + 1))) = sb ++ ⟨#[9]⟩ ++ tm ++ ⟨#[10]⟩) := by
      show bstr _ = _
      rw [hsb, htm, show (⟨#[9]⟩ : ByteArray) = bstr [9] from rfl, show (⟨#[10]⟩ : ByteArray) = bstr [10] from rfl, bstr_app, bstr_app, bstr_app, memsT_take m j x hx2]
      simp only [List.append_assoc]
     rw [← htm] at HPM
     rw [← hsb]
     clear x3 r3 hb3 hx2 htm hjl hsb
     obtain ⟨x0, y0⟩ := HX.out.all1
     go_wp2_with fail
     refine HPM.out.mono ?_
     rintro e w8 ⟨rfl, b8⟩
     have HX := hiD (HX.out.later b8)
     have HK := hiD (HK.out.trans (b8.mono HK.out.size))
     have HB := hiD (HB.out.trans (b8.mono HB.out.size))
     clear x0 y0
     clear b8 HPM a0 a1 a2 a3 a4 a5 a6 c1
     go_wp2_with fail
     go_roundw
     case rel => exact ⟨j + 1, by omega, by go_num, by rw [HSJ.out], HX.out, HK.out, HB.out⟩
     case measure => simp [intOf]; omega
    ·have hj1 : ¬ (j : Int) < m.length := by omega
     have HSE : Hid (bstr (schT (l.take (i + 1))) = sb ++ ⟨#[125, 10]⟩) := by
      show bstr _ = _
      rw [hsb, HTK.out, show (⟨#[125, 10]⟩ : ByteArray) = bstr [125, 10] from rfl, bstr_app, show j = m.length by omega, List.take_length]
      unfold defT
      simp only [List.append_assoc]
     rw [← hsb]
     clear hjl hsb
     obtain ⟨x0, y0⟩ := HX.out.all1
     go_wp2_with fail
     clear x0 y0
     go_roundw
     case rel => exact ⟨i + 1, by omega, by go_num, by rw [HSE.out], HX.out, HK.out, HB.out⟩
     case measure => simp [intOf]; omega
  ·have hi1 : ¬ (i : Int) < l.length := by omega
   have HST : Hid (sb = bstr (schT l)) := by
    show _ = _
    rw [hsb, show i = l.length by omega, List.take_length]
   rw [← hsb]
   clear hlt hsb
   obtain ⟨x0, y0⟩ := HX.out.all1
   go_wp2_with fail
   go_ret
   exact ⟨by rw [← HST.out]; rfl, HB.out⟩
def st {α : Type} (k i : Nat) (r : PR α) : PR α := if k = 0 then r else .bad k i
theorem st_0 {α : Type} {k i : Nat} {r : PR α} (h : k = 0) : st k i r = r := if_pos h
theorem st_n {α : Type} {k i : Nat} {r : PR α} (h : ¬ k = 0) : st k i r = .bad k i := if_neg h
def Lk (k l : Nat) : Prop := l ≤ 33 ∧ (k = 0 → l ≤ 32)
def Go1 {α : Type} (ts : List Tok) (k i o l : Nat) (x : α) (r : PR α) : Prop := i < ts.length ∧ Lk k l ∧ ((k = 0 ∧ r = .ok x ⟨i, o, l⟩) ∨ (¬ k = 0 ∧ r = .bad k i))
theorem Go1.then {α β : Type} {ts : List Tok} {k i o l : Nat} {x : α} {r : PR α} (h : Go1 ts k i o l x r) (f : α → PS → PR β) : r.then f = st k i (f x ⟨i, o, l⟩) := by
 obtain ⟨_, _, ⟨h1, h2⟩ | ⟨h1, h2⟩⟩ := h
 ·rw [h2, PR.then_ok, st_0 h1]
 ·rw [h2, PR.then_bad, st_n h1]
theorem st_st {α : Type} {k i : Nat} {r : PR α} : st k i (st k i r) = st k i r := by
 unfold st
 split
 ·rfl
 ·rfl
def OkB (ts : List Tok) : Prop := OkTs ts ∧ ∀ i, (txt ts i).length ≤ 100000
theorem OkTs.nameKind {ts : List Tok} (h : OkTs ts) {i : Nat} (hi : i < ts.length) (hn : isName (bstr (txt ts i)) = true) : (ts.getD i tok0).1 = 1 := by
 obtain ⟨us, e, rfl, he, hu⟩ := h
 rw [List.length_append, List.length_singleton] at hi
 unfold txt at hn
 by_cases h1 : i < us.length
 ·have e1 : (us ++ [e]).getD i tok0 = us[i] := by rw [List.getD_eq_getElem?_getD, List.getElem?_append_left h1, List.getElem?_eq_getElem h1]; rfl
  rw [e1] at hn ⊢
  exact (hu us[i] (List.getElem_mem h1)).name hn
 ·obtain rfl : i = us.length := by omega
  rw [List.getD_eq_getElem?_getD, List.getElem?_append_right (Nat.le_refl _), Nat.sub_self] at hn
  have h2 : e.2.1 = [] := (Prod.mk.inj he).2
  exact absurd hn (by show ¬ isName (bstr e.2.1) = true; rw [h2]; decide +kernel)
theorem Arr.setP {w : World} {t : TypeId} {g : Nat} {y0 y1 y2 y3 y4 : Value} (h : Arr w t g [y0, y1, y2, y3, y4]) (x0 x1 x2 x3 x4 : Value) : Arr (((((w.setCell ⟨g, 0, none⟩ x0).setCell ⟨g, 1, none⟩ x1).setCell ⟨g, 2, none⟩ x2).setCell ⟨g, 3, none⟩ x3).setCell ⟨g, 4, none⟩ x4) t g [x0, x1, x2, x3, x4] := (((((h.set 0 x0).set 1 x1).set 2 x2).set 3 x3).set 4 x4)
theorem kp_setP (w : World) (g : Nat) (x0 x1 x2 x3 x4 : Value) : Kp g w (((((w.setCell ⟨g, 0, none⟩ x0).setCell ⟨g, 1, none⟩ x1).setCell ⟨g, 2, none⟩ x2).setCell ⟨g, 3, none⟩ x3).setCell ⟨g, 4, none⟩ x4) := ((((((Kp.of (pb := g) (Below.refl _ _)).set 0 x0).set 1 x1).set 2 x2).set 3 x3).set 4 x4)
theorem resP {fn : Func} {p : Tmp} (h : fn.results = #[.cell p 56]) {tmps : Array Value} {w : World} {g : Nat} {x0 x1 x2 x3 x4 : Value} (hA : Arr w 56 g [x0, x1, x2, x3, x4]) (hp : tmps.getD p undef = .pointer (some ⟨g, 0, none⟩)) :
  (results fn tmps).run Tryz.prog w = .ok (.agg #[x0, x1, x2, x3, x4]) w :=
 results_cell_row h tmps w g 56 #[x0, x1, x2, x3, x4] (0, 0) _ hp hA Tryz.underlying56 rfl (by kernel_rfl)
section
variable {W : World} {tb c k : Nat} {ts : List Tok} {s : PS}
theorem rbad_any (e : Nat) : Calls Tryz.prog 15 #[.agg #[.slice (some ⟨tb, 0, none⟩) ts.length c, .int .i64 (s.i : Nat), .int .i64 (k : Nat), .int .i64 (s.o : Nat), .int .i64 (s.l : Nat)], .int .i64 (e : Nat)] W fun r w' => ∃ k', k' = (if k = 0 then e else k) ∧ r = .returned (.agg #[.slice (some ⟨tb, 0, none⟩) ts.length c, .int .i64 (s.i : Nat), .int .i64 (k' : Nat), .int .i64 (s.o : Nat), .int .i64 (s.l : Nat)]) ∧ Below W.heap.size W w' := by
 by_cases h : k = 0
 ·subst h
  exact (rbad_0 (e : Nat)).mono fun r w' hr => ⟨e, rfl, hr.1, hr.2⟩
 ·exact (rbad_n (e : Nat) h).mono fun r w' hr => ⟨k, (if_neg h).symm, hr.1, hr.2⟩
set_option maxRecDepth 100000 in
set_option maxHeartbeats 2000000 in
theorem rmust_any (ho : OkTs ts) (h : RT W tb ts) (hi : s.i < ts.length) (hl : Lk k s.l) (b : ByteArray) (t : List UInt8) (hb : b.data.toList = t) (ht : t ≠ []) : Calls Tryz.prog 31 #[.agg #[.slice (some ⟨tb, 0, none⟩) ts.length c, .int .i64 (s.i : Nat), .int .i64 (k : Nat), .int .i64 (s.o : Nat), .int .i64 (s.l : Nat)], .string b] W fun e w' => ∃ i' k', Go1 ts k' i' s.o s.l () (st k s.i (wantF ts t s)) ∧ e = .returned (.agg #[.slice (some ⟨tb, 0, none⟩) ts.length c, .int .i64 (i' : Nat), .int .i64 (k' : Nat), .int .i64 (s.o : Nat), .int .i64 (s.l : Nat)]) ∧ Below W.heap.size W w' := by
 have hb2 : Below W.heap.size W ((W.alloc (.cells #[.slice (some ⟨tb, 0, none⟩) ts.length c, .int .i64 (s.i : Nat), .int .i64 (k : Nat), .int .i64 (s.o : Nat), .int .i64 (s.l : Nat)] 56)).alloc (.cells #[.slice none 0 0, .int .i64 0, .int .i64 0, .int .i64 0, .int .i64 0] 56)) := ((Below.refl _ _).alloc (Nat.le_refl _) _).alloc (by simp) _
 have HB2 := hiD hb2
 have HA2 : Hid (Arr ((W.alloc (.cells #[.slice (some ⟨tb, 0, none⟩) ts.length c, .int .i64 (s.i : Nat), .int .i64 (k : Nat), .int .i64 (s.o : Nat), .int .i64 (s.l : Nat)] 56)).alloc (.cells #[.slice none 0 0, .int .i64 0, .int .i64 0, .int .i64 0, .int .i64 0] 56)) 56 W.heap.size [.slice (some ⟨tb, 0, none⟩) ts.length c, .int .i64 (s.i : Nat), .int .i64 (k : Nat), .int .i64 (s.o : Nat), .int .i64 (s.l : Nat)]) := (Arr.new' _ _ _ _ rfl).alloc _
 have HQ2 : Hid (Arr ((W.alloc (.cells #[.slice (some ⟨tb, 0, none⟩) ts.length c, .int .i64 (s.i : Nat), .int .i64 (k : Nat), .int .i64 (s.o : Nat), .int .i64 (s.l : Nat)] 56)).alloc (.cells #[.slice none 0 0, .int .i64 0, .int .i64 0, .int .i64 0, .int .i64 0] 56)) 56 (W.heap.size + 1) [.slice none 0 0, .int .i64 0, .int .i64 0, .int .i64 0, .int .i64 0]) := Arr.new2 _ _ _ _ _ rfl
 have HT2 : Hid (RT ((W.alloc (.cells #[.slice (some ⟨tb, 0, none⟩) ts.length c, .int .i64 (s.i : Nat), .int .i64 (k : Nat), .int .i64 (s.o : Nat), .int .i64 (s.l : Nat)] 56)).alloc (.cells #[.slice none 0 0, .int .i64 0, .int .i64 0, .int .i64 0, .int .i64 0] 56)) tb ts) := (h.later ((Below.refl _ _).alloc (Nat.le_refl _) _)).later ((Below.refl _ _).alloc (Nat.le_refl _) _)
 have HIS := hiD (ris_any (c := c) (k := k) ho HT2.out hi b t hb ht)
 obtain ⟨d, hd⟩ : ∃ d, d = (decide (k = 0) && decide (txt ts s.i = t)) := ⟨_, rfl⟩
 have HD := hiD hd
 rw [← hd] at HIS
 have HO := hiD ho
 have HH := hiD hi
 have HL := hiD hl
 have HNE := hiD ht
 have hz0 : (0 : Int) ≤ s.i := by omega
 have hz1 : (s.i : Int) ≤ 100000 := by have := h.2.1; omega
 clear hb2 h hi hl ho hd hb ht
 go_enter Tryz.func31, Tryz.ntmps31
 go_wp2_with fail
 refine HIS.out.mono ?_
 rintro r w3 ⟨rfl, b3⟩
 have HB := hiD (HB2.out.trans (b3.mono HB2.out.size))
 have HA := hiD (HA2.out.later b3)
 have HQ := hiD (HQ2.out.later b3)
 clear b3 HIS HB2 HA2 HQ2 HT2
 cases d with
 | true =>
  have hd := HD.out
  simp only [Bool.true_eq, Bool.and_eq_true, decide_eq_true_eq] at hd
  have HK := hiD hd.1
  have HT := hiD hd.2
  clear hd
  have HG : Hid (Go1 ts k (s.i + 1) s.o s.l () (st k s.i (wantF ts t s))) := ⟨HO.out.step (by rw [HT.out]; exact HNE.out), HL.out, .inl ⟨HK.out, by rw [st_0 HK.out]; exact if_pos HT.out⟩⟩
  obtain ⟨x0, y0, x1, y1, x2, y2, x3, y3, x4, y4⟩ := HA.out.all5
  go_upto_region 4 with (fail)
  clear x0 y0 x1 y1 x2 y2 x3 y3 x4 y4
  have HA := hiD (HA.out.set 1 (.int .i64 ((s.i : Int) + 1)))
  have HQ := hiD (HQ.out.setCell (a := ⟨W.heap.size, 1, none⟩) (by simp) (.int .i64 ((s.i : Int) + 1)))
  have HB := hiD (below_box HB.out (Nat.le_refl _) 1 (.int .i64 ((s.i : Int) + 1)))
  have HA : Hid (Arr (w3.setCell ⟨W.heap.size, 1, none⟩ (.int .i64 ((s.i : Int) + 1))) 56 W.heap.size [.slice (some ⟨tb, 0, none⟩) ts.length c, .int .i64 ((s.i : Int) + 1), .int .i64 (k : Nat), .int .i64 (s.o : Nat), .int .i64 (s.l : Nat)]) := HA.out
  generalize w3.setCell ⟨W.heap.size, 1, none⟩ (.int .i64 ((s.i : Int) + 1)) = w4 at HA HQ HB ⊢
  obtain ⟨x0, y0, x1, y1, x2, y2, x3, y3, x4, y4⟩ := HA.out.all5
  obtain ⟨p0, q0, p1, q1, p2, q2, p3, q3, p4, q4⟩ := HQ.out.all5
  go_wp2_with fail
  have hA := HQ.out.setP (.slice (some ⟨tb, 0, none⟩) ts.length c) (.int .i64 ((s.i : Int) + 1)) (.int .i64 (k : Nat)) (.int .i64 (s.o : Nat)) (.int .i64 (s.l : Nat))
  refine bodyPost_ret (resP rfl hA rfl) rfl ⟨s.i + 1, k, HG.out, by simp, ?_⟩
  exact below_box (below_box (below_box (below_box (below_box HB.out (g := W.heap.size + 1) (Nat.le_succ _) 0 _) (g := W.heap.size + 1) (Nat.le_succ _) 1 _) (g := W.heap.size + 1) (Nat.le_succ _) 2 _) (g := W.heap.size + 1) (Nat.le_succ _) 3 _) (g := W.heap.size + 1) (Nat.le_succ _) 4 _
 | false =>
  have hd := HD.out
  simp only [Bool.false_eq, Bool.and_eq_false_iff, decide_eq_false_iff_not] at hd
  have HG : Hid (Go1 ts (if k = 0 then 6 else k) s.i s.o s.l () (st k s.i (wantF ts t s))) := by
   refine ⟨HH.out, ?_, .inr ?_⟩
   ·by_cases hk : k = 0
    ·rw [if_pos hk]; exact ⟨HL.out.1, fun h => by cases h⟩
    ·rw [if_neg hk]; exact HL.out
   ·by_cases hk : k = 0
    ·rw [if_pos hk, st_0 hk]; exact ⟨by decide, if_neg (hd.resolve_left (fun h => h hk))⟩
    ·rw [if_neg hk, st_n hk]; exact ⟨hk, rfl⟩
  have HBD := hiD (rbad_any (c := c) (k := k) (tb := tb) (ts := ts) (s := s) (W := w3) 6)
  clear hd
  obtain ⟨x0, y0, x1, y1, x2, y2, x3, y3, x4, y4⟩ := HA.out.all5
  go_wp2_with fail
  refine HBD.out.mono ?_
  rintro r w4 ⟨k', hk', rfl, b4⟩
  rw [← hk'] at HG
  have HQ := hiD (HQ.out.later b4)
  have HB := hiD (HB.out.trans (b4.mono HB.out.size))
  clear b4 hk' HBD
  clear x0 y0 x1 y1 x2 y2 x3 y3 x4 y4
  obtain ⟨p0, q0, p1, q1, p2, q2, p3, q3, p4, q4⟩ := HQ.out.all5
  go_wp2_with fail
  have hA := HQ.out.setP (.slice (some ⟨tb, 0, none⟩) ts.length c) (.int .i64 (s.i : Nat)) (.int .i64 (k' : Nat)) (.int .i64 (s.o : Nat)) (.int .i64 (s.l : Nat))
  refine bodyPost_ret (resP rfl hA rfl) rfl ⟨s.i, k', HG.out, rfl, ?_⟩
  exact below_box (below_box (below_box (below_box (below_box HB.out (g := W.heap.size + 1) (Nat.le_succ _) 0 _) (g := W.heap.size + 1) (Nat.le_succ _) 1 _) (g := W.heap.size + 1) (Nat.le_succ _) 2 _) (g := W.heap.size + 1) (Nat.le_succ _) 3 _) (g := W.heap.size + 1) (Nat.le_succ _) 4 _
end
section
variable {W : World} {tb c k : Nat} {ts : List Tok} {s : PS}
set_option maxRecDepth 100000 in
set_option maxHeartbeats 4000000 in
theorem rname_any (ho : OkB ts) (h : RT W tb ts) (hi : s.i < ts.length) (hl : s.l ≤ 33 ∧ (k = 0 → isName (bstr (txt ts s.i)) = true → s.l ≤ 32)) : Calls Tryz.prog 32 #[.agg #[.slice (some ⟨tb, 0, none⟩) ts.length c, .int .i64 (s.i : Nat), .int .i64 (k : Nat), .int .i64 (s.o : Nat), .int .i64 (s.l : Nat)]] W fun e w' => ∃ i' k' x, Go1 ts k' i' s.o s.l x (st k s.i (nameF ts s)) ∧ e = .returned (.tuple #[.agg #[.slice (some ⟨tb, 0, none⟩) ts.length c, .int .i64 (i' : Nat), .int .i64 (k' : Nat), .int .i64 (s.o : Nat), .int .i64 (s.l : Nat)], .string (bstr x)]) ∧ Below W.heap.size W w' := by
 have hb2 : Below W.heap.size W ((W.alloc (.cells #[.slice (some ⟨tb, 0, none⟩) ts.length c, .int .i64 (s.i : Nat), .int .i64 (k : Nat), .int .i64 (s.o : Nat), .int .i64 (s.l : Nat)] 56)).alloc (.cells #[.slice none 0 0, .int .i64 0, .int .i64 0, .int .i64 0, .int .i64 0] 56)) := ((Below.refl _ _).alloc (Nat.le_refl _) _).alloc (by simp) _
 have HB2 := hiD hb2
 have HA2 : Hid (Arr ((W.alloc (.cells #[.slice (some ⟨tb, 0, none⟩) ts.length c, .int .i64 (s.i : Nat), .int .i64 (k : Nat), .int .i64 (s.o : Nat), .int .i64 (s.l : Nat)] 56)).alloc (.cells #[.slice none 0 0, .int .i64 0, .int .i64 0, .int .i64 0, .int .i64 0] 56)) 56 W.heap.size [.slice (some ⟨tb, 0, none⟩) ts.length c, .int .i64 (s.i : Nat), .int .i64 (k : Nat), .int .i64 (s.o : Nat), .int .i64 (s.l : Nat)]) := (Arr.new' _ _ _ _ rfl).alloc _
 have HQ2 : Hid (Arr ((W.alloc (.cells #[.slice (some ⟨tb, 0, none⟩) ts.length c, .int .i64 (s.i : Nat), .int .i64 (k : Nat), .int .i64 (s.o : Nat), .int .i64 (s.l : Nat)] 56)).alloc (.cells #[.slice none 0 0, .int .i64 0, .int .i64 0, .int .i64 0, .int .i64 0] 56)) 56 (W.heap.size + 1) [.slice none 0 0, .int .i64 0, .int .i64 0, .int .i64 0, .int .i64 0]) := Arr.new2 _ _ _ _ _ rfl
 have HT2 : Hid (RT ((W.alloc (.cells #[.slice (some ⟨tb, 0, none⟩) ts.length c, .int .i64 (s.i : Nat), .int .i64 (k : Nat), .int .i64 (s.o : Nat), .int .i64 (s.l : Nat)] 56)).alloc (.cells #[.slice none 0 0, .int .i64 0, .int .i64 0, .int .i64 0, .int .i64 0] 56)) tb ts) := (h.later ((Below.refl _ _).alloc (Nat.le_refl _) _)).later ((Below.refl _ _).alloc (Nat.le_refl _) _)
 have HO := hiD ho
 have HH := hiD hi
 have HL := hiD hl
 have hz0 : (0 : Int) ≤ s.i := by omega
 have hz1 : (s.i : Int) ≤ 100000 := by have := h.2.1; omega
 have hz2 : (s.i : Int) < ts.length := by omega
 have t0 : ((W.alloc (.cells #[.slice (some ⟨tb, 0, none⟩) ts.length c, .int .i64 (s.i : Nat), .int .i64 (k : Nat), .int .i64 (s.o : Nat), .int .i64 (s.l : Nat)] 56)).alloc (.cells #[.slice none 0 0, .int .i64 0, .int .i64 0, .int .i64 0, .int .i64 0] 56)).cell? ⟨tb, s.i * 3, none⟩ = some (.int .i64 (ts.getD s.i tok0).1) := HT2.out.2.2 s.i hi 0 (by decide)
 have t1 : ((W.alloc (.cells #[.slice (some ⟨tb, 0, none⟩) ts.length c, .int .i64 (s.i : Nat), .int .i64 (k : Nat), .int .i64 (s.o : Nat), .int .i64 (s.l : Nat)] 56)).alloc (.cells #[.slice none 0 0, .int .i64 0, .int .i64 0, .int .i64 0, .int .i64 0] 56)).cell? ⟨tb, s.i * 3 + 1, none⟩ = some (.string (bstr (txt ts s.i))) := HT2.out.2.2 s.i hi 1 (by decide)
 have t2 : ((W.alloc (.cells #[.slice (some ⟨tb, 0, none⟩) ts.length c, .int .i64 (s.i : Nat), .int .i64 (k : Nat), .int .i64 (s.o : Nat), .int .i64 (s.l : Nat)] 56)).alloc (.cells #[.slice none 0 0, .int .i64 0, .int .i64 0, .int .i64 0, .int .i64 0] 56)).cell? ⟨tb, s.i * 3 + 2, none⟩ = some (.int .i64 (ts.getD s.i tok0).2.2) := HT2.out.2.2 s.i hi 2 (by decide)
 obtain ⟨kd, hkd⟩ : ∃ x, x = (ts.getD s.i tok0).1 := ⟨_, rfl⟩
 obtain ⟨tx, htx⟩ : ∃ x, x = bstr (txt ts s.i) := ⟨_, rfl⟩
 obtain ⟨of, hof⟩ : ∃ x, x = (ts.getD s.i tok0).2.2 := ⟨_, rfl⟩
 have HKD := hiD hkd
 have HTX := hiD htx
 rw [← hkd] at t0
 rw [← htx] at t1
 rw [← hof] at t2
 clear hb2 h hi hl ho hkd htx hof
 by_cases hk : k = 0
 ·have HK0 := hiD hk
  have hk2 : ((k : Int) == 0) = true := by simp [hk]
  have hb3 : Below ((W.alloc (.cells #[.slice (some ⟨tb, 0, none⟩) ts.length c, .int .i64 (s.i : Nat), .int .i64 (k : Nat), .int .i64 (s.o : Nat), .int .i64 (s.l : Nat)] 56)).alloc (.cells #[.slice none 0 0, .int .i64 0, .int .i64 0, .int .i64 0, .int .i64 0] 56)).heap.size ((W.alloc (.cells #[.slice (some ⟨tb, 0, none⟩) ts.length c, .int .i64 (s.i : Nat), .int .i64 (k : Nat), .int .i64 (s.o : Nat), .int .i64 (s.l : Nat)] 56)).alloc (.cells #[.slice none 0 0, .int .i64 0, .int .i64 0, .int .i64 0, .int .i64 0] 56)) (((W.alloc (.cells #[.slice (some ⟨tb, 0, none⟩) ts.length c, .int .i64 (s.i : Nat), .int .i64 (k : Nat), .int .i64 (s.o : Nat), .int .i64 (s.l : Nat)] 56)).alloc (.cells #[.slice none 0 0, .int .i64 0, .int .i64 0, .int .i64 0, .int .i64 0] 56)).alloc (.cells #[.int .i64 kd, .string tx, .int .i64 of] 85)) := (Below.refl _ _).alloc (Nat.le_refl _) _
  have HA := hiD (HA2.out.later hb3)
  have HQ := hiD (HQ2.out.later hb3)
  have HB := hiD (HB2.out.trans (hb3.mono HB2.out.size))
  have HK : Hid (Arr (((W.alloc (.cells #[.slice (some ⟨tb, 0, none⟩) ts.length c, .int .i64 (s.i : Nat), .int .i64 (k : Nat), .int .i64 (s.o : Nat), .int .i64 (s.l : Nat)] 56)).alloc (.cells #[.slice none 0 0, .int .i64 0, .int .i64 0, .int .i64 0, .int .i64 0] 56)).alloc (.cells #[.int .i64 kd, .string tx, .int .i64 of] 85)) 85 (W.heap.size + 1 + 1) [.int .i64 kd, .string tx, .int .i64 of]) := Arr.new3 _ _ _ _ _ _ rfl
  clear hb3 hk
  by_cases h1 : kd = 1
  ·have h1' : (kd != 1) = false := by simp [h1]
   have HNC := hiD (risName_any tx (by rw [HTX.out, bstr_size]; exact Nat.le_trans (HO.out.2 s.i) (by decide)) (((W.alloc (.cells #[.slice (some ⟨tb, 0, none⟩) ts.length c, .int .i64 (s.i : Nat), .int .i64 (k : Nat), .int .i64 (s.o : Nat), .int .i64 (s.l : Nat)] 56)).alloc (.cells #[.slice none 0 0, .int .i64 0, .int .i64 0, .int .i64 0, .int .i64 0] 56)).alloc (.cells #[.int .i64 kd, .string tx, .int .i64 of] 85)))
   clear h1
   go_enter Tryz.func32, Tryz.ntmps32
   obtain ⟨x0, y0, x1, y1, x2, y2, x3, y3, x4, y4⟩ := HA2.out.all5
   go_upto_region 4 with (fail)
   clear x0 y0 x1 y1 x2 y2 x3 y3 x4 y4
   clear t0 t1 t2
   generalize (((W.alloc (.cells #[.slice (some ⟨tb, 0, none⟩) ts.length c, .int .i64 (s.i : Nat), .int .i64 (k : Nat), .int .i64 (s.o : Nat), .int .i64 (s.l : Nat)] 56)).alloc (.cells #[.slice none 0 0, .int .i64 0, .int .i64 0, .int .i64 0, .int .i64 0] 56)).alloc (.cells #[.int .i64 kd, .string tx, .int .i64 of] 85)) = w3 at HA HQ HB HK HNC ⊢
   obtain ⟨a0, b0, a1, b1, a2, b2⟩ := HK.out.all3
   go_wp2_with fail
   refine HNC.out.mono ?_
   rintro r w4 ⟨rfl, h4⟩
   obtain rfl := h4
   clear a0 b0 a1 b1 a2 b2
   obtain ⟨d, hd⟩ : ∃ d, d = isName tx := ⟨_, rfl⟩
   rw [← hd]
   cases d with
   | true =>
    have HNM : Hid (isName (bstr (txt ts s.i)) = true) := by show _ = _; rw [← HTX.out]; exact hd.symm
    have HG : Hid (Go1 ts k (s.i + 1) s.o s.l (txt ts s.i) (st k s.i (nameF ts s))) := ⟨HO.out.1.step (name_ne HNM.out), ⟨HL.out.1, fun h => HL.out.2 h HNM.out⟩, .inl ⟨HK0.out, by rw [st_0 HK0.out]; exact if_pos HNM.out⟩⟩
    clear hd HNC
    obtain ⟨x0, y0, x1, y1, x2, y2, x3, y3, x4, y4⟩ := HA.out.all5
    obtain ⟨a0, b0, a1, b1, a2, b2⟩ := HK.out.all3
    go_upto_region 7 with (fail)
    clear x0 y0 x1 y1 x2 y2 x3 y3 x4 y4
    clear a0 b0 a1 b1 a2 b2
    have HQ := hiD (HQ.out.setCell (a := ⟨W.heap.size, 1, none⟩) (by simp only [ne_eq]; omega) (.int .i64 ((s.i : Int) + 1)))
    have HK := hiD (HK.out.setCell (a := ⟨W.heap.size, 1, none⟩) (by simp only [ne_eq]; omega) (.int .i64 ((s.i : Int) + 1)))
    have HB := hiD (below_box HB.out (Nat.le_refl _) 1 (.int .i64 ((s.i : Int) + 1)))
    have HA : Hid (Arr (w3.setCell ⟨W.heap.size, 1, none⟩ (.int .i64 ((s.i : Int) + 1))) 56 W.heap.size [.slice (some ⟨tb, 0, none⟩) ts.length c, .int .i64 ((s.i : Int) + 1), .int .i64 (k : Nat), .int .i64 (s.o : Nat), .int .i64 (s.l : Nat)]) := HA.out.set 1 _
    generalize w3.setCell ⟨W.heap.size, 1, none⟩ (.int .i64 ((s.i : Int) + 1)) = w4 at HA HQ HB HK ⊢
    have hb7 : Below w4.heap.size w4 w4.drew := (Below.refl _ _).drew
    have HA := hiD (HA.out.later hb7)
    have HK := hiD (HK.out.later hb7)
    have HQ := hiD (HQ.out.later hb7)
    have HB := hiD (HB.out.trans (hb7.mono HB.out.size))
    refine wp_region_held_drew (S := fun W' => Arr W' 56 W.heap.size [.slice (some ⟨tb, 0, none⟩) ts.length c, .int .i64 ((s.i : Int) + 1), .int .i64 (k : Nat), .int .i64 (s.o : Nat), .int .i64 (s.l : Nat)] ∧ Arr W' 85 (W.heap.size + 1 + 1) [.int .i64 kd, .string tx, .int .i64 of]) (by kernel_rfl) ⟨HA.out, HK.out⟩ (fun hHeld => ?_)
    try simp only [Act.put]
    generalize w4.drew = w5 at hHeld HA HK HQ HB ⊢
    clear hb7
    refine wpAnyH_take (i := 0) (oi := ⟨some 30, _, _, _, _, _⟩) (v := .agg #[.slice (some ⟨tb, 0, none⟩) ts.length c, .int .i64 ((s.i : Int) + 1), .int .i64 (k : Nat), .int .i64 (s.o : Nat), .int .i64 (s.l : Nat)]) rfl (by kernel_rfl) (by kernel_rfl) (by kernel_rfl) (fun _ _ _ h => h) (.inl ⟨by rfl, fun w' hSw => ?_⟩) hHeld ?_
    focus (obtain ⟨q0, _, q1, _, q2, _, q3, _, q4, _⟩ := hSw.1.all5; clear hHeld; go_simp)
    try simp only [Act.put, pz0, pz1, pz2]
    refine wpAnyH_take (i := 1) (oi := ⟨some 31, _, _, _, _, _⟩) (v := .pointer (some ⟨W.heap.size + 1 + 1, 1, none⟩)) rfl (by kernel_rfl) (by kernel_rfl) (by kernel_rfl) (fun _ _ _ h => h) (.inl ⟨by rfl, fun w' hSw => ?_⟩) hHeld ?_
    focus (skip; clear hHeld; go_simp)
    try simp only [Act.put, pz0, pz1, pz2]
    refine wpAnyH_take (i := 2) (oi := ⟨some 32, _, _, _, _, _⟩) (v := .string tx) rfl (by kernel_rfl) (by kernel_rfl) (by kernel_rfl) (fun _ _ _ h => h) (.inl ⟨by rfl, fun w' hSw => ?_⟩) hHeld ?_
    focus (have q := hSw.2; have q1 := q.cell 1; simp only [List.getElem?_cons_zero, List.getElem?_cons_succ] at q1; clear hHeld; go_simp)
    try simp only [Act.put, pz0, pz1, pz2]
    refine wpAnyH_ready (rs := [3]) (by kernel_rfl) (by simp) ?_
    refine AllReadyH.cons (o := ⟨none, _, _, _, _, _⟩) rfl (fun K' hK' => ?_) AllReadyH.nil
    obtain ⟨p0, q0, p1, q1, p2, q2, p3, q3, p4, q4⟩ := HQ.out.all5
    have hkn := And.intro (hHeld.1.off5 (b := W.heap.size + 1) (by simp only [ne_eq]; omega) (.slice (some ⟨tb, 0, none⟩) ts.length c) (.int .i64 ((s.i : Int) + 1)) (.int .i64 (k : Nat)) (.int .i64 (s.o : Nat)) (.int .i64 (s.l : Nat))) (hHeld.2.off5 (b := W.heap.size + 1) (by simp only [ne_eq]; omega) (.slice (some ⟨tb, 0, none⟩) ts.length c) (.int .i64 ((s.i : Int) + 1)) (.int .i64 (k : Nat)) (.int .i64 (s.o : Nat)) (.int .i64 (s.l : Nat)))
    clear hHeld
    go_simp
    clear p0 q0 p1 q1 p2 q2 p3 q3 p4 q4
    refine hK'.out _ _ hkn (fun hHeld => ?_)
    clear hK' K' hkn
    try simp only [Act.put, pz0, pz1, pz2]
    refine wpAnyH_take (i := 4) (oi := ⟨some 3, _, _, _, _, _⟩) (v := .string tx) rfl (by kernel_rfl) (by kernel_rfl) (by kernel_rfl) (fun _ _ _ h => h) (.inl ⟨by rfl, fun w' hSw => ?_⟩) hHeld ?_
    focus (skip; clear hHeld; go_simp)
    try simp only [Act.put, pz0, pz1, pz2]
    refine wpAnyH_done (by kernel_rfl) ?_ _
    go_wp2_with fail
    have hA := HQ.out.setP (.slice (some ⟨tb, 0, none⟩) ts.length c) (.int .i64 ((s.i : Int) + 1)) (.int .i64 (k : Nat)) (.int .i64 (s.o : Nat)) (.int .i64 (s.l : Nat))
    have hB := (below_box (below_box (below_box (below_box (below_box HB.out (g := W.heap.size + 1) (by omega) 0 (.slice (some ⟨tb, 0, none⟩) ts.length c)) (g := W.heap.size + 1) (by omega) 1 (.int .i64 ((s.i : Int) + 1))) (g := W.heap.size + 1) (by omega) 2 (.int .i64 (k : Nat))) (g := W.heap.size + 1) (by omega) 3 (.int .i64 (s.o : Nat))) (g := W.heap.size + 1) (by omega) 4 (.int .i64 (s.l : Nat)))
    have c0 := hA.cell 0
    have c1 := hA.cell 1
    have c2 := hA.cell 2
    have c3 := hA.cell 3
    have c4 := hA.cell 4
    simp only [List.getElem?_cons_zero, List.getElem?_cons_succ] at c0 c1 c2 c3 c4
    refine bodyPost_ret (v := .tuple #[.agg #[.slice (some ⟨tb, 0, none⟩) ts.length c, .int .i64 ((s.i : Int) + 1), .int .i64 (k : Nat), .int .i64 (s.o : Nat), .int .i64 (s.l : Nat)], .string tx]) ?_ rfl ⟨s.i + 1, k, txt ts s.i, HG.out, by rw [HTX.out]; rfl, hB⟩
    simp [results, Tryz.results32, go_sem, c0, c1, c2, c3, c4]
   | false =>
    have HNM : Hid (isName (bstr (txt ts s.i)) = false) := by show _ = _; rw [← HTX.out]; exact hd.symm
    clear hd HNC
    have HG : Hid (Go1 ts 6 s.i s.o s.l ([] : List UInt8) (st k s.i (nameF ts s))) := ⟨HH.out, ⟨HL.out.1, fun h => by cases h⟩, .inr ⟨by decide, by rw [st_0 HK0.out]; exact if_neg (by rw [HNM.out]; simp)⟩⟩
    have HBD := hiD (rbad_any (c := c) (k := k) (tb := tb) (ts := ts) (s := s) (W := w3) 6)
    obtain ⟨x0, y0, x1, y1, x2, y2, x3, y3, x4, y4⟩ := HA.out.all5
    obtain ⟨a0, b0, a1, b1, a2, b2⟩ := HK.out.all3
    go_wp2_with fail
    refine HBD.out.mono ?_
    rintro r w5 ⟨k', hk', rfl, b5⟩
    have HG : Hid (Go1 ts k' s.i s.o s.l ([] : List UInt8) (st k s.i (nameF ts s))) := (hk'.trans (if_pos HK0.out)) ▸ HG.out
    clear hk'
    have HQ := hiD (HQ.out.later b5)
    have HB := hiD (HB.out.trans (b5.mono HB.out.size))
    clear b5 HBD
    clear x0 y0 x1 y1 x2 y2 x3 y3 x4 y4
    clear a0 b0 a1 b1 a2 b2
    obtain ⟨p0, q0, p1, q1, p2, q2, p3, q3, p4, q4⟩ := HQ.out.all5
    go_wp2_with fail
    have hA := HQ.out.setP (.slice (some ⟨tb, 0, none⟩) ts.length c) (.int .i64 (s.i : Nat)) (.int .i64 (k' : Nat)) (.int .i64 (s.o : Nat)) (.int .i64 (s.l : Nat))
    have hB := (below_box (below_box (below_box (below_box (below_box HB.out (g := W.heap.size + 1) (by omega) 0 (.slice (some ⟨tb, 0, none⟩) ts.length c)) (g := W.heap.size + 1) (by omega) 1 (.int .i64 (s.i : Nat))) (g := W.heap.size + 1) (by omega) 2 (.int .i64 (k' : Nat))) (g := W.heap.size + 1) (by omega) 3 (.int .i64 (s.o : Nat))) (g := W.heap.size + 1) (by omega) 4 (.int .i64 (s.l : Nat)))
    have c0 := hA.cell 0
    have c1 := hA.cell 1
    have c2 := hA.cell 2
    have c3 := hA.cell 3
    have c4 := hA.cell 4
    simp only [List.getElem?_cons_zero, List.getElem?_cons_succ] at c0 c1 c2 c3 c4
    refine bodyPost_ret (v := .tuple #[.agg #[.slice (some ⟨tb, 0, none⟩) ts.length c, .int .i64 (s.i : Nat), .int .i64 (k' : Nat), .int .i64 (s.o : Nat), .int .i64 (s.l : Nat)], .string ⟨#[]⟩]) ?_ rfl ⟨s.i, k', [], HG.out, rfl, hB⟩
    simp [results, Tryz.results32, go_sem, c0, c1, c2, c3, c4]
  ·have h1' : (kd != 1) = true := by simp [h1]
   have HNM : Hid (isName (bstr (txt ts s.i)) = false) := by
    show _ = _
    cases hn : isName (bstr (txt ts s.i)) with
    | false => rfl
    | true => exact absurd (HKD.out.trans (HO.out.1.nameKind HH.out hn)) h1
   clear h1
   go_enter Tryz.func32, Tryz.ntmps32
   obtain ⟨x0, y0, x1, y1, x2, y2, x3, y3, x4, y4⟩ := HA2.out.all5
   go_upto_region 4 with (fail)
   clear x0 y0 x1 y1 x2 y2 x3 y3 x4 y4
   clear t0 t1 t2
   generalize (((W.alloc (.cells #[.slice (some ⟨tb, 0, none⟩) ts.length c, .int .i64 (s.i : Nat), .int .i64 (k : Nat), .int .i64 (s.o : Nat), .int .i64 (s.l : Nat)] 56)).alloc (.cells #[.slice none 0 0, .int .i64 0, .int .i64 0, .int .i64 0, .int .i64 0] 56)).alloc (.cells #[.int .i64 kd, .string tx, .int .i64 of] 85)) = w3 at HA HQ HB HK ⊢
   have HG : Hid (Go1 ts 6 s.i s.o s.l ([] : List UInt8) (st k s.i (nameF ts s))) := ⟨HH.out, ⟨HL.out.1, fun h => by cases h⟩, .inr ⟨by decide, by rw [st_0 HK0.out]; exact if_neg (by rw [HNM.out]; simp)⟩⟩
   have HBD := hiD (rbad_any (c := c) (k := k) (tb := tb) (ts := ts) (s := s) (W := w3) 6)
   obtain ⟨x0, y0, x1, y1, x2, y2, x3, y3, x4, y4⟩ := HA.out.all5
   obtain ⟨a0, b0, a1, b1, a2, b2⟩ := HK.out.all3
   go_wp2_with fail
   refine HBD.out.mono ?_
   rintro r w5 ⟨k', hk', rfl, b5⟩
   have HG : Hid (Go1 ts k' s.i s.o s.l ([] : List UInt8) (st k s.i (nameF ts s))) := (hk'.trans (if_pos HK0.out)) ▸ HG.out
   clear hk'
   have HQ := hiD (HQ.out.later b5)
   have HB := hiD (HB.out.trans (b5.mono HB.out.size))
   clear b5 HBD
   clear x0 y0 x1 y1 x2 y2 x3 y3 x4 y4
   clear a0 b0 a1 b1 a2 b2
   obtain ⟨p0, q0, p1, q1, p2, q2, p3, q3, p4, q4⟩ := HQ.out.all5
   go_wp2_with fail
   have hA := HQ.out.setP (.slice (some ⟨tb, 0, none⟩) ts.length c) (.int .i64 (s.i : Nat)) (.int .i64 (k' : Nat)) (.int .i64 (s.o : Nat)) (.int .i64 (s.l : Nat))
   have hB := (below_box (below_box (below_box (below_box (below_box HB.out (g := W.heap.size + 1) (by omega) 0 (.slice (some ⟨tb, 0, none⟩) ts.length c)) (g := W.heap.size + 1) (by omega) 1 (.int .i64 (s.i : Nat))) (g := W.heap.size + 1) (by omega) 2 (.int .i64 (k' : Nat))) (g := W.heap.size + 1) (by omega) 3 (.int .i64 (s.o : Nat))) (g := W.heap.size + 1) (by omega) 4 (.int .i64 (s.l : Nat)))
   have c0 := hA.cell 0
   have c1 := hA.cell 1
   have c2 := hA.cell 2
   have c3 := hA.cell 3
   have c4 := hA.cell 4
   simp only [List.getElem?_cons_zero, List.getElem?_cons_succ] at c0 c1 c2 c3 c4
   refine bodyPost_ret (v := .tuple #[.agg #[.slice (some ⟨tb, 0, none⟩) ts.length c, .int .i64 (s.i : Nat), .int .i64 (k' : Nat), .int .i64 (s.o : Nat), .int .i64 (s.l : Nat)], .string ⟨#[]⟩]) ?_ rfl ⟨s.i, k', [], HG.out, rfl, hB⟩
   simp [results, Tryz.results32, go_sem, c0, c1, c2, c3, c4]
 ·have HG : Hid (Go1 ts k s.i s.o s.l ([] : List UInt8) (st k s.i (nameF ts s))) := ⟨HH.out, ⟨HL.out.1, fun h => absurd h hk⟩, .inr ⟨hk, st_n hk⟩⟩
  have hk1 : ¬ (k : Int) = 0 := by omega
  have hk2 : ((k : Int) == 0) = false := by simpa using hk1
  clear t0 t1 t2
  have HB := hiD HB2.out
  have HQ := hiD HQ2.out
  go_enter Tryz.func32, Tryz.ntmps32
  obtain ⟨x0, y0, x1, y1, x2, y2, x3, y3, x4, y4⟩ := HA2.out.all5
  go_upto_region 2 with (fail)
  clear x0 y0 x1 y1 x2 y2 x3 y3 x4 y4
  have HA := hiD HA2.out
  clear HA2 HQ2 HB2 HT2 hk1 hk2
  generalize ((W.alloc (.cells #[.slice (some ⟨tb, 0, none⟩) ts.length c, .int .i64 (s.i : Nat), .int .i64 (k : Nat), .int .i64 (s.o : Nat), .int .i64 (s.l : Nat)] 56)).alloc (.cells #[.slice none 0 0, .int .i64 0, .int .i64 0, .int .i64 0, .int .i64 0] 56)) = w3 at HA HQ HB ⊢
  obtain ⟨x0, y0, x1, y1, x2, y2, x3, y3, x4, y4⟩ := HA.out.all5
  obtain ⟨p0, q0, p1, q1, p2, q2, p3, q3, p4, q4⟩ := HQ.out.all5
  go_wp2_with fail
  have hA := HQ.out.setP (.slice (some ⟨tb, 0, none⟩) ts.length c) (.int .i64 (s.i : Nat)) (.int .i64 (k : Nat)) (.int .i64 (s.o : Nat)) (.int .i64 (s.l : Nat))
  have hB := (below_box (below_box (below_box (below_box (below_box HB.out (g := W.heap.size + 1) (by omega) 0 (.slice (some ⟨tb, 0, none⟩) ts.length c)) (g := W.heap.size + 1) (by omega) 1 (.int .i64 (s.i : Nat))) (g := W.heap.size + 1) (by omega) 2 (.int .i64 (k : Nat))) (g := W.heap.size + 1) (by omega) 3 (.int .i64 (s.o : Nat))) (g := W.heap.size + 1) (by omega) 4 (.int .i64 (s.l : Nat)))
  have c0 := hA.cell 0
  have c1 := hA.cell 1
  have c2 := hA.cell 2
  have c3 := hA.cell 3
  have c4 := hA.cell 4
  simp only [List.getElem?_cons_zero, List.getElem?_cons_succ] at c0 c1 c2 c3 c4
  refine bodyPost_ret (v := .tuple #[.agg #[.slice (some ⟨tb, 0, none⟩) ts.length c, .int .i64 (s.i : Nat), .int .i64 (k : Nat), .int .i64 (s.o : Nat), .int .i64 (s.l : Nat)], .string ⟨#[]⟩]) ?_ rfl ⟨s.i, k, [], HG.out, rfl, hB⟩
  simp [results, Tryz.results32, go_sem, c0, c1, c2, c3, c4]
end
end Go.Proofs.YtkildckeikedhaaGreatDoor
