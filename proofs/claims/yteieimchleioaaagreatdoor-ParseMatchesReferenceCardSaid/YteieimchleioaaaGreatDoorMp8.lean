/-
  schema.all over a list; allowed types that are right.
-/
import Derived.Test.YteieimchleioaaaGreatDoorMp7
import Derived.Test.YteieimchleioaaaGreatDoorMp0
import Derived.Test.YteieimchleioaaaGreatDoorMp6
import Derived.Test.YteieimchleioaaaGreatDoorMp1
import Derived.Laws.AppendOwnNone
import Derived.Test.YteieimchleioaaaGreatDoorMp3
namespace Go.Proofs.YteieimchleioaaaGreatDoor
open Go.ChangeShapes Go.WideShapes Go.ChangeAt Go.RowKit
set_option linter.unusedVariables false

theorem isName_at (s : ByteArray) {b : Bool} (hb : isName s = b) (w : World) (hr : ResT w) : Calls Tryz.prog 47 #[.string s] w fun e w' => e = .returned (.bool b) ∧ Below w.heap.size w w' := by subst hb; exact isName_any s w hr
theorem isName_small {s : ByteArray} (h : isName s = true) : s.size ≤ 64 := by
  unfold isName consB at h
  simp only [Bool.and_eq_true, decide_eq_true_eq] at h
  have := h.1.1.2.1
  rw [Array.length_toList] at this
  exact this
theorem isName_ne {s : ByteArray} (h : isName s = true) : ¬ s.toList = [] ∧ s.toList.isEmpty = false := by
  unfold isName consB at h
  simp only [Bool.and_eq_true, decide_eq_true_eq] at h
  have h1 := h.1.1.1
  rw [toList_data]
  constructor
  · intro e
    rw [e] at h1
    simp at h1
  · cases e : s.data.toList with
    | nil => rw [e] at h1; simp at h1
    | cons a b => rfl
set_option maxRecDepth 100000 in
set_option maxHeartbeats 2000000 in
theorem allowedG_any (t r : ByteArray) (w : World) (h : ResT w) (ht : isName t = true) (hr : r = ⟨#[]⟩ ∨ isName r = true) : Calls Tryz.prog 98 #[.agg #[.string t, .string r]] w fun e w' => ∃ x, e = .returned (.tuple #[.string x, .bool true]) ∧ Below w.heap.size w w' := by
  have hb0 : Below w.heap.size w (w.alloc (.cells #[.string t, .string r] 105)) := (Below.refl w.heap.size w).alloc (Nat.le_refl _) _
  have HE : Hid (ResT (w.alloc (.cells #[.string t, .string r] 105))) := h.below hb0 h.lt
  have HB0 := Lib.hid hb0
  have HX0 : Hid (Arr (w.alloc (.cells #[.string t, .string r] 105)) 105 w.heap.size [.string t, .string r]) := Arr.new' _ _ _ _ rfl
  have HN := Lib.hid (isName_at t ht _ HE.out)
  have g1 : (t.size : Int) ≤ 1000000 := by have := isName_small ht; omega
  clear h hb0 ht
  go_enter Tryz.func98, Tryz.ntmps98
  go_wp2_with fail
  refine HN.out.mono ?_
  rintro e w1 ⟨rfl, b1⟩
  have HB := Lib.hid (HB0.out.trans (b1.mono HB0.out.size))
  have HX := Lib.hid (HX0.out.later b1)
  have HE : Hid (ResT w1) := HE.out.below b1 HE.out.lt
  clear b1 HB0 HX0
  obtain ⟨x0, y0, x1, y1⟩ := HX.out.all2
  by_cases hz : r = ⟨#[]⟩
  · subst hz
    clear hr
    go_wp2_with fail
    refine bodyPost_ret (v := .tuple #[.string t, .bool true]) ?_ rfl ⟨_, rfl, HB.out⟩
    simp [results, Tryz.results98, go_sem]
  · have hn := hr.resolve_left hz
    have g2 : (r.size : Int) ≤ 1000000 := by have := isName_small hn; omega
    obtain ⟨hne, hne2⟩ := isName_ne hn
    have HN := Lib.hid (isName_at r hn _ HE.out)
    clear hz hr hn
    go_wp2_with fail
    refine HN.out.mono ?_
    rintro e w2 ⟨rfl, b2⟩
    clear x0 y0 x1 y1
    have HX := Lib.hid (HX.out.later b2)
    have HB := Lib.hid (HB.out.trans (b2.mono HB.out.size))
    clear b2
    obtain ⟨x0, y0, x1, y1⟩ := HX.out.all2
    go_wp2_with fail
    refine bodyPost_ret (v := .tuple #[.string (t ++ ⟨#[35]⟩ ++ r), .bool true]) ?_ rfl ⟨_, rfl, HB.out⟩
    simp [results, Tryz.results98, go_sem]
set_option maxRecDepth 100000 in
set_option maxHeartbeats 2000000 in
theorem isRight_any (t r : ByteArray) (w : World) (h : ResT w) (ht : isName t = true) (hr : r = ⟨#[]⟩ ∨ isName r = true) : Calls Tryz.prog 79 #[.agg #[.string t, .string r]] w fun e w' => e = .returned (.bool true) ∧ Below w.heap.size w w' := by
  have HB0 : Hid (Below w.heap.size w (w.alloc (.cells #[.string t, .string r] 105))) := (Below.refl _ _).alloc (Nat.le_refl _) _
  have HN := Lib.hid (allowedG_any t r _ (h.below HB0.out h.lt) ht hr)
  clear h ht hr
  go_enter Tryz.func79, Tryz.ntmps79
  go_wp2_with fail
  refine HN.out.mono ?_
  rintro e w1 ⟨x, rfl, b1⟩
  have HB := Lib.hid (HB0.out.trans (b1.mono HB0.out.size))
  clear b1
  go_wp2_with fail
  go_ret
  exact ⟨rfl, HB.out⟩
set_option maxRecDepth 100000 in
set_option maxHeartbeats 2000000 in
theorem idxD {W : World} {p l c : Nat} {q : Option Addr} (hl : l ≤ 100000) (hE : ∀ i, i < l → ∃ (b o : Nat) (u0 u1 : Value), q = some ⟨b, o, none⟩ ∧ AtC W b (o + i * 2) [u0, u1] ∧ ∀ W', Below W.heap.size W W' → Calls Tryz.prog 46 #[.agg #[u0, u1], .pointer (some ⟨p, 0, none⟩)] W' fun r w' => r = .returned (.bool false) ∧ Below W'.heap.size W' w') :
    Calls Tryz.prog 72 #[.slice q l c, .func (.func 46) #[] #[.pointer (some ⟨p, 0, none⟩)]] W fun r w' => r = .returned (.int .i64 (-1)) ∧ Below W.heap.size W w' := by
  have HE := Lib.hid hE
  have hz : (l : Int) ≤ 100000 := by omega
  clear hE hl
  go_enter Tryz.func72, Tryz.ntmps72
  go_wp2_with fail
  go_loopw [8] (fun iv wr => ∃ i : Nat, i ≤ l ∧ iv = .int .i64 i ∧ Hid (Below W.heap.size W wr)) (fun iv _ => l - (intOf iv).toNat)
  case atStart => exact ⟨0, Nat.zero_le _, rfl, Below.refl _ _⟩
  case round =>
    obtain ⟨i, hi, rfl, HB⟩ := hrel
    have hi0 : (0 : Int) ≤ i := by omega
    by_cases hlt : i < l
    · have hi1 : (i : Int) < l := by omega
      obtain ⟨b, o, u0, u1, rfl, hc, HC⟩ := HE.out i hlt
      have HCL := Lib.hid (HC wr HB.out)
      have a0 := (hc.later HB.out).2 0 _ rfl
      have a1 := (hc.later HB.out).2 1 _ rfl
      simp only [Nat.add_zero] at a0
      clear HC hc hlt
      go_wp2_with fail
      refine HCL.out.mono ?_
      rintro r w1 ⟨rfl, b1⟩
      have HB := Lib.hid (HB.out.trans (b1.mono HB.out.size))
      clear b1 a0 a1
      go_wp2_with fail
      go_roundw
      case rel => exact ⟨i + 1, by omega, by go_num, HB.out⟩
      case measure => simp [intOf]; omega
    · have hi1 : ¬ (i : Int) < l := by omega
      go_wp2_with fail
      go_ret
      exact ⟨rfl, HB.out⟩
set_option maxRecDepth 100000 in
set_option maxHeartbeats 2000000 in
theorem conD {W : World} {p l c : Nat} {q : Option Addr} (hl : l ≤ 100000) (hE : ∀ i, i < l → ∃ (b o : Nat) (u0 u1 : Value), q = some ⟨b, o, none⟩ ∧ AtC W b (o + i * 2) [u0, u1] ∧ ∀ W', Below W.heap.size W W' → Calls Tryz.prog 46 #[.agg #[u0, u1], .pointer (some ⟨p, 0, none⟩)] W' fun r w' => r = .returned (.bool false) ∧ Below W'.heap.size W' w') :
    Calls Tryz.prog 45 #[.slice q l c, .func (.func 46) #[] #[.pointer (some ⟨p, 0, none⟩)]] W fun r w' => r = .returned (.bool false) ∧ Below W.heap.size W w' := by
  have HI := Lib.hid (idxD (c := c) hl hE)
  clear hE hl
  go_enter Tryz.func45, Tryz.ntmps45
  go_wp2_with fail
  refine HI.out.mono ?_
  rintro r w1 ⟨rfl, b1⟩
  have HB := Lib.hid b1
  clear b1
  go_wp2_with fail
  go_ret
  exact ⟨rfl, HB.out⟩
set_option maxRecDepth 100000 in
set_option maxHeartbeats 2000000 in
theorem cloD {W : World} {p : Nat} {u0 u1 : Value} (hp : W.cell? ⟨p, 0, none⟩ = some (.func (.func 24) #[] #[])) (HS : ∀ W', Below W.heap.size W W' → Calls Tryz.prog 24 #[.agg #[u0, u1]] W' fun r w' => r = .returned (.bool true) ∧ Below W'.heap.size W' w') :
    Calls Tryz.prog 46 #[.agg #[u0, u1], .pointer (some ⟨p, 0, none⟩)] W fun r w' => r = .returned (.bool false) ∧ Below W.heap.size W w' := by
  have HB0 : Hid (Below W.heap.size W (W.alloc (.cells #[u0, u1] 44))) := (Below.refl _ _).alloc (Nat.le_refl _) _
  have HH := Lib.hid (HS _ HB0.out)
  have hp1 := (HB0.out.cell (p := ⟨p, 0, none⟩) (World.block_lt_of_cell? W _ hp)).trans hp
  clear HS hp
  go_enter Tryz.func46, Tryz.ntmps46
  go_wp2_with fail
  refine HH.out.mono ?_
  rintro r w1 ⟨rfl, b1⟩
  have HB := Lib.hid (HB0.out.trans (b1.mono HB0.out.size))
  clear b1
  go_wp2_with fail
  go_ret
  exact ⟨rfl, HB.out⟩
set_option maxRecDepth 100000 in
set_option maxHeartbeats 2000000 in
theorem allD {W : World} {l c : Nat} {q : Option Addr} (hl : l ≤ 100000) (hE : ∀ i, i < l → ∃ (b o : Nat) (u0 u1 : Value), q = some ⟨b, o, none⟩ ∧ AtC W b (o + i * 2) [u0, u1] ∧ ∀ W', Below W.heap.size W W' → Calls Tryz.prog 24 #[.agg #[u0, u1]] W' fun r w' => r = .returned (.bool true) ∧ Below W'.heap.size W' w') :
    Calls Tryz.prog 23 #[.slice q l c, .func (.func 24) #[] #[]] W fun r w' => r = .returned (.bool true) ∧ Below W.heap.size W w' := by
  have HB0 : Hid (Below W.heap.size W (W.alloc (.cells #[.func (.func 24) #[] #[]] 68))) := (Below.refl _ _).alloc (Nat.le_refl _) _
  have hbox : Arr (W.alloc (.cells #[.func (.func 24) #[] #[]] 68)) 68 W.heap.size [.func (.func 24) #[] #[]] := Arr.new' _ _ _ _ rfl
  have HI := Lib.hid (conD (W := W.alloc (.cells #[.func (.func 24) #[] #[]] 68)) (p := W.heap.size) (q := q) (c := c) hl fun i hi => by
    obtain ⟨b, o, u0, u1, e, hc, HS⟩ := hE i hi
    exact ⟨b, o, u0, u1, e, hc.later HB0.out, fun W' hW => cloD ((hW.cell (p := ⟨W.heap.size, 0, none⟩) hbox.lt).trans (hbox.cell 0)) fun W2 h2 => HS W2 (HB0.out.trans ((hW.trans (h2.mono hW.size)).mono HB0.out.size))⟩)
  clear hE hbox hl
  go_enter Tryz.func23, Tryz.ntmps23
  go_wp2_with fail
  refine HI.out.mono ?_
  rintro r w1 ⟨rfl, b1⟩
  have HB := Lib.hid (HB0.out.trans (b1.mono HB0.out.size))
  clear b1
  go_wp2_with fail
  go_ret
  exact ⟨rfl, HB.out⟩
set_option maxRecDepth 100000 in
set_option maxHeartbeats 2000000 in
theorem idxM {W : World} {p l c : Nat} {q : Option Addr} (hl : l ≤ 100000) (hE : ∀ i, i < l → ∃ (b o : Nat) (u0 u1 u2 u3 u4 u5 u6 : Value), q = some ⟨b, o, none⟩ ∧ AtC W b (o + i * 7) [u0, u1, u2, u3, u4, u5, u6] ∧ ∀ W', Below W.heap.size W W' → Calls Tryz.prog 77 #[.agg #[u0, u1, u2, u3, u4, u5, u6], .pointer (some ⟨p, 0, none⟩)] W' fun r w' => r = .returned (.bool false) ∧ Below W'.heap.size W' w') :
    Calls Tryz.prog 95 #[.slice q l c, .func (.func 77) #[] #[.pointer (some ⟨p, 0, none⟩)]] W fun r w' => r = .returned (.int .i64 (-1)) ∧ Below W.heap.size W w' := by
  have HE := Lib.hid hE
  have hz : (l : Int) ≤ 100000 := by omega
  clear hE hl
  go_enter Tryz.func95, Tryz.ntmps95
  go_wp2_with fail
  go_loopw [8] (fun iv wr => ∃ i : Nat, i ≤ l ∧ iv = .int .i64 i ∧ Hid (Below W.heap.size W wr)) (fun iv _ => l - (intOf iv).toNat)
  case atStart => exact ⟨0, Nat.zero_le _, rfl, Below.refl _ _⟩
  case round =>
    obtain ⟨i, hi, rfl, HB⟩ := hrel
    have hi0 : (0 : Int) ≤ i := by omega
    by_cases hlt : i < l
    · have hi1 : (i : Int) < l := by omega
      obtain ⟨b, o, u0, u1, u2, u3, u4, u5, u6, rfl, hc, HC⟩ := HE.out i hlt
      have HCL := Lib.hid (HC wr HB.out)
      have a0 := (hc.later HB.out).2 0 _ rfl
      have a1 := (hc.later HB.out).2 1 _ rfl
      have a2 := (hc.later HB.out).2 2 _ rfl
      have a3 := (hc.later HB.out).2 3 _ rfl
      have a4 := (hc.later HB.out).2 4 _ rfl
      have a5 := (hc.later HB.out).2 5 _ rfl
      have a6 := (hc.later HB.out).2 6 _ rfl
      simp only [Nat.add_zero] at a0
      clear HC hc hlt
      go_wp2_with fail
      refine HCL.out.mono ?_
      rintro r w1 ⟨rfl, b1⟩
      have HB := Lib.hid (HB.out.trans (b1.mono HB.out.size))
      clear b1 a0 a1 a2 a3 a4 a5 a6
      go_wp2_with fail
      go_roundw
      case rel => exact ⟨i + 1, by omega, by go_num, HB.out⟩
      case measure => simp [intOf]; omega
    · have hi1 : ¬ (i : Int) < l := by omega
      go_wp2_with fail
      go_ret
      exact ⟨rfl, HB.out⟩
set_option maxRecDepth 100000 in
set_option maxHeartbeats 2000000 in
theorem conM {W : World} {p l c : Nat} {q : Option Addr} (hl : l ≤ 100000) (hE : ∀ i, i < l → ∃ (b o : Nat) (u0 u1 u2 u3 u4 u5 u6 : Value), q = some ⟨b, o, none⟩ ∧ AtC W b (o + i * 7) [u0, u1, u2, u3, u4, u5, u6] ∧ ∀ W', Below W.heap.size W W' → Calls Tryz.prog 77 #[.agg #[u0, u1, u2, u3, u4, u5, u6], .pointer (some ⟨p, 0, none⟩)] W' fun r w' => r = .returned (.bool false) ∧ Below W'.heap.size W' w') :
    Calls Tryz.prog 76 #[.slice q l c, .func (.func 77) #[] #[.pointer (some ⟨p, 0, none⟩)]] W fun r w' => r = .returned (.bool false) ∧ Below W.heap.size W w' := by
  have HI := Lib.hid (idxM (c := c) hl hE)
  clear hE hl
  go_enter Tryz.func76, Tryz.ntmps76
  go_wp2_with fail
  refine HI.out.mono ?_
  rintro r w1 ⟨rfl, b1⟩
  have HB := Lib.hid b1
  clear b1
  go_wp2_with fail
  go_ret
  exact ⟨rfl, HB.out⟩
set_option maxRecDepth 100000 in
set_option maxHeartbeats 2000000 in
theorem cloM {W : World} {p : Nat} {u0 u1 u2 u3 u4 u5 u6 : Value} (hp : W.cell? ⟨p, 0, none⟩ = some (.func (.func 49) #[] #[])) (HS : ∀ W', Below W.heap.size W W' → Calls Tryz.prog 49 #[.agg #[u0, u1, u2, u3, u4, u5, u6]] W' fun r w' => r = .returned (.bool true) ∧ Below W'.heap.size W' w') :
    Calls Tryz.prog 77 #[.agg #[u0, u1, u2, u3, u4, u5, u6], .pointer (some ⟨p, 0, none⟩)] W fun r w' => r = .returned (.bool false) ∧ Below W.heap.size W w' := by
  have HB0 : Hid (Below W.heap.size W (W.alloc (.cells #[u0, u1, u2, u3, u4, u5, u6] 72))) := (Below.refl _ _).alloc (Nat.le_refl _) _
  have HH := Lib.hid (HS _ HB0.out)
  have hp1 := (HB0.out.cell (p := ⟨p, 0, none⟩) (World.block_lt_of_cell? W _ hp)).trans hp
  clear HS hp
  go_enter Tryz.func77, Tryz.ntmps77
  go_wp2_with fail
  refine HH.out.mono ?_
  rintro r w1 ⟨rfl, b1⟩
  have HB := Lib.hid (HB0.out.trans (b1.mono HB0.out.size))
  clear b1
  go_wp2_with fail
  go_ret
  exact ⟨rfl, HB.out⟩
set_option maxRecDepth 100000 in
set_option maxHeartbeats 2000000 in
theorem allM {W : World} {l c : Nat} {q : Option Addr} (hl : l ≤ 100000) (hE : ∀ i, i < l → ∃ (b o : Nat) (u0 u1 u2 u3 u4 u5 u6 : Value), q = some ⟨b, o, none⟩ ∧ AtC W b (o + i * 7) [u0, u1, u2, u3, u4, u5, u6] ∧ ∀ W', Below W.heap.size W W' → Calls Tryz.prog 49 #[.agg #[u0, u1, u2, u3, u4, u5, u6]] W' fun r w' => r = .returned (.bool true) ∧ Below W'.heap.size W' w') :
    Calls Tryz.prog 48 #[.slice q l c, .func (.func 49) #[] #[]] W fun r w' => r = .returned (.bool true) ∧ Below W.heap.size W w' := by
  have HB0 : Hid (Below W.heap.size W (W.alloc (.cells #[.func (.func 49) #[] #[]] 69))) := (Below.refl _ _).alloc (Nat.le_refl _) _
  have hbox : Arr (W.alloc (.cells #[.func (.func 49) #[] #[]] 69)) 69 W.heap.size [.func (.func 49) #[] #[]] := Arr.new' _ _ _ _ rfl
  have HI := Lib.hid (conM (W := W.alloc (.cells #[.func (.func 49) #[] #[]] 69)) (p := W.heap.size) (q := q) (c := c) hl fun i hi => by
    obtain ⟨b, o, u0, u1, u2, u3, u4, u5, u6, e, hc, HS⟩ := hE i hi
    exact ⟨b, o, u0, u1, u2, u3, u4, u5, u6, e, hc.later HB0.out, fun W' hW => cloM ((hW.cell (p := ⟨W.heap.size, 0, none⟩) hbox.lt).trans (hbox.cell 0)) fun W2 h2 => HS W2 (HB0.out.trans ((hW.trans (h2.mono hW.size)).mono HB0.out.size))⟩)
  clear hE hbox hl
  go_enter Tryz.func48, Tryz.ntmps48
  go_wp2_with fail
  refine HI.out.mono ?_
  rintro r w1 ⟨rfl, b1⟩
  have HB := Lib.hid (HB0.out.trans (b1.mono HB0.out.size))
  clear b1
  go_wp2_with fail
  go_ret
  exact ⟨rfl, HB.out⟩
set_option maxRecDepth 100000 in
set_option maxHeartbeats 2000000 in
theorem idxA {W : World} {p l c : Nat} {q : Option Addr} (hl : l ≤ 100000) (hE : ∀ i, i < l → ∃ (b o : Nat) (u0 u1 : Value), q = some ⟨b, o, none⟩ ∧ AtC W b (o + i * 2) [u0, u1] ∧ ∀ W', Below W.heap.size W W' → Calls Tryz.prog 97 #[.agg #[u0, u1], .pointer (some ⟨p, 0, none⟩)] W' fun r w' => r = .returned (.bool false) ∧ Below W'.heap.size W' w') :
    Calls Tryz.prog 110 #[.slice q l c, .func (.func 97) #[] #[.pointer (some ⟨p, 0, none⟩)]] W fun r w' => r = .returned (.int .i64 (-1)) ∧ Below W.heap.size W w' := by
  have HE := Lib.hid hE
  have hz : (l : Int) ≤ 100000 := by omega
  clear hE hl
  go_enter Tryz.func110, Tryz.ntmps110
  go_wp2_with fail
  go_loopw [8] (fun iv wr => ∃ i : Nat, i ≤ l ∧ iv = .int .i64 i ∧ Hid (Below W.heap.size W wr)) (fun iv _ => l - (intOf iv).toNat)
  case atStart => exact ⟨0, Nat.zero_le _, rfl, Below.refl _ _⟩
  case round =>
    obtain ⟨i, hi, rfl, HB⟩ := hrel
    have hi0 : (0 : Int) ≤ i := by omega
    by_cases hlt : i < l
    · have hi1 : (i : Int) < l := by omega
      obtain ⟨b, o, u0, u1, rfl, hc, HC⟩ := HE.out i hlt
      have HCL := Lib.hid (HC wr HB.out)
      have a0 := (hc.later HB.out).2 0 _ rfl
      have a1 := (hc.later HB.out).2 1 _ rfl
      simp only [Nat.add_zero] at a0
      clear HC hc hlt
      go_wp2_with fail
      refine HCL.out.mono ?_
      rintro r w1 ⟨rfl, b1⟩
      have HB := Lib.hid (HB.out.trans (b1.mono HB.out.size))
      clear b1 a0 a1
      go_wp2_with fail
      go_roundw
      case rel => exact ⟨i + 1, by omega, by go_num, HB.out⟩
      case measure => simp [intOf]; omega
    · have hi1 : ¬ (i : Int) < l := by omega
      go_wp2_with fail
      go_ret
      exact ⟨rfl, HB.out⟩
set_option maxRecDepth 100000 in
set_option maxHeartbeats 2000000 in
theorem conA {W : World} {p l c : Nat} {q : Option Addr} (hl : l ≤ 100000) (hE : ∀ i, i < l → ∃ (b o : Nat) (u0 u1 : Value), q = some ⟨b, o, none⟩ ∧ AtC W b (o + i * 2) [u0, u1] ∧ ∀ W', Below W.heap.size W W' → Calls Tryz.prog 97 #[.agg #[u0, u1], .pointer (some ⟨p, 0, none⟩)] W' fun r w' => r = .returned (.bool false) ∧ Below W'.heap.size W' w') :
    Calls Tryz.prog 96 #[.slice q l c, .func (.func 97) #[] #[.pointer (some ⟨p, 0, none⟩)]] W fun r w' => r = .returned (.bool false) ∧ Below W.heap.size W w' := by
  have HI := Lib.hid (idxA (c := c) hl hE)
  clear hE hl
  go_enter Tryz.func96, Tryz.ntmps96
  go_wp2_with fail
  refine HI.out.mono ?_
  rintro r w1 ⟨rfl, b1⟩
  have HB := Lib.hid b1
  clear b1
  go_wp2_with fail
  go_ret
  exact ⟨rfl, HB.out⟩
set_option maxRecDepth 100000 in
set_option maxHeartbeats 2000000 in
theorem cloA {W : World} {p : Nat} {u0 u1 : Value} (hp : W.cell? ⟨p, 0, none⟩ = some (.func (.func 79) #[] #[])) (HS : ∀ W', Below W.heap.size W W' → Calls Tryz.prog 79 #[.agg #[u0, u1]] W' fun r w' => r = .returned (.bool true) ∧ Below W'.heap.size W' w') :
    Calls Tryz.prog 97 #[.agg #[u0, u1], .pointer (some ⟨p, 0, none⟩)] W fun r w' => r = .returned (.bool false) ∧ Below W.heap.size W w' := by
  have HB0 : Hid (Below W.heap.size W (W.alloc (.cells #[u0, u1] 105))) := (Below.refl _ _).alloc (Nat.le_refl _) _
  have HH := Lib.hid (HS _ HB0.out)
  have hp1 := (HB0.out.cell (p := ⟨p, 0, none⟩) (World.block_lt_of_cell? W _ hp)).trans hp
  clear HS hp
  go_enter Tryz.func97, Tryz.ntmps97
  go_wp2_with fail
  refine HH.out.mono ?_
  rintro r w1 ⟨rfl, b1⟩
  have HB := Lib.hid (HB0.out.trans (b1.mono HB0.out.size))
  clear b1
  go_wp2_with fail
  go_ret
  exact ⟨rfl, HB.out⟩
set_option maxRecDepth 100000 in
set_option maxHeartbeats 2000000 in
theorem allA {W : World} {l c : Nat} {q : Option Addr} (hl : l ≤ 100000) (hE : ∀ i, i < l → ∃ (b o : Nat) (u0 u1 : Value), q = some ⟨b, o, none⟩ ∧ AtC W b (o + i * 2) [u0, u1] ∧ ∀ W', Below W.heap.size W W' → Calls Tryz.prog 79 #[.agg #[u0, u1]] W' fun r w' => r = .returned (.bool true) ∧ Below W'.heap.size W' w') :
    Calls Tryz.prog 78 #[.slice q l c, .func (.func 79) #[] #[]] W fun r w' => r = .returned (.bool true) ∧ Below W.heap.size W w' := by
  have HB0 : Hid (Below W.heap.size W (W.alloc (.cells #[.func (.func 79) #[] #[]] 103))) := (Below.refl _ _).alloc (Nat.le_refl _) _
  have hbox : Arr (W.alloc (.cells #[.func (.func 79) #[] #[]] 103)) 103 W.heap.size [.func (.func 79) #[] #[]] := Arr.new' _ _ _ _ rfl
  have HI := Lib.hid (conA (W := W.alloc (.cells #[.func (.func 79) #[] #[]] 103)) (p := W.heap.size) (q := q) (c := c) hl fun i hi => by
    obtain ⟨b, o, u0, u1, e, hc, HS⟩ := hE i hi
    exact ⟨b, o, u0, u1, e, hc.later HB0.out, fun W' hW => cloA ((hW.cell (p := ⟨W.heap.size, 0, none⟩) hbox.lt).trans (hbox.cell 0)) fun W2 h2 => HS W2 (HB0.out.trans ((hW.trans (h2.mono hW.size)).mono HB0.out.size))⟩)
  clear hE hbox hl
  go_enter Tryz.func78, Tryz.ntmps78
  go_wp2_with fail
  refine HI.out.mono ?_
  rintro r w1 ⟨rfl, b1⟩
  have HB := Lib.hid (HB0.out.trans (b1.mono HB0.out.size))
  clear b1
  go_wp2_with fail
  go_ret
  exact ⟨rfl, HB.out⟩
end Go.Proofs.YteieimchleioaaaGreatDoor
/-
  schema.Form of a schema that was read.
-/
namespace Go.Proofs.YteieimchleioaaaGreatDoor
open Go.ChangeShapes Go.WideShapes Go.ChangeAt Go.RowKit
set_option linter.unusedVariables false

theorem alls_of {P : Nat → Prop} {w : World} {ls : List AlB} {q : Option Addr} {c : Nat} (h : RdA P w ls (.slice q ls.length c)) (hP : ∀ b, P b → b < w.heap.size) (ha : ∀ a ∈ ls, GoodA a) : ∀ i, i < ls.length → ∃ (b o : Nat) (t r : ByteArray), q = some ⟨b, o, none⟩ ∧ AtC w b (o + i * 2) [.string t, .string r] ∧ isName t = true ∧ (r = ⟨#[]⟩ ∨ isName r = true) := by
  intro i hi
  obtain ⟨b, o, e, hb, x0, x1⟩ := h.at hi
  have hg : GoodA (ls.getD i ([], [])) := ha _ (by rw [List.getD_eq_getElem?_getD, List.getElem?_eq_getElem hi]; exact List.getElem_mem hi)
  refine ⟨b, o, _, _, e, ⟨hP b hb, fun j u hj => ?_⟩, hg.1, hg.2.imp (fun e => by rw [e]; rfl) id⟩
  match j, hj with
  | 0, hj => cases hj; exact x0
  | 1, hj => cases hj; exact x1
theorem mems_of {P : Nat → Prop} {w : World} {l : List MemB} {q : Option Addr} {c : Nat} (h : RdK kdMem P w l (.slice q l.length c)) (hP : ∀ b, P b → b < w.heap.size) : ∀ i, i < l.length → ∃ (b o : Nat) (x : MemB) (u0 u1 u2 u3 u4 u5 u6 : Value), q = some ⟨b, o, none⟩ ∧ AtC w b (o + i * 7) [u0, u1, u2, u3, u4, u5, u6] ∧ x ∈ l ∧ rdMem P w x [u0, u1, u2, u3, u4, u5, u6] := by
  intro i hi
  obtain ⟨x, hx⟩ : ∃ x, l[i]? = some x := ⟨_, List.getElem?_eq_getElem hi⟩
  have hm := List.mem_of_getElem? hx
  obtain ⟨b, o, a, e, hb, r, x1⟩ := h.at hx
  rw [show kdMem.size = 7 from rfl] at x1
  obtain ⟨n, k, ls, mk, mv, mn, ms⟩ := x
  obtain ⟨qa, ca, q4, c4, rfl, _, _⟩ := rdMem_form r
  exact ⟨b, o, _, _, _, _, _, _, _, _, e, ⟨hP b hb, x1⟩, hm, r⟩
theorem defs_of {P : Nat → Prop} {w : World} {l : List DefB} {q : Option Addr} {c : Nat} (h : RdK kdDef P w l (.slice q l.length c)) (hP : ∀ b, P b → b < w.heap.size) : ∀ i, i < l.length → ∃ (b o : Nat) (n : List UInt8) (m : List MemB) (q2 : Option Addr) (c2 : Nat), q = some ⟨b, o, none⟩ ∧ AtC w b (o + i * 2) [.string (bstr n), .slice q2 m.length c2] ∧ (n, m) ∈ l ∧ RdK kdMem P w m (.slice q2 m.length c2) := by
  intro i hi
  obtain ⟨x, hx⟩ : ∃ x, l[i]? = some x := ⟨_, List.getElem?_eq_getElem hi⟩
  have hm := List.mem_of_getElem? hx
  obtain ⟨b, o, a, e, hb, r, x1⟩ := h.at hx
  rw [show kdDef.size = 2 from rfl] at x1
  obtain ⟨n, m⟩ := x
  obtain ⟨u, rfl, r⟩ := r
  have r2 := r
  obtain ⟨q2, c2, rfl, _⟩ := r
  exact ⟨b, o, n, m, q2, c2, e, ⟨hP b hb, x1⟩, hm, r2⟩
theorem rdA_keep {P : Nat → Prop} {w w' : World} {l : List AlB} {v : Value} (h : RdA P w l v) (hb : Below w.heap.size w w') (hP : ∀ b, P b → b < w.heap.size) : RdA P w' l v := h.keep fun b hb' n => hb.cell (p := ⟨b, n, none⟩) (hP b hb')
theorem rdMem_keep {P : Nat → Prop} {w w' : World} {m : MemB} {cs : List Value} (h : rdMem P w m cs) (hb : Below w.heap.size w w') (hP : ∀ b, P b → b < w.heap.size) : rdMem P w' m cs := h.keep fun b hb' n => hb.cell (p := ⟨b, n, none⟩) (hP b hb')
theorem rdK_keep {α : Type} {K : Kd α} {P : Nat → Prop} {w w' : World} {l : List α} {v : Value} (h : RdK K P w l v) (hb : Below w.heap.size w w') (hP : ∀ b, P b → b < w.heap.size) : RdK K P w' l v := h.keep fun b hb' n => hb.cell (p := ⟨b, n, none⟩) (hP b hb')
theorem lt_keep {P : Nat → Prop} {w w' : World} (hb : Below w.heap.size w w') (hP : ∀ b, P b → b < w.heap.size) : ∀ b, P b → b < w'.heap.size := fun b h => Nat.lt_of_lt_of_le (hP b h) hb.size
set_option maxRecDepth 100000 in
set_option maxHeartbeats 2000000 in
theorem mhf_rel {ls : List AlB} {tn : ByteArray} {qa q4 : Option Addr} {ca c4 : Nat} {P : Nat → Prop} {w : World} (hn : isName tn = true) (h1 : RdA P w ls (.slice qa ls.length ca)) (hP : ∀ b, P b → b < w.heap.size) (ha : ∀ a ∈ ls, GoodA a) (hl1 : 1 ≤ ls.length) (hl2 : ls.length ≤ 32) (hr : ResT w) :
    Calls Tryz.prog 49 #[.agg #[.string tn, .int .i64 1, .slice qa ls.length ca, .int .i64 0, .string ⟨#[]⟩, .string ⟨#[]⟩, .slice q4 0 c4]] w fun e w' => e = .returned (.bool true) ∧ Below w.heap.size w w' := by
  have hb0 : Below w.heap.size w (w.alloc (.cells #[.string tn, .int .i64 1, .slice qa ls.length ca, .int .i64 0, .string ⟨#[]⟩, .string ⟨#[]⟩, .slice q4 0 c4] 72)) := (Below.refl _ _).alloc (Nat.le_refl _) _
  have HB := Lib.hid hb0
  have HX : Hid (Arr (w.alloc (.cells #[.string tn, .int .i64 1, .slice qa ls.length ca, .int .i64 0, .string ⟨#[]⟩, .string ⟨#[]⟩, .slice q4 0 c4] 72)) 72 w.heap.size [.string tn, .int .i64 1, .slice qa ls.length ca, .int .i64 0, .string ⟨#[]⟩, .string ⟨#[]⟩, .slice q4 0 c4]) := Arr.new' _ _ _ _ rfl
  have HR : Hid (ResT (w.alloc (.cells #[.string tn, .int .i64 1, .slice qa ls.length ca, .int .i64 0, .string ⟨#[]⟩, .string ⟨#[]⟩, .slice q4 0 c4] 72))) := hr.below hb0 hr.lt
  have HN := Lib.hid (isName_at tn hn _ HR.out)
  have H1 := Lib.hid (rdA_keep h1 hb0 hP)
  have HP := Lib.hid (lt_keep hb0 hP)
  have HG := Lib.hid ha
  have hz1 : (0 : Int) < ls.length := by omega
  have hz2 : (ls.length : Int) ≤ 32 := by omega
  have HL : Hid (ls.length ≤ 100000) := by show _ ≤ _; omega
  clear hb0 h1 hP ha hl1 hl2 hr hn
  go_enter Tryz.func49, Tryz.ntmps49
  go_upto_region 1 with (fail)
  generalize (w.alloc (.cells #[.string tn, .int .i64 1, .slice qa ls.length ca, .int .i64 0, .string ⟨#[]⟩, .string ⟨#[]⟩, .slice q4 0 c4] 72)) = w0 at HX HB HR HN H1 HP ⊢
  obtain ⟨x0, y0, x1, y1, x2, y2, x3, y3, x4, y4, x5, y5, x6, y6⟩ := HX.out.all7
  go_wp2_with fail
  refine HN.out.mono ?_
  rintro e w1 ⟨rfl, b1⟩
  have HB := Lib.hid (HB.out.trans (b1.mono HB.out.size))
  have HX := Lib.hid (HX.out.later b1)
  have HR : Hid (ResT w1) := HR.out.below b1 HR.out.lt
  have HA := Lib.hid (allA (W := w1) (c := ca) HL.out fun i hi => by
    obtain ⟨b, o, t, r, e, hc, g1, g2⟩ := alls_of (rdA_keep H1.out b1 HP.out) (lt_keep b1 HP.out) HG.out i hi
    exact ⟨b, o, _, _, e, hc, fun W' hW => isRight_any t r W' (HR.out.below hW HR.out.lt) g1 g2⟩)
  clear b1
  clear x0 y0 x1 y1 x2 y2 x3 y3 x4 y4 x5 y5 x6 y6
  obtain ⟨x0, y0, x1, y1, x2, y2, x3, y3, x4, y4, x5, y5, x6, y6⟩ := HX.out.all7
  go_wp2_with fail
  refine HA.out.mono ?_
  rintro e w2 ⟨rfl, b1⟩
  have HB := Lib.hid (HB.out.trans (b1.mono HB.out.size))
  have HX := Lib.hid (HX.out.later b1)
  have hz : ∀ q c, RdE (fun _ => False) w2 (.mk 0 [] [] []) (.agg #[.int .i64 0, .string ⟨#[]⟩, .string ⟨#[]⟩, .slice q 0 c]) := fun q c => by unfold RdE; exact ⟨q, c, rfl, Nat.zero_le _, fun h => by simp at h⟩
  have HS : Hid (Calls Tryz.prog 80 #[.agg #[.int .i64 0, .string ⟨#[]⟩, .string ⟨#[]⟩, .slice q4 0 c4], .agg #[.int .i64 0, .string ⟨#[]⟩, .string ⟨#[]⟩, .slice none 0 0]] w2 fun r w' => r = .returned (.bool true) ∧ Below w2.heap.size w2 w') := by
    have h := esame_any (.mk 0 [] [] []) (.mk 0 [] [] []) _ _ (fun _ => False) (fun _ => False) w2 (by decide) (by decide) (hz q4 c4) (hz none 0) (fun b hb => hb.elim) (fun b hb => hb.elim)
    rw [cmpE_self] at h
    exact h
  clear b1 hz
  clear x0 y0 x1 y1 x2 y2 x3 y3 x4 y4 x5 y5 x6 y6
  obtain ⟨x0, y0, x1, y1, x2, y2, x3, y3, x4, y4, x5, y5, x6, y6⟩ := HX.out.all7
  go_wp2_with fail
  refine HS.out.mono ?_
  rintro r w3 ⟨rfl, b3⟩
  have HB := Lib.hid (HB.out.trans (b3.mono HB.out.size))
  clear b3
  go_wp2_with fail
  go_ret
  exact ⟨rfl, HB.out⟩
set_option maxRecDepth 100000 in
set_option maxHeartbeats 2000000 in
theorem mhf_perm {mk : Int} {mv mn : List UInt8} {ms : List Ex} {tn : ByteArray} {qa q4 : Option Addr} {ca c4 : Nat} {P : Nat → Prop} {w : World} (hn : isName tn = true) (h1 : RdE P w (.mk mk mv mn ms) (.agg #[.int .i64 mk, .string (bstr mv), .string (bstr mn), .slice q4 ms.length c4])) (hP : ∀ b, P b → b < w.heap.size) (hg : rightE (.mk mk mv mn ms) = true) (hsz : sizeE (.mk mk mv mn ms) ≤ 64) (hr : ResT w) :
    Calls Tryz.prog 49 #[.agg #[.string tn, .int .i64 2, .slice qa 0 ca, .int .i64 mk, .string (bstr mv), .string (bstr mn), .slice q4 ms.length c4]] w fun e w' => e = .returned (.bool true) ∧ Below w.heap.size w w' := by
  have hb0 : Below w.heap.size w (w.alloc (.cells #[.string tn, .int .i64 2, .slice qa 0 ca, .int .i64 mk, .string (bstr mv), .string (bstr mn), .slice q4 ms.length c4] 72)) := (Below.refl _ _).alloc (Nat.le_refl _) _
  have HB := Lib.hid hb0
  have HX : Hid (Arr (w.alloc (.cells #[.string tn, .int .i64 2, .slice qa 0 ca, .int .i64 mk, .string (bstr mv), .string (bstr mn), .slice q4 ms.length c4] 72)) 72 w.heap.size [.string tn, .int .i64 2, .slice qa 0 ca, .int .i64 mk, .string (bstr mv), .string (bstr mn), .slice q4 ms.length c4]) := Arr.new' _ _ _ _ rfl
  have HR : Hid (ResT (w.alloc (.cells #[.string tn, .int .i64 2, .slice qa 0 ca, .int .i64 mk, .string (bstr mv), .string (bstr mn), .slice q4 ms.length c4] 72))) := hr.below hb0 hr.lt
  have HN := Lib.hid (isName_at tn hn _ HR.out)
  have H1 := Lib.hid (h1.below hb0 hP)
  have HP := Lib.hid (lt_keep hb0 hP)
  have HG := Lib.hid hg
  have HZ := Lib.hid hsz
  clear hb0 h1 hP hg hsz hr hn
  go_enter Tryz.func49, Tryz.ntmps49
  go_upto_region 1 with (fail)
  generalize (w.alloc (.cells #[.string tn, .int .i64 2, .slice qa 0 ca, .int .i64 mk, .string (bstr mv), .string (bstr mn), .slice q4 ms.length c4] 72)) = w0 at HX HB HR HN H1 HP ⊢
  obtain ⟨x0, y0, x1, y1, x2, y2, x3, y3, x4, y4, x5, y5, x6, y6⟩ := HX.out.all7
  go_wp2_with fail
  refine HN.out.mono ?_
  rintro e w1 ⟨rfl, b1⟩
  have HB := Lib.hid (HB.out.trans (b1.mono HB.out.size))
  have HX := Lib.hid (HX.out.later b1)
  have HR : Hid (ResT w1) := HR.out.below b1 HR.out.lt
  have HS : Hid (Calls Tryz.prog 81 #[.agg #[.int .i64 mk, .string (bstr mv), .string (bstr mn), .slice q4 ms.length c4]] w1 fun r w' => r = .returned (.bool true) ∧ Below w1.heap.size w1 w') := by
    have h := eright_any (.mk mk mv mn ms) _ P w1 (Nat.le_trans HZ.out (by decide)) (H1.out.below b1 HP.out) (lt_keep b1 HP.out) HR.out
    rw [HG.out] at h
    exact h
  clear b1
  clear x0 y0 x1 y1 x2 y2 x3 y3 x4 y4 x5 y5 x6 y6
  obtain ⟨x0, y0, x1, y1, x2, y2, x3, y3, x4, y4, x5, y5, x6, y6⟩ := HX.out.all7
  go_wp2_with fail
  refine HS.out.mono ?_
  rintro r w3 ⟨rfl, b3⟩
  have HB := Lib.hid (HB.out.trans (b3.mono HB.out.size))
  clear b3
  go_wp2_with fail
  go_ret
  exact ⟨rfl, HB.out⟩
theorem mhf_any (x : MemB) (cs : List Value) (P : Nat → Prop) (w : World) (h : rdMem P w x cs) (hP : ∀ b, P b → b < w.heap.size) (hg : GoodM x) (hr : ResT w) : Calls Tryz.prog 49 #[.agg cs.toArray] w fun e w' => e = .returned (.bool true) ∧ Below w.heap.size w w' := by
  obtain ⟨n, k, ls, mk, mv, mn, ms⟩ := x
  obtain ⟨qa, ca, q4, c4, rfl, h3, h4⟩ := rdMem_form h
  obtain ⟨hn, ⟨hk, h1, h2, ha, he⟩ | ⟨hk, hl, he⟩⟩ := hg
  · have hk : k = 1 := hk
    have he : Ex.mk mk mv mn ms = .mk 0 [] [] [] := he
    cases he
    subst hk
    exact mhf_rel hn h3 hP ha h1 h2 hr
  · have hk : k = 2 := hk
    have hl : ls = [] := hl
    subst hk
    subst hl
    exact mhf_perm hn h4 hP he.1 he.2.2 hr
set_option maxRecDepth 100000 in
set_option maxHeartbeats 2000000 in
theorem hf_any (l : List MemB) (tn : ByteArray) (q : Option Addr) (c : Nat) (P : Nat → Prop) (w : World) (hn : isName tn = true) (h : RdK kdMem P w l (.slice q l.length c)) (hP : ∀ b, P b → b < w.heap.size) (hl : l.length ≤ 64) (hg : ∀ m ∈ l, GoodM m) (hr : ResT w) :
    Calls Tryz.prog 24 #[.agg #[.string tn, .slice q l.length c]] w fun e w' => e = .returned (.bool true) ∧ Below w.heap.size w w' := by
  have hb0 : Below w.heap.size w (w.alloc (.cells #[.string tn, .slice q l.length c] 44)) := (Below.refl _ _).alloc (Nat.le_refl _) _
  have HB := Lib.hid hb0
  have HX : Hid (Arr (w.alloc (.cells #[.string tn, .slice q l.length c] 44)) 44 w.heap.size [.string tn, .slice q l.length c]) := Arr.new' _ _ _ _ rfl
  have HR : Hid (ResT (w.alloc (.cells #[.string tn, .slice q l.length c] 44))) := hr.below hb0 hr.lt
  have HN := Lib.hid (isName_at tn hn _ HR.out)
  have H1 := Lib.hid (rdK_keep h hb0 hP)
  have HP := Lib.hid (lt_keep hb0 hP)
  have HG := Lib.hid hg
  have hz2 : (l.length : Int) ≤ 64 := by omega
  have HL : Hid (l.length ≤ 100000) := by show _ ≤ _; omega
  clear hb0 h hP hg hl hr hn
  go_enter Tryz.func24, Tryz.ntmps24
  go_upto_region 1 with (fail)
  generalize (w.alloc (.cells #[.string tn, .slice q l.length c] 44)) = w0 at HX HB HR HN H1 HP ⊢
  obtain ⟨x0, y0, x1, y1⟩ := HX.out.all2
  go_wp2_with fail
  refine HN.out.mono ?_
  rintro e w1 ⟨rfl, b1⟩
  have HB := Lib.hid (HB.out.trans (b1.mono HB.out.size))
  have HX := Lib.hid (HX.out.later b1)
  have HR : Hid (ResT w1) := HR.out.below b1 HR.out.lt
  have HA := Lib.hid (allM (W := w1) (c := c) HL.out fun i hi => by
    obtain ⟨b, o, x, u0, u1, u2, u3, u4, u5, u6, e, hc, hm, r⟩ := mems_of (rdK_keep H1.out b1 HP.out) (lt_keep b1 HP.out) i hi
    exact ⟨b, o, u0, u1, u2, u3, u4, u5, u6, e, hc, fun W' hW => mhf_any x _ P W' (rdMem_keep r hW (lt_keep b1 HP.out)) (lt_keep hW (lt_keep b1 HP.out)) (HG.out x hm) (HR.out.below hW HR.out.lt)⟩)
  clear b1
  clear x0 y0 x1 y1
  obtain ⟨x0, y0, x1, y1⟩ := HX.out.all2
  go_wp2_with fail
  refine HA.out.mono ?_
  rintro r w3 ⟨rfl, b3⟩
  have HB := Lib.hid (HB.out.trans (b3.mono HB.out.size))
  clear b3
  go_wp2_with fail
  go_ret
  exact ⟨rfl, HB.out⟩
set_option maxRecDepth 100000 in
set_option maxHeartbeats 2000000 in
theorem form_any (l : List DefB) (q : Option Addr) (c : Nat) (P : Nat → Prop) (w : World) (h : RdK kdDef P w l (.slice q l.length c)) (hP : ∀ b, P b → b < w.heap.size) (hg : GoodS l) (hr : ResT w) :
    Calls Tryz.prog 9 #[.agg #[.slice q l.length c]] w fun e w' => e = .returned (.bool true) ∧ Below w.heap.size w w' := by
  have hb0 : Below w.heap.size w (w.alloc (.cells #[.slice q l.length c] 25)) := (Below.refl _ _).alloc (Nat.le_refl _) _
  have HB := Lib.hid hb0
  have HX : Hid (Arr (w.alloc (.cells #[.slice q l.length c] 25)) 25 w.heap.size [.slice q l.length c]) := Arr.new' _ _ _ _ rfl
  have HR : Hid (ResT (w.alloc (.cells #[.slice q l.length c] 25))) := hr.below hb0 hr.lt
  have H1 := Lib.hid (rdK_keep h hb0 hP)
  have HP := Lib.hid (lt_keep hb0 hP)
  have HG := Lib.hid hg.2
  have hz2 : (l.length : Int) ≤ 64 := by have := hg.1; omega
  have HL : Hid (l.length ≤ 100000) := by have := hg.1; show _ ≤ _; omega
  clear hb0 h hP hg hr
  go_enter Tryz.func9, Tryz.ntmps9
  go_upto_region 1 with (fail)
  generalize (w.alloc (.cells #[.slice q l.length c] 25)) = w0 at HX HB HR H1 HP ⊢
  obtain ⟨x0, y0⟩ := HX.out.all1
  have HA := Lib.hid (allD (W := w0) (c := c) HL.out fun i hi => by
    obtain ⟨b, o, n, m, q2, c2, e, hc, hm, r⟩ := defs_of H1.out HP.out i hi
    have g := HG.out _ hm
    exact ⟨b, o, _, _, e, hc, fun W' hW => hf_any m (bstr n) q2 c2 P W' g.1 (rdK_keep r hW HP.out) (lt_keep hW HP.out) g.2.1 g.2.2 (HR.out.below hW HR.out.lt)⟩)
  go_wp2_with fail
  refine HA.out.mono ?_
  rintro r w3 ⟨rfl, b3⟩
  have HB := Lib.hid (HB.out.trans (b3.mono HB.out.size))
  clear b3
  go_wp2_with fail
  go_ret
  exact ⟨rfl, HB.out⟩
end Go.Proofs.YteieimchleioaaaGreatDoor
/-
  vestryref10.Leaves, Right.
-/
namespace Go.Proofs.YteieimchleioaaaGreatDoor
open Go.ChangeShapes Go.WideShapes Go.ChangeAt Go.RowKit
set_option linter.unusedVariables false

/-- v is a slice of the call's own of expressions whose kids lie in blocks of P. -/
def LvRow (P : Nat → Prop) (base : Nat) (w : World) (v : Value) (ks : List Ex) : Prop := ∃ cs, w.ownsRow base 38 4 v ks.length cs ∧ CellsL P w ks cs
theorem LvRow.nil (P : Nat → Prop) (base : Nat) (w : World) : LvRow P base w (.slice none 0 0) [] := ⟨[], World.ownsRow_nil _ _ _ _, trivial⟩
theorem LvRow.form {P : Nat → Prop} {base : Nat} {w : World} {v : Value} {ks : List Ex} (h : LvRow P base w v ks) : ∃ q c, v = .slice q ks.length c := by
 obtain ⟨cs, h1, _⟩ := h
 rcases h1.2 with ⟨h, hn⟩ | ⟨g, cap, cur, hv, _⟩
 ·exact ⟨none, 0, by rw [hn]; exact h⟩
 ·exact ⟨_, _, hv⟩
theorem LvRow.later {P : Nat → Prop} {base : Nat} {w w' : World} {v : Value} {ks : List Ex} (h : LvRow P base w v ks) (hb : Below w.heap.size w w') (hP : ∀ b, P b → b < w.heap.size) : LvRow P base w' v ks := by
 obtain ⟨cs, h1, h2⟩ := h
 refine ⟨cs, ⟨h1.1, ?_⟩, h2.keep (cells_below hb hP)⟩
 rcases h1.2 with h | ⟨g, cap, cur, rfl, h0, hg, r⟩
 ·exact .inl h
 ·exact .inr ⟨g, cap, cur, rfl, h0, (hb.block g (Array.getElem?_eq_some_iff.1 hg).1).trans hg, r⟩
theorem CellsL.app {P : Nat → Prop} {w : World} : ∀ {ks : List Ex} {cs : List Value} {ls : List Ex} {ds : List Value}, CellsL P w ks cs → CellsL P w ls ds → CellsL P w (ks ++ ls) (cs ++ ds)
 | [], [], _, _, _, h2 => h2
 | e :: r, v0 :: v1 :: v2 :: v3 :: cs, _, _, h, h2 => ⟨h.1, CellsL.app h.2 h2⟩
 | [], _ :: _, _, _, h, _ => h.elim
 | _ :: _, [], _, _, h, _ => h.elim
 | _ :: _, [_], _, _, h, _ => h.elim
 | _ :: _, [_, _], _, _, h, _ => h.elim
 | _ :: _, [_, _, _], _, _, h, _ => h.elim
/-- The row read as a slice. -/
theorem LvRow.rdL {P : Nat → Prop} {base : Nat} {w : World} {q : Option Addr} {n c : Nat} {ks : List Ex} (h : LvRow P base w (.slice q n c) ks) : n = ks.length ∧ ks.length ≤ c ∧ (0 < ks.length → ∃ b, q = some ⟨b, 0, none⟩ ∧ base ≤ b ∧ b < w.heap.size ∧ RdL P w ks b 0) := by
 obtain ⟨cs, h1, h2⟩ := h
 rcases h1.2 with ⟨hv, hn⟩ | ⟨g, cap, cur, hv, h0, hg, hcap, _, hcz, htk⟩
 ·simp only [Value.slice.injEq] at hv
  obtain ⟨rfl, rfl, rfl⟩ := hv
  exact ⟨hn.symm, by omega, fun h => by omega⟩
 ·simp only [Value.slice.injEq] at hv
  obtain ⟨rfl, rfl, rfl⟩ := hv
  refine ⟨rfl, hcap, fun _ => ⟨g, rfl, h0, (Array.getElem?_eq_some_iff.1 hg).1, ?_⟩⟩
  refine h2.rdL fun j u hj => ?_
  rw [Nat.zero_add]
  have hjl : j < cs.length := (List.getElem?_eq_some_iff.1 hj).1
  rw [cell_of_row w g _ cur _ (0, 0) hg, ← Array.getElem?_toList]
  rw [← htk, List.getElem?_take, if_pos (by rw [h1.1] at hjl; exact hjl)] at hj
  exact hj
theorem app_lv {ops : Array Oper} {rest : List Oper} {o : Oper} {a : Act} {Q : Exit → Act → World → Prop} {w : World} (hgd : o.guard = none) (s x : Operand) (ho : o.op = .call { callee := .builtin .append, args := #[s, x], argTypes := #[36, 36] })
  {P : Nat → Prop} {base base2 : Nat} {v vx : Value} {ks ls : List Ex} (hs : a.eval s = v) (hown : LvRow P base w v ks) (hx : a.eval x = vx) (h2 : LvRow P base2 w vx ls) (hP : ∀ b, P b → b < base)
  (hlen : ks.length + ls.length ≤ 1000000) (hbase : base ≤ w.heap.size)
  (h : ∀ v' w', LvRow P base w' v' (ks ++ ls) → Below base w w' → wpList Tryz.prog ops Q rest (a.put o.dst v') w') : wpList Tryz.prog ops Q (o :: rest) a w := by
 obtain ⟨i0, hi, hz0, hz1, hz2⟩ := info_parts Tryz.infoEx
 obtain ⟨cs, h1, hc1⟩ := hown
 obtain ⟨ds, h3, hc3⟩ := h2
 rcases h3.2 with ⟨hv, hn⟩ | ⟨g, cap, cur, hv, h0, hg, hcap, _, hcz, htk⟩
 ·obtain rfl : ls = [] := List.eq_nil_of_length_eq_zero hn
  rw [hv] at hx
  refine wpList_append_own_none hgd s x 36 ho base 38 i0 4 Tryz.underlying36 hi v ks.length cs hs h1 hx ?_
  refine h v w ⟨cs, by rw [List.append_nil]; exact h1, by rw [List.append_nil]; exact hc1⟩ (Below.refl _ _)
 ·rw [hv] at hx
  refine wpList_append_own w hgd s x 36 ho base 38 i0 _ 4 64 Tryz.underlying36 hi hz0 hz1 hz2 rfl (by decide) v ks.length cs hs h1 ⟨g, 0, none⟩ ls.length cap ds hx h3.1 ?_ hc3.ones (by unfold maxLen; omega) (by omega) hbase ?_
  ·intro j u hj
   have hjl : j < ds.length := (List.getElem?_eq_some_iff.1 hj).1
   rw [show (Addr.add ⟨g, 0, none⟩ j) = ⟨g, j, none⟩ by cases j <;> simp [Addr.add], cell_of_row w g _ cur _ (0, 0) hg, ← Array.getElem?_toList]
   rw [← htk, List.getElem?_take, if_pos (by rw [h3.1] at hjl; exact hjl)] at hj
   exact hj
  ·intro v' w' r1 r2 _
   have hb : Below base w w' := (Below.refl _ _).grown r2 hbase (fun k hk => (h1.lt k hk).1)
   exact h v' w' ⟨cs ++ ds, by rw [List.length_append]; exact r1, (hc1.app hc3).keep (cells_below hb hP)⟩ hb

set_option maxRecDepth 100000 in
set_option maxHeartbeats 4000000 in
theorem rleaves_any : ∀ (n : Nat) (e : Ex) (v : Value) (P : Nat → Prop) (w : World), sizeE e ≤ n → sizeE e ≤ 900000 → RdE P w e v → (∀ b, P b → b < w.heap.size) → Calls Tryz.prog 83 #[v] w fun r w' => ∃ v', r = .returned v' ∧ LvRow P w.heap.size w' v' (leavesE e) ∧ Below w.heap.size w w' := by
 intro n
 induction n with
 | zero => intro e v P w h; have := sizeE_pos e; omega
 | succ n ih =>
  intro e v P w hn hm h hP
  have H := Lib.hid h
  obtain ⟨q, c, rfl, hc, hk⟩ := h.form
  obtain ⟨k, xv, xn, ks⟩ := e
  unfold exv
  show Calls _ _ #[.agg #[.int .i64 k, .string (bstr xv), .string (bstr xn), .slice q ks.length c]] _ _
  have HK : Hid (0 < ks.length → ∃ b o, q = some ⟨b, o, none⟩ ∧ P b ∧ RdL P w ks b o) := hk
  have hks : sizeL ks ≤ n := by unfold sizeE at hn; omega
  have hkm : sizeL ks ≤ 900000 := by unfold sizeE at hm; omega
  have hlen := sizeL_len ks
  have HIH := Lib.hid ih
  have HP := Lib.hid hP
  have HB0 : Hid (Below w.heap.size w (w.alloc (.cells #[.int .i64 k, .string (bstr xv), .string (bstr xn), .slice q ks.length c] 38))) := (Below.refl _ _).alloc (Nat.le_refl _) _
  have HA0 : Hid (Arr (w.alloc (.cells #[.int .i64 k, .string (bstr xv), .string (bstr xn), .slice q ks.length c] 38)) 38 w.heap.size [.int .i64 k, .string (bstr xv), .string (bstr xn), .slice q ks.length c]) := Arr.new' _ _ _ _ rfl
  have HP0 : Hid (∀ b, P b → b < (w.alloc (.cells #[.int .i64 k, .string (bstr xv), .string (bstr xn), .slice q ks.length c] 38)).heap.size) := fun b hb => Nat.lt_of_lt_of_le (hP b hb) HB0.out.size
  have HLF : Hid (Calls Tryz.prog 103 #[.agg #[.int .i64 k, .string (bstr xv), .string (bstr xn), .slice q ks.length c]] (w.alloc (.cells #[.int .i64 k, .string (bstr xv), .string (bstr xn), .slice q ks.length c] 38)) fun r w' => r = .returned (.bool (leafK k)) ∧ Below (w.alloc (.cells #[.int .i64 k, .string (bstr xv), .string (bstr xn), .slice q ks.length c] 38)).heap.size (w.alloc (.cells #[.int .i64 k, .string (bstr xv), .string (bstr xn), .slice q ks.length c] 38)) w') := rleaf_any (e := .mk k xv xn ks) (H.out.below HB0.out hP)
  obtain ⟨lf, hlf⟩ : ∃ lf, lf = leafK k := ⟨_, rfl⟩
  rw [← hlf] at HLF
  have HLK := Lib.hid hlf
  clear h ih hc hk hn hm hlf hP
  go_enter Tryz.func83, Tryz.ntmps83
  go_wp2_with fail
  refine HLF.out.mono ?_
  rintro r w2 ⟨rfl, b2⟩
  have HA2 := Lib.hid (HA0.out.later b2)
  have HB2 := Lib.hid (HB0.out.trans (b2.mono HB0.out.size))
  clear b2 HA0 HB0 HLF HP0
  have a0 := HA2.out.cell 0
  have a1 := HA2.out.cell 1
  have a2 := HA2.out.cell 2
  have a3 := HA2.out.cell 3
  simp only [List.getElem?_cons_zero, List.getElem?_cons_succ] at a0 a1 a2 a3
  cases lf with
  | true =>
   have HL : Hid (leavesE (.mk k xv xn ks) = [.mk k xv xn ks]) := leaves_leaf HLK.out.symm
   go_wp2_with fail
   go_ret
   have hB : Below w.heap.size w (w2.alloc (.cells #[.int .i64 k, .string (bstr xv), .string (bstr xn), .slice q ks.length c] 38)) := HB2.out.alloc HB2.out.size _
   refine ⟨_, rfl, ⟨[.int .i64 k, .string (bstr xv), .string (bstr xn), .slice q ks.length c], ?_, ?_⟩, hB⟩
   ·rw [HL.out]
    exact World.ownsRow_lit w2 #[.int .i64 k, .string (bstr xv), .string (bstr xn), .slice q ks.length c] 1 HB2.out.size (by decide) rfl
   ·rw [HL.out]
    exact ⟨H.out.below hB HP.out, trivial⟩
  | false =>
   have HL : Hid (leavesE (.mk k xv xn ks) = leavesL ks) := leaves_kids (by rw [← HLK.out]; exact Bool.false_ne_true)
   have HSZ : Hid (w.heap.size + 1 ≤ w2.heap.size) := HA2.out.lt
   go_wp2_with fail
   go_loopw [3, 4] (fun ov iv wr => ∃ i : Nat, i ≤ ks.length ∧ iv = .int .i64 i ∧ Hid (LvRow P (w.heap.size + 1) wr ov (leavesL (ks.take i)) ∧ Below w.heap.size w wr ∧ Arr wr 38 w.heap.size [.int .i64 k, .string (bstr xv), .string (bstr xn), .slice q ks.length c] ∧ w.heap.size + 1 ≤ wr.heap.size)) (fun _ iv _ => ks.length - (intOf iv).toNat)
   case atStart => exact ⟨0, Nat.zero_le _, rfl, LvRow.nil _ _ _, HB2.out, HA2.out, HSZ.out⟩
   case round =>
    obtain ⟨i, hi, rfl, HI2⟩ := hrel
    clear a0 a1 a2 a3
    have HI := Lib.hid HI2.out.2.1
    have HAI := Lib.hid HI2.out.2.2.1
    have HS := Lib.hid HI2.out.2.2.2
    have HRW := Lib.hid HI2.out.1
    obtain ⟨qv, cv, rfl⟩ := HI2.out.1.form
    clear HI2
    have hi0 : (0 : Int) ≤ i := by omega
    have a0 := HAI.out.cell 0
    have a1 := HAI.out.cell 1
    have a2 := HAI.out.cell 2
    have a3 := HAI.out.cell 3
    simp only [List.getElem?_cons_zero, List.getElem?_cons_succ] at a0 a1 a2 a3
    by_cases hlt : i < ks.length
    ·have hi1 : (i : Int) < ks.length := by omega
     have hP := HP.out
     obtain ⟨ba, oa, rfl, hba, hl⟩ := HK.out (by omega)
     obtain ⟨x, hx⟩ : ∃ x, x = ks.getD i ex0 := ⟨_, rfl⟩
     obtain ⟨q2, c2, x0, x1, x2, x3, hr⟩ := hl.at hlt
     have hxs := sizeL_get ks i hlt
     have hxd := depthL_get ks i hlt
     rw [← hx] at x0 x1 x2 x3 hr hxs hxd
     have HX := Lib.hid hx
     obtain ⟨xk, xv2, xn2, xs⟩ := x
     have cc : ∀ n, wr.cell? ⟨ba, n, none⟩ = w.cell? ⟨ba, n, none⟩ := fun n => (HI.out).cell (p := ⟨ba, n, none⟩) (hP _ hba)
     have X0 : wr.cell? ⟨ba, oa + i * 4, none⟩ = some (.int .i64 xk) := (cc _).trans x0
     have X1 : wr.cell? ⟨ba, oa + i * 4 + 1, none⟩ = some (.string (bstr xv2)) := (cc _).trans x1
     have X2 : wr.cell? ⟨ba, oa + i * 4 + 2, none⟩ = some (.string (bstr xn2)) := (cc _).trans x2
     have X3 : wr.cell? ⟨ba, oa + i * 4 + 3, none⟩ = some (.slice q2 xs.length c2) := (cc _).trans x3
     clear x0 x1 x2 x3 cc hx
     have HR : Hid (RdE P wr (.mk xk xv2 xn2 xs) (.agg #[.int .i64 xk, .string (bstr xv2), .string (bstr xn2), .slice q2 xs.length c2])) := hr.below (HI.out) hP
     have HC := Lib.hid (HIH.out (.mk xk xv2 xn2 xs) _ P _ (by omega) (by omega) HR.out (fun b hb => Nat.lt_of_lt_of_le (hP b hb) HI.out.size))
     have HTK : Hid (leavesL (ks.take (i + 1)) = leavesL (ks.take i) ++ leavesE (.mk xk xv2 xn2 xs)) := by show _ = _; rw [take_snocE hlt, ← HX.out, leavesL_snoc]
     have HLN : Hid ((leavesL (ks.take i)).length + (leavesE (.mk xk xv2 xn2 xs)).length ≤ 1000000) := by
      show _ ≤ _
      have h2 := (leavesL_take ks i hlt).length_le
      rw [← HX.out, List.length_append] at h2
      have := leavesL_size ks
      omega
     clear hl hr hxs hxd hba hP
     go_wp2_with fail
     refine HC.out.mono ?_
     rintro r w5 ⟨v5, rfl, r5, b5⟩
     have HR5 := Lib.hid r5
     have HW5 := Lib.hid (HRW.out.later b5 (fun b hb => Nat.lt_of_lt_of_le (HP.out b hb) HI.out.size))
     have HB5 := Lib.hid (HI.out.trans (b5.mono HI.out.size))
     have HA5 := Lib.hid (HAI.out.later b5)
     have HS5 : Hid (w.heap.size + 1 ≤ w5.heap.size) := Nat.le_trans HS.out b5.size
     have HPS : Hid (∀ b, P b → b < w.heap.size + 1) := fun b hb => Nat.lt_succ_of_lt (HP.out b hb)
     obtain ⟨q5, c5, rfl⟩ := r5.form
     clear r5 b5 HC
     go_wp2_with (at_builtin; refine app_lv rfl _ _ rfl rfl HW5.out rfl HR5.out HPS.out HLN.out HS5.out ?_; intro v7 w7 h7 b7)
     go_roundw
     case rel => exact ⟨i + 1, by omega, by go_num, by rw [HTK.out]; exact h7, HB5.out.trans (b7.mono (by omega)), HA5.out.below b7 (by omega), Nat.le_trans HS5.out b7.size⟩
     case measure => simp [intOf]; omega
    ·have hi1 : ¬ (i : Int) < ks.length := by omega
     have HK2 : Hid (ks.take i = ks) := List.take_of_length_le (by omega)
     rw [HK2.out] at HRW
     go_wp2_with fail
     go_ret
     obtain ⟨cs, h1, h2⟩ := HRW.out
     refine ⟨_, rfl, ⟨cs, ?_, ?_⟩, HI.out⟩
     ·rw [HL.out, HK2.out]
      refine ⟨h1.1, ?_⟩
      rcases h1.2 with h | ⟨g, cap, cur, hv, h0, r⟩
      ·exact .inl h
      ·exact .inr ⟨g, cap, cur, hv, by omega, r⟩
     ·rw [HL.out]; exact h2
set_option maxRecDepth 100000 in
set_option maxHeartbeats 4000000 in
theorem rRight_any (e : Ex) (v : Value) (P : Nat → Prop) (w : World) (hok : okE 100000 e) (hm : sizeE e ≤ 900000) (h : RdE P w e v) (hP : ∀ b, P b → b < w.heap.size) : Calls Tryz.prog 50 #[v] w fun r w' => r = .returned (.bool (rightE e)) ∧ Below w.heap.size w w' := by
 have H := Lib.hid h
 have HP := Lib.hid hP
 have HM := Lib.hid hm
 obtain ⟨q, c, rfl, hc, hk⟩ := h.form
 obtain ⟨k, xv, xn, ks⟩ := e
 unfold exv
 show Calls _ _ #[.agg #[.int .i64 k, .string (bstr xv), .string (bstr xn), .slice q ks.length c]] _ _
 have HB0 : Hid (Below w.heap.size w (w.alloc (.cells #[.int .i64 k, .string (bstr xv), .string (bstr xn), .slice q ks.length c] 38))) := (Below.refl _ _).alloc (Nat.le_refl _) _
 have HA0 : Hid (Arr (w.alloc (.cells #[.int .i64 k, .string (bstr xv), .string (bstr xn), .slice q ks.length c] 38)) 38 w.heap.size [.int .i64 k, .string (bstr xv), .string (bstr xn), .slice q ks.length c]) := Arr.new' _ _ _ _ rfl
 have HP0 : Hid (∀ b, P b → b < (w.alloc (.cells #[.int .i64 k, .string (bstr xv), .string (bstr xn), .slice q ks.length c] 38)).heap.size) := fun b hb => Nat.lt_of_lt_of_le (hP b hb) HB0.out.size
 have HRC : Hid (Calls Tryz.prog 82 #[.agg #[.int .i64 k, .string (bstr xv), .string (bstr xn), .slice q ks.length c], .int .i64 16] (w.alloc (.cells #[.int .i64 k, .string (bstr xv), .string (bstr xn), .slice q ks.length c] 38)) fun r w' => r = .returned (.bool (decide (depthE (.mk k xv xn ks) ≤ 16) && formE (.mk k xv xn ks))) ∧ Below (w.alloc (.cells #[.int .i64 k, .string (bstr xv), .string (bstr xn), .slice q ks.length c] 38)).heap.size (w.alloc (.cells #[.int .i64 k, .string (bstr xv), .string (bstr xn), .slice q ks.length c] 38)) w') := rright_any 16 (.mk k xv xn ks) _ P (w.alloc (.cells #[.int .i64 k, .string (bstr xv), .string (bstr xn), .slice q ks.length c] 38)) (by omega) hok hm (H.out.below HB0.out hP) HP0.out
 have HLC : Hid (∀ W, Below (w.alloc (.cells #[.int .i64 k, .string (bstr xv), .string (bstr xn), .slice q ks.length c] 38)).heap.size (w.alloc (.cells #[.int .i64 k, .string (bstr xv), .string (bstr xn), .slice q ks.length c] 38)) W → Calls Tryz.prog 83 #[.agg #[.int .i64 k, .string (bstr xv), .string (bstr xn), .slice q ks.length c]] W fun r w' => ∃ q2 c2, r = .returned (.slice q2 (leavesE (.mk k xv xn ks)).length c2) ∧ Below W.heap.size W w') :=
  fun W hW => (rleaves_any _ (.mk k xv xn ks) _ P W (Nat.le_refl _) hm ((H.out.below HB0.out hP).below hW HP0.out) (fun b hb => Nat.lt_of_lt_of_le (HP0.out b hb) hW.size)).mono fun r w' ⟨v', h1, h2, h3⟩ => by
   obtain ⟨q2, c2, rfl⟩ := h2.form
   exact ⟨q2, c2, h1, h3⟩
 have hsz := leaves_size (.mk k xv xn ks)
 obtain ⟨F, hF⟩ : ∃ F, F = (decide (depthE (.mk k xv xn ks) ≤ 16) && formE (.mk k xv xn ks)) := ⟨_, rfl⟩
 obtain ⟨N, hN⟩ : ∃ N, N = (leavesE (.mk k xv xn ks)).length := ⟨_, rfl⟩
 have HRE : Hid (rightE (.mk k xv xn ks) = (decide (N ≤ 32) && F)) := by show _ = _; unfold rightE; rw [hF, hN]
 rw [← hF] at HRC
 rw [← hN] at HLC hsz
 rw [HRE.out]
 have hn1 : N ≤ 900000 := by omega
 clear h hc hk hm hP hok hF hN hsz
 go_enter Tryz.func50, Tryz.ntmps50
 go_wp2_with fail
 refine HRC.out.mono ?_
 rintro r w5 ⟨rfl, b5⟩
 have HB5 := Lib.hid (HB0.out.trans (b5.mono HB0.out.size))
 have HC5 := Lib.hid (HLC.out w5 b5)
 have HA5 := Lib.hid (HA0.out.later b5)
 have z0 := HA5.out.cell 0
 have z1 := HA5.out.cell 1
 have z2 := HA5.out.cell 2
 have z3 := HA5.out.cell 3
 simp only [List.getElem?_cons_zero, List.getElem?_cons_succ] at z0 z1 z2 z3
 clear b5
 cases F with
 | true =>
  go_wp2_with fail
  refine HC5.out.mono ?_
  rintro r w6 ⟨q2, c2, rfl, b6⟩
  have HB6 := Lib.hid (HB5.out.trans (b6.mono HB5.out.size))
  clear b6
  go_wp2_with fail
  go_ret
  exact ⟨by rw [show decide (N ≤ 32) = decide ((N : Int) ≤ 32) from decide_eq_decide.2 (by omega), Bool.and_true]; rfl, HB6.out⟩
 | false =>
  go_wp2_with fail
  go_ret
  exact ⟨by rw [Bool.and_false]; rfl, HB5.out⟩
end Go.Proofs.YteieimchleioaaaGreatDoor
/-
  vestryref11.Form of a schema that was read.
-/
namespace Go.Proofs.YteieimchleioaaaGreatDoor
open Go.ChangeShapes Go.WideShapes Go.ChangeAt Go.RowKit
set_option linter.unusedVariables false

theorem risG (s : ByteArray) (h : isName s = true) (w : World) : Calls Tryz.prog 26 #[.string s] w fun e w' => e = .returned (.bool true) ∧ w = w' := by
 have h2 := risName_any s (Nat.le_trans (isName_small h) (by decide)) w
 rw [h] at h2
 exact h2
set_option maxRecDepth 100000 in
set_option maxHeartbeats 2000000 in
theorem rightG_any (t r : ByteArray) (w : World) (ht : isName t = true) (hr : r = ⟨#[]⟩ ∨ isName r = true) : Calls Tryz.prog 51 #[.agg #[.string t, .string r]] w fun e w' => e = .returned (.bool true) ∧ Below w.heap.size w w' := by
 have HN := Lib.hid (risG t ht (w.alloc (.cells #[.string t, .string r] 105)))
 have HB : Hid (Below w.heap.size w (w.alloc (.cells #[.string t, .string r] 105))) := (Below.refl _ _).alloc (Nat.le_refl _) _
 clear ht
 by_cases hz : r = ⟨#[]⟩
 ·subst hz
  clear hr
  go_enter Tryz.func51, Tryz.ntmps51
  go_wp2_with fail
  refine HN.out.mono ?_
  rintro e w1 ⟨rfl, rfl⟩
  go_wp2_with fail
  go_ret
  exact ⟨rfl, HB.out⟩
 ·have hn := hr.resolve_left hz
  obtain ⟨hne, hne2⟩ := isName_ne hn
  have HN2 := Lib.hid (risG r hn (w.alloc (.cells #[.string t, .string r] 105)))
  clear hz hr hn
  go_enter Tryz.func51, Tryz.ntmps51
  go_wp2_with fail
  refine HN.out.mono ?_
  rintro e w1 ⟨rfl, rfl⟩
  go_wp2_with fail
  refine HN2.out.mono ?_
  rintro e w1 ⟨rfl, rfl⟩
  go_wp2_with fail
  go_ret
  exact ⟨rfl, HB.out⟩
set_option maxRecDepth 100000 in
set_option maxHeartbeats 2000000 in
theorem rmem_rel {ls : List AlB} {tn : ByteArray} {qa q4 : Option Addr} {ca c4 : Nat} {P : Nat → Prop} {w : World} (hn : isName tn = true) (h1 : RdA P w ls (.slice qa ls.length ca)) (hP : ∀ b, P b → b < w.heap.size) (ha : ∀ a ∈ ls, GoodA a) (hl1 : 1 ≤ ls.length) (hl2 : ls.length ≤ 32) :
  Calls Tryz.prog 25 #[.agg #[.string tn, .int .i64 1, .slice qa ls.length ca, .int .i64 0, .string ⟨#[]⟩, .string ⟨#[]⟩, .slice q4 0 c4]] w fun e w' => e = .returned (.bool true) ∧ Below w.heap.size w w' := by
 have hb0 : Below w.heap.size w (w.alloc (.cells #[.string tn, .int .i64 1, .slice qa ls.length ca, .int .i64 0, .string ⟨#[]⟩, .string ⟨#[]⟩, .slice q4 0 c4] 72)) := (Below.refl _ _).alloc (Nat.le_refl _) _
 have HB := Lib.hid hb0
 have HX : Hid (Arr (w.alloc (.cells #[.string tn, .int .i64 1, .slice qa ls.length ca, .int .i64 0, .string ⟨#[]⟩, .string ⟨#[]⟩, .slice q4 0 c4] 72)) 72 w.heap.size [.string tn, .int .i64 1, .slice qa ls.length ca, .int .i64 0, .string ⟨#[]⟩, .string ⟨#[]⟩, .slice q4 0 c4]) := Arr.new' _ _ _ _ rfl
 have HN := Lib.hid (risG tn hn (w.alloc (.cells #[.string tn, .int .i64 1, .slice qa ls.length ca, .int .i64 0, .string ⟨#[]⟩, .string ⟨#[]⟩, .slice q4 0 c4] 72)))
 have H1 := Lib.hid (alls_of (rdA_keep h1 hb0 hP) (lt_keep hb0 hP) ha)
 have hz1 : (1 : Int) ≤ ls.length := by omega
 have hz2 : (ls.length : Int) ≤ 32 := by omega
 clear hb0 h1 hP ha hl1 hl2 hn
 go_enter Tryz.func25, Tryz.ntmps25
 go_upto_region 1 with (fail)
 generalize (w.alloc (.cells #[.string tn, .int .i64 1, .slice qa ls.length ca, .int .i64 0, .string ⟨#[]⟩, .string ⟨#[]⟩, .slice q4 0 c4] 72)) = w0 at HX HB HN H1 ⊢
 obtain ⟨x0, y0, x1, y1, x2, y2, x3, y3, x4, y4, x5, y5, x6, y6⟩ := HX.out.all7
 go_wp2_with fail
 refine HN.out.mono ?_
 rintro e w1 ⟨rfl, rfl⟩
 go_wp2_with fail
 clear x0 y0 x1 y1 x2 y2 x3 y3 x4 y4 x5 y5 x6 y6
 go_loopw [3] (fun iv wr => ∃ i : Nat, i ≤ ls.length ∧ iv = .int .i64 i ∧ Hid (Arr wr 72 w.heap.size [.string tn, .int .i64 1, .slice qa ls.length ca, .int .i64 0, .string ⟨#[]⟩, .string ⟨#[]⟩, .slice q4 0 c4]) ∧ Hid (Below w0.heap.size w0 wr) ∧ Hid (Below w.heap.size w wr)) (fun iv _ => ls.length - (intOf iv).toNat)
 case atStart => exact ⟨0, Nat.zero_le _, rfl, HX.out, Below.refl _ _, HB.out⟩
 case round =>
  obtain ⟨i, hi, rfl, HX, HK, HB⟩ := hrel
  have hi0 : (0 : Int) ≤ i := by omega
  by_cases hlt : i < ls.length
  ·have hi1 : (i : Int) < ls.length := by omega
   obtain ⟨b, o, t, r, rfl, hc, g1, g2⟩ := H1.out i hlt
   have a0 := (hc.later HK.out).2 0 _ rfl
   have a1 := (hc.later HK.out).2 1 _ rfl
   simp only [Nat.add_zero] at a0
   have HG := Lib.hid (rightG_any t r wr g1 g2)
   clear hc g1 g2 hlt
   obtain ⟨x0, y0, x1, y1, x2, y2, x3, y3, x4, y4, x5, y5, x6, y6⟩ := HX.out.all7
   go_wp2_with fail
   refine HG.out.mono ?_
   rintro e w2 ⟨rfl, b2⟩
   have HX := Lib.hid (HX.out.later b2)
   have HB := Lib.hid (HB.out.trans (b2.mono HB.out.size))
   have HK := Lib.hid (HK.out.trans (b2.mono HK.out.size))
   clear x0 y0 x1 y1 x2 y2 x3 y3 x4 y4 x5 y5 x6 y6
   clear b2 a0 a1
   go_wp2_with fail
   go_roundw
   case rel => exact ⟨i + 1, by omega, by go_num, HX.out, HK.out, HB.out⟩
   case measure => simp [intOf]; omega
  ·have hi1 : ¬ (i : Int) < ls.length := by omega
   have hz : ∀ q c, RdE (fun _ => False) wr (.mk 0 [] [] []) (.agg #[.int .i64 0, .string ⟨#[]⟩, .string ⟨#[]⟩, .slice q 0 c]) := fun q c => by unfold RdE; exact ⟨q, c, rfl, Nat.zero_le _, fun h => by simp at h⟩
   have HS : Hid (Calls Tryz.prog 12 #[.agg #[.int .i64 0, .string ⟨#[]⟩, .string ⟨#[]⟩, .slice q4 0 c4], .agg #[.int .i64 0, .string ⟨#[]⟩, .string ⟨#[]⟩, .slice none 0 0]] wr fun r w' => r = .returned (.int .i64 0) ∧ Below wr.heap.size wr w') := by
    have h := rcompare_any 64 (.mk 0 [] [] []) (.mk 0 [] [] []) _ _ (fun _ => False) (fun _ => False) wr (by decide) (by decide) (by decide) (by simp [okE, okL]) (by simp [okE, okL]) (hz q4 c4) (hz none 0) (fun b hb => hb.elim) (fun b hb => hb.elim)
    rw [cmpE_self] at h
    exact h
   clear hz
   obtain ⟨x0, y0, x1, y1, x2, y2, x3, y3, x4, y4, x5, y5, x6, y6⟩ := HX.out.all7
   go_wp2_with fail
   refine HS.out.mono ?_
   rintro e w2 ⟨rfl, b2⟩
   have HB := Lib.hid (HB.out.trans (b2.mono HB.out.size))
   clear b2
   go_wp2_with fail
   go_ret
   exact ⟨rfl, HB.out⟩
set_option maxRecDepth 100000 in
set_option maxHeartbeats 2000000 in
theorem rmem_perm {mk : Int} {mv mn : List UInt8} {ms : List Ex} {tn : ByteArray} {qa q4 : Option Addr} {ca c4 : Nat} {P : Nat → Prop} {w : World} (hn : isName tn = true) (h1 : RdE P w (.mk mk mv mn ms) (.agg #[.int .i64 mk, .string (bstr mv), .string (bstr mn), .slice q4 ms.length c4])) (hP : ∀ b, P b → b < w.heap.size) (hg : rightE (.mk mk mv mn ms) = true) (hk : okE 100000 (.mk mk mv mn ms)) (hsz : sizeE (.mk mk mv mn ms) ≤ 64) :
  Calls Tryz.prog 25 #[.agg #[.string tn, .int .i64 2, .slice qa 0 ca, .int .i64 mk, .string (bstr mv), .string (bstr mn), .slice q4 ms.length c4]] w fun e w' => e = .returned (.bool true) ∧ Below w.heap.size w w' := by
 have hb0 : Below w.heap.size w (w.alloc (.cells #[.string tn, .int .i64 2, .slice qa 0 ca, .int .i64 mk, .string (bstr mv), .string (bstr mn), .slice q4 ms.length c4] 72)) := (Below.refl _ _).alloc (Nat.le_refl _) _
 have HB := Lib.hid hb0
 have HX : Hid (Arr (w.alloc (.cells #[.string tn, .int .i64 2, .slice qa 0 ca, .int .i64 mk, .string (bstr mv), .string (bstr mn), .slice q4 ms.length c4] 72)) 72 w.heap.size [.string tn, .int .i64 2, .slice qa 0 ca, .int .i64 mk, .string (bstr mv), .string (bstr mn), .slice q4 ms.length c4]) := Arr.new' _ _ _ _ rfl
 have HN := Lib.hid (risG tn hn (w.alloc (.cells #[.string tn, .int .i64 2, .slice qa 0 ca, .int .i64 mk, .string (bstr mv), .string (bstr mn), .slice q4 ms.length c4] 72)))
 have HS : Hid (Calls Tryz.prog 50 #[.agg #[.int .i64 mk, .string (bstr mv), .string (bstr mn), .slice q4 ms.length c4]] (w.alloc (.cells #[.string tn, .int .i64 2, .slice qa 0 ca, .int .i64 mk, .string (bstr mv), .string (bstr mn), .slice q4 ms.length c4] 72)) fun r w' => r = .returned (.bool true) ∧ Below (w.alloc (.cells #[.string tn, .int .i64 2, .slice qa 0 ca, .int .i64 mk, .string (bstr mv), .string (bstr mn), .slice q4 ms.length c4] 72)).heap.size (w.alloc (.cells #[.string tn, .int .i64 2, .slice qa 0 ca, .int .i64 mk, .string (bstr mv), .string (bstr mn), .slice q4 ms.length c4] 72)) w') := by
  have h := rRight_any (.mk mk mv mn ms) _ P (w.alloc (.cells #[.string tn, .int .i64 2, .slice qa 0 ca, .int .i64 mk, .string (bstr mv), .string (bstr mn), .slice q4 ms.length c4] 72)) hk (Nat.le_trans hsz (by decide)) (h1.below hb0 hP) (lt_keep hb0 hP)
  rw [hg] at h
  exact h
 clear hb0 h1 hP hg hsz hn hk
 go_enter Tryz.func25, Tryz.ntmps25
 go_upto_region 1 with (fail)
 generalize (w.alloc (.cells #[.string tn, .int .i64 2, .slice qa 0 ca, .int .i64 mk, .string (bstr mv), .string (bstr mn), .slice q4 ms.length c4] 72)) = w0 at HX HB HN HS ⊢
 obtain ⟨x0, y0, x1, y1, x2, y2, x3, y3, x4, y4, x5, y5, x6, y6⟩ := HX.out.all7
 go_wp2_with fail
 refine HN.out.mono ?_
 rintro e w1 ⟨rfl, rfl⟩
 go_wp2_with fail
 refine HS.out.mono ?_
 rintro r w3 ⟨rfl, b3⟩
 have HB := Lib.hid (HB.out.trans (b3.mono HB.out.size))
 clear b3
 go_wp2_with fail
 go_ret
 exact ⟨rfl, HB.out⟩
theorem rmem_any (x : MemB) (cs : List Value) (P : Nat → Prop) (w : World) (h : rdMem P w x cs) (hP : ∀ b, P b → b < w.heap.size) (hg : GoodM x) : Calls Tryz.prog 25 #[.agg cs.toArray] w fun e w' => e = .returned (.bool true) ∧ Below w.heap.size w w' := by
 obtain ⟨n, k, ls, mk, mv, mn, ms⟩ := x
 obtain ⟨qa, ca, q4, c4, rfl, h3, h4⟩ := rdMem_form h
 obtain ⟨hn, ⟨hk, h1, h2, ha, he⟩ | ⟨hk, hl, he⟩⟩ := hg
 ·have hk : k = 1 := hk
  have he : Ex.mk mk mv mn ms = .mk 0 [] [] [] := he
  cases he
  subst hk
  exact rmem_rel hn h3 hP ha h1 h2
 ·have hk : k = 2 := hk
  have hl : ls = [] := hl
  subst hk
  subst hl
  exact rmem_perm hn h4 hP he.1 (okE_le (by decide) _ he.2.1) he.2.2
set_option maxRecDepth 100000 in
set_option maxHeartbeats 2000000 in
theorem rForm_any (l : List DefB) (q : Option Addr) (c : Nat) (P : Nat → Prop) (w : World) (h : RdK kdDef P w l (.slice q l.length c)) (hP : ∀ b, P b → b < w.heap.size) (hg : GoodS l) :
  Calls Tryz.prog 10 #[.agg #[.slice q l.length c]] w fun e w' => e = .returned (.bool true) ∧ Below w.heap.size w w' := by
 have hb0 : Below w.heap.size w (w.alloc (.cells #[.slice q l.length c] 25)) := (Below.refl _ _).alloc (Nat.le_refl _) _
 have HB := Lib.hid hb0
 have HX : Hid (Arr (w.alloc (.cells #[.slice q l.length c] 25)) 25 w.heap.size [.slice q l.length c]) := Arr.new' _ _ _ _ rfl
 have H1 := Lib.hid (defs_of (rdK_keep h hb0 hP) (lt_keep hb0 hP))
 have HP := Lib.hid (lt_keep hb0 hP)
 have HG := Lib.hid hg.2
 have hz2 : (l.length : Int) ≤ 64 := by have := hg.1; omega
 clear hb0 h hP hg
 go_enter Tryz.func10, Tryz.ntmps10
 go_upto_region 1 with (fail)
 generalize (w.alloc (.cells #[.slice q l.length c] 25)) = w0 at HX HB H1 HP ⊢
 go_wp2_with fail
 go_loopw [3] (fun iv wr => ∃ i : Nat, i ≤ l.length ∧ iv = .int .i64 i ∧ Hid (Arr wr 25 w.heap.size [.slice q l.length c]) ∧ Hid (Below w0.heap.size w0 wr) ∧ Hid (Below w.heap.size w wr)) (fun iv _ => l.length - (intOf iv).toNat)
 case atStart => exact ⟨0, Nat.zero_le _, rfl, HX.out, Below.refl _ _, HB.out⟩
 case round =>
  obtain ⟨i, hi, rfl, HX, HK, HB⟩ := hrel
  have hi0 : (0 : Int) ≤ i := by omega
  by_cases hlt : i < l.length
  ·have hi1 : (i : Int) < l.length := by omega
   obtain ⟨b, o, n, m, q2, c2, rfl, hc, hm, r⟩ := H1.out i hlt
   have g := HG.out _ hm
   obtain ⟨tn, htn⟩ : ∃ t, t = bstr n := ⟨_, rfl⟩
   have HNM : Hid (isName tn = true) := by rw [htn]; exact g.1
   rw [← htn] at hc
   have a0 := (hc.later HK.out).2 0 _ rfl
   have a1 := (hc.later HK.out).2 1 _ rfl
   simp only [Nat.add_zero] at a0
   have HG2 := Lib.hid g.2.2
   have hm2 : (m.length : Int) ≤ 64 := by have : m.length ≤ 64 := g.2.1; omega
   have HMS := Lib.hid (mems_of (rdK_keep r HK.out HP.out) (lt_keep HK.out HP.out))
   have HPR := Lib.hid (lt_keep HK.out HP.out)
   clear hc hm r g htn hlt
   obtain ⟨x0, y0⟩ := HX.out.all1
   go_upto_region 5 with (fail)
   clear x0 y0
   clear a0 a1
   have hb5 : Below wr.heap.size wr (wr.alloc (.cells #[.string tn, .slice q2 m.length c2] 44)) := (Below.refl _ _).alloc (Nat.le_refl _) _
   have HD : Hid (Arr (wr.alloc (.cells #[.string tn, .slice q2 m.length c2] 44)) 44 wr.heap.size [.string tn, .slice q2 m.length c2]) := Arr.new' _ _ _ _ rfl
   have HX := Lib.hid (HX.out.later hb5)
   have HB := Lib.hid (HB.out.trans (hb5.mono HB.out.size))
   have HK := Lib.hid (HK.out.trans (hb5.mono HK.out.size))
   have HKR := Lib.hid hb5
   obtain ⟨gd, hgd⟩ : ∃ g, g = wr.heap.size := ⟨_, rfl⟩
   rw [← hgd] at HD ⊢
   generalize wr.alloc (.cells #[.string tn, .slice q2 m.length c2] 44) = w5 at HD HX HB HK HKR ⊢
   clear hgd hb5
   go_wp2_with fail
   go_loopw [5] (fun jv ws => ∃ j : Nat, j ≤ m.length ∧ jv = .int .i64 j ∧ Hid (Arr ws 44 gd [.string tn, .slice q2 m.length c2]) ∧ Hid (Arr ws 25 w.heap.size [.slice (some ⟨b, o, none⟩) l.length c]) ∧ Hid (Below wr.heap.size wr ws) ∧ Hid (Below w0.heap.size w0 ws) ∧ Hid (Below w.heap.size w ws)) (fun jv _ => m.length - (intOf jv).toNat)
   case atStart => exact ⟨0, Nat.zero_le _, rfl, HD.out, HX.out, HKR.out, HK.out, HB.out⟩
   case round =>
    obtain ⟨j, hj, rfl, HD, HX, HKR, HK, HB⟩ := hrel
    have hj0 : (0 : Int) ≤ j := by omega
    by_cases hjl : j < m.length
    ·have hj1 : (j : Int) < m.length := by omega
     obtain ⟨b3, o3, x, u0, u1, u2, u3, u4, u5, u6, rfl, hc, hm, r⟩ := HMS.out j hjl
     have a0 := (hc.later HKR.out).2 0 _ rfl
     have a1 := (hc.later HKR.out).2 1 _ rfl
     have a2 := (hc.later HKR.out).2 2 _ rfl
     have a3 := (hc.later HKR.out).2 3 _ rfl
     have a4 := (hc.later HKR.out).2 4 _ rfl
     have a5 := (hc.later HKR.out).2 5 _ rfl
     have a6 := (hc.later HKR.out).2 6 _ rfl
     simp only [Nat.add_zero] at a0
     have HMM := Lib.hid (rmem_any x _ P _ (rdMem_keep r HKR.out HPR.out) (lt_keep HKR.out HPR.out) (HG2.out x hm))
     clear hc hm r hjl
     obtain ⟨x0, y0, x1, y1⟩ := HD.out.all2
     go_wp2_with fail
     refine HMM.out.mono ?_
     rintro e w6 ⟨rfl, b6⟩
     have HD := Lib.hid (HD.out.later b6)
     have HX := Lib.hid (HX.out.later b6)
     have HKR := Lib.hid (HKR.out.trans (b6.mono HKR.out.size))
     have HK := Lib.hid (HK.out.trans (b6.mono HK.out.size))
     have HB := Lib.hid (HB.out.trans (b6.mono HB.out.size))
     clear x0 y0 x1 y1
     clear b6 a0 a1 a2 a3 a4 a5 a6
     go_wp2_with fail
     go_roundw
     case rel => exact ⟨j + 1, by omega, by go_num, HD.out, HX.out, HKR.out, HK.out, HB.out⟩
     case measure => simp [intOf]; omega
    ·have hj1 : ¬ (j : Int) < m.length := by omega
     have HN := Lib.hid (fun w => risG tn HNM.out w)
     obtain ⟨x0, y0, x1, y1⟩ := HD.out.all2
     go_wp2_with fail
     refine (HN.out _).mono ?_
     rintro e w8 ⟨rfl, rfl⟩
     go_wp2_with fail
     clear x0 y0 x1 y1
     go_roundw
     case rel => exact ⟨i + 1, by omega, by go_num, HX.out, HK.out, HB.out⟩
     case measure => simp [intOf]; omega
  ·have hi1 : ¬ (i : Int) < l.length := by omega
   obtain ⟨x0, y0⟩ := HX.out.all1
   go_wp2_with fail
   go_ret
   exact ⟨rfl, HB.out⟩
end Go.Proofs.YteieimchleioaaaGreatDoor
/-
  The reference's is, bad, must: a place by value.
-/
namespace Go.Proofs.YteieimchleioaaaGreatDoor
open Go.ChangeShapes Go.WideShapes Go.ChangeAt Go.RowKit
set_option linter.unusedVariables false

/-- The reference's tokens in memory. -/
def RT (W : World) (tb : Nat) (ts : List Tok) : Prop := tb < W.heap.size ∧ ts.length ≤ 100000 ∧ ∀ i, i < ts.length → ∀ j, j < 3 → W.cell? ⟨tb, i * 3 + j, none⟩ = (tkv (ts.getD i tok0))[j]?
theorem RT.later {W W' : World} {tb : Nat} {ts : List Tok} (h : RT W tb ts) (hb : Below W.heap.size W W') : RT W' tb ts :=
 ⟨Nat.lt_of_lt_of_le h.1 hb.size, h.2.1, fun i hi j hj => (hb.cell (p := ⟨tb, i * 3 + j, none⟩) h.1).trans (h.2.2 i hi j hj)⟩
theorem OkTs.kind3 {ts : List Tok} (h : OkTs ts) {i : Nat} (hi : i < ts.length) : (ts.getD i tok0).1 = 3 ↔ txt ts i = [] := by
 obtain ⟨us, e, rfl, he, hu⟩ := h
 rw [List.length_append, List.length_singleton] at hi
 unfold txt
 by_cases h1 : i < us.length
 ·have e1 : (us ++ [e]).getD i tok0 = us[i] := by rw [List.getD_eq_getElem?_getD, List.getElem?_append_left h1, List.getElem?_eq_getElem h1]; rfl
  rw [e1]
  have g := hu us[i] (List.getElem_mem h1)
  refine ⟨fun h3 => absurd h3 g.kind, fun h0 => ?_⟩
  rcases g with ⟨_, h2, _⟩ | ⟨_, h2 | ⟨c, h2, _⟩⟩
  ·exact absurd h0 h2
  ·rw [h2] at h0; cases h0
  ·rw [h2] at h0; cases h0
 ·obtain rfl : i = us.length := by omega
  rw [List.getD_eq_getElem?_getD, List.getElem?_append_right (Nat.le_refl _), Nat.sub_self]
  exact ⟨fun _ => (Prod.mk.inj he).2, fun _ => (Prod.mk.inj he).1⟩
section
variable {W : World} {tb c k : Nat} {ts : List Tok} {s : PS}
set_option maxRecDepth 100000 in
set_option maxHeartbeats 2000000 in
theorem ris_any (ho : OkTs ts) (h : RT W tb ts) (hi : s.i < ts.length) (b : ByteArray) (t : List UInt8) (hb : b.data.toList = t) (ht : t ≠ []) : Calls Tryz.prog 16 #[.agg #[.slice (some ⟨tb, 0, none⟩) ts.length c, .int .i64 (s.i : Nat), .int .i64 (k : Nat), .int .i64 (s.o : Nat), .int .i64 (s.l : Nat)], .string b] W fun e w' => e = .returned (.bool (decide (k = 0) && decide (txt ts s.i = t))) ∧ Below W.heap.size W w' := by
 have HB0 : Hid (Below W.heap.size W (W.alloc (.cells #[.slice (some ⟨tb, 0, none⟩) ts.length c, .int .i64 (s.i : Nat), .int .i64 (k : Nat), .int .i64 (s.o : Nat), .int .i64 (s.l : Nat)] 54))) := (Below.refl _ _).alloc (Nat.le_refl _) _
 have HA0 : Hid (Arr (W.alloc (.cells #[.slice (some ⟨tb, 0, none⟩) ts.length c, .int .i64 (s.i : Nat), .int .i64 (k : Nat), .int .i64 (s.o : Nat), .int .i64 (s.l : Nat)] 54)) 54 W.heap.size [.slice (some ⟨tb, 0, none⟩) ts.length c, .int .i64 (s.i : Nat), .int .i64 (k : Nat), .int .i64 (s.o : Nat), .int .i64 (s.l : Nat)]) := Arr.new' _ _ _ _ rfl
 have hr := h.later HB0.out
 by_cases hk : k = 0
 ·subst hk
  have t0 : (W.alloc (.cells #[.slice (some ⟨tb, 0, none⟩) ts.length c, .int .i64 (s.i : Nat), .int .i64 0, .int .i64 (s.o : Nat), .int .i64 (s.l : Nat)] 54)).cell? ⟨tb, s.i * 3, none⟩ = some (.int .i64 (ts.getD s.i tok0).1) := hr.2.2 s.i hi 0 (by decide)
  have t1 : (W.alloc (.cells #[.slice (some ⟨tb, 0, none⟩) ts.length c, .int .i64 (s.i : Nat), .int .i64 0, .int .i64 (s.o : Nat), .int .i64 (s.l : Nat)] 54)).cell? ⟨tb, s.i * 3 + 1, none⟩ = some (.string (bstr (txt ts s.i))) := hr.2.2 s.i hi 1 (by decide)
  have h3 := ho.kind3 hi
  obtain ⟨tk, htk⟩ : ∃ x, x = (ts.getD s.i tok0).1 := ⟨_, rfl⟩
  obtain ⟨k1, hk1⟩ : ∃ x, x = bstr (txt ts s.i) := ⟨_, rfl⟩
  obtain ⟨d, hd⟩ : ∃ d, d = decide (txt ts s.i = t) := ⟨_, rfl⟩
  have he : (k1.toList == b.toList) = d := by
   rw [hk1, toList_data, toList_data, bstr_data, hb, hd, Bool.eq_iff_iff, beq_iff_eq, decide_eq_true_iff]
  have HD : Hid (tk = 3 → d = false) := fun h0 => by
   rw [hd]
   refine decide_eq_false fun h4 => ht ?_
   rw [← h4]
   exact h3.1 (htk ▸ h0)
  rw [← htk] at t0
  rw [← hk1] at t1
  rw [← hd]
  have hi0 : (0 : Int) ≤ (s.i : Int) := by omega
  have hi1 : (s.i : Int) < ts.length := by omega
  have a0 := HA0.out.cell 0
  have a1 := HA0.out.cell 1
  have a2 := HA0.out.cell 2
  simp only [List.getElem?_cons_zero, List.getElem?_cons_succ] at a0 a1 a2
  clear hd hk1 htk h3 hi hb h ht hr ho
  by_cases h3 : tk = 3
  ·have hdf := HD.out h3
   subst hdf
   go_enter Tryz.func16, Tryz.ntmps16
   go_wp2_with fail
   go_ret
   exact ⟨by simp, HB0.out⟩
  ·go_enter Tryz.func16, Tryz.ntmps16
   go_wp2_with fail
   go_ret
   exact ⟨by cases d <;> simp [h3], HB0.out⟩
 ·have hk1 : ¬ (k : Int) = 0 := by omega
  have HK : Hid ((decide (k = 0) && decide (txt ts s.i = t)) = false) := by show _ = _; rw [decide_eq_false hk]; rfl
  rw [HK.out]
  have a0 := HA0.out.cell 0
  have a1 := HA0.out.cell 1
  have a2 := HA0.out.cell 2
  simp only [List.getElem?_cons_zero, List.getElem?_cons_succ] at a0 a1 a2
  clear h hi hb ht hr ho
  go_enter Tryz.func16, Tryz.ntmps16
  go_wp2_with fail
  go_ret
  exact ⟨rfl, HB0.out⟩
set_option maxRecDepth 100000 in
set_option maxHeartbeats 2000000 in
theorem rbad_0 (e : Int) : Calls Tryz.prog 17 #[.agg #[.slice (some ⟨tb, 0, none⟩) ts.length c, .int .i64 (s.i : Nat), .int .i64 0, .int .i64 (s.o : Nat), .int .i64 (s.l : Nat)], .int .i64 e] W fun r w' => r = .returned (.agg #[.slice (some ⟨tb, 0, none⟩) ts.length c, .int .i64 (s.i : Nat), .int .i64 e, .int .i64 (s.o : Nat), .int .i64 (s.l : Nat)]) ∧ Below W.heap.size W w' := by
 have HB0 : Hid (Below W.heap.size W ((W.alloc (.cells #[.slice (some ⟨tb, 0, none⟩) ts.length c, .int .i64 (s.i : Nat), .int .i64 0, .int .i64 (s.o : Nat), .int .i64 (s.l : Nat)] 54)).alloc (.cells #[.slice none 0 0, .int .i64 0, .int .i64 0, .int .i64 0, .int .i64 0] 54))) := ((Below.refl _ _).alloc (Nat.le_refl _) _).alloc (by simp) _
 have HA0 : Hid (Arr ((W.alloc (.cells #[.slice (some ⟨tb, 0, none⟩) ts.length c, .int .i64 (s.i : Nat), .int .i64 0, .int .i64 (s.o : Nat), .int .i64 (s.l : Nat)] 54)).alloc (.cells #[.slice none 0 0, .int .i64 0, .int .i64 0, .int .i64 0, .int .i64 0] 54)) 54 W.heap.size [.slice (some ⟨tb, 0, none⟩) ts.length c, .int .i64 (s.i : Nat), .int .i64 0, .int .i64 (s.o : Nat), .int .i64 (s.l : Nat)]) := (Arr.new' _ _ _ _ rfl).alloc _
 have HR0 : Hid (Arr ((W.alloc (.cells #[.slice (some ⟨tb, 0, none⟩) ts.length c, .int .i64 (s.i : Nat), .int .i64 0, .int .i64 (s.o : Nat), .int .i64 (s.l : Nat)] 54)).alloc (.cells #[.slice none 0 0, .int .i64 0, .int .i64 0, .int .i64 0, .int .i64 0] 54)) 54 (W.heap.size + 1) [.slice none 0 0, .int .i64 0, .int .i64 0, .int .i64 0, .int .i64 0]) := Arr.new2 _ _ _ _ _ rfl
 go_enter Tryz.func17, Tryz.ntmps17
 go_wp2_with fail
 have hA : Arr ((W.alloc (.cells #[.slice (some ⟨tb, 0, none⟩) ts.length c, .int .i64 (s.i : Nat), .int .i64 e, .int .i64 (s.o : Nat), .int .i64 (s.l : Nat)] 54)).alloc (.cells #[.slice (some ⟨tb, 0, none⟩) ts.length c, .int .i64 (s.i : Nat), .int .i64 e, .int .i64 (s.o : Nat), .int .i64 (s.l : Nat)] 54)) 54 (W.heap.size + 1) [.slice (some ⟨tb, 0, none⟩) ts.length c, .int .i64 (s.i : Nat), .int .i64 e, .int .i64 (s.o : Nat), .int .i64 (s.l : Nat)] := Arr.new2 _ _ _ _ _ rfl
 have hB : Below W.heap.size W ((W.alloc (.cells #[.slice (some ⟨tb, 0, none⟩) ts.length c, .int .i64 (s.i : Nat), .int .i64 e, .int .i64 (s.o : Nat), .int .i64 (s.l : Nat)] 54)).alloc (.cells #[.slice (some ⟨tb, 0, none⟩) ts.length c, .int .i64 (s.i : Nat), .int .i64 e, .int .i64 (s.o : Nat), .int .i64 (s.l : Nat)] 54)) := ((Below.refl _ _).alloc (Nat.le_refl _) _).alloc (by simp) _
 have c0 := hA.cell 0
 have c1 := hA.cell 1
 have c2 := hA.cell 2
 have c3 := hA.cell 3
 have c4 := hA.cell 4
 simp only [List.getElem?_cons_zero, List.getElem?_cons_succ] at c0 c1 c2 c3 c4
 refine bodyPost_ret (v := .agg #[.slice (some ⟨tb, 0, none⟩) ts.length c, .int .i64 (s.i : Nat), .int .i64 e, .int .i64 (s.o : Nat), .int .i64 (s.l : Nat)]) ?_ rfl ⟨rfl, hB⟩
 simp [results, Tryz.results17, go_sem, c0, c1, c2, c3, c4]
set_option maxRecDepth 100000 in
set_option maxHeartbeats 2000000 in
theorem rbad_n (e : Int) (hk : ¬ k = 0) : Calls Tryz.prog 17 #[.agg #[.slice (some ⟨tb, 0, none⟩) ts.length c, .int .i64 (s.i : Nat), .int .i64 (k : Nat), .int .i64 (s.o : Nat), .int .i64 (s.l : Nat)], .int .i64 e] W fun r w' => r = .returned (.agg #[.slice (some ⟨tb, 0, none⟩) ts.length c, .int .i64 (s.i : Nat), .int .i64 (k : Nat), .int .i64 (s.o : Nat), .int .i64 (s.l : Nat)]) ∧ Below W.heap.size W w' := by
 have HB0 : Hid (Below W.heap.size W ((W.alloc (.cells #[.slice (some ⟨tb, 0, none⟩) ts.length c, .int .i64 (s.i : Nat), .int .i64 (k : Nat), .int .i64 (s.o : Nat), .int .i64 (s.l : Nat)] 54)).alloc (.cells #[.slice none 0 0, .int .i64 0, .int .i64 0, .int .i64 0, .int .i64 0] 54))) := ((Below.refl _ _).alloc (Nat.le_refl _) _).alloc (by simp) _
 have HA0 : Hid (Arr ((W.alloc (.cells #[.slice (some ⟨tb, 0, none⟩) ts.length c, .int .i64 (s.i : Nat), .int .i64 (k : Nat), .int .i64 (s.o : Nat), .int .i64 (s.l : Nat)] 54)).alloc (.cells #[.slice none 0 0, .int .i64 0, .int .i64 0, .int .i64 0, .int .i64 0] 54)) 54 W.heap.size [.slice (some ⟨tb, 0, none⟩) ts.length c, .int .i64 (s.i : Nat), .int .i64 (k : Nat), .int .i64 (s.o : Nat), .int .i64 (s.l : Nat)]) := (Arr.new' _ _ _ _ rfl).alloc _
 have HR0 : Hid (Arr ((W.alloc (.cells #[.slice (some ⟨tb, 0, none⟩) ts.length c, .int .i64 (s.i : Nat), .int .i64 (k : Nat), .int .i64 (s.o : Nat), .int .i64 (s.l : Nat)] 54)).alloc (.cells #[.slice none 0 0, .int .i64 0, .int .i64 0, .int .i64 0, .int .i64 0] 54)) 54 (W.heap.size + 1) [.slice none 0 0, .int .i64 0, .int .i64 0, .int .i64 0, .int .i64 0]) := Arr.new2 _ _ _ _ _ rfl
 have hk1 : ¬ (k : Int) = 0 := by omega
 clear hk
 go_enter Tryz.func17, Tryz.ntmps17
 go_wp2_with fail
 have hA : Arr ((W.alloc (.cells #[.slice (some ⟨tb, 0, none⟩) ts.length c, .int .i64 (s.i : Nat), .int .i64 (k : Nat), .int .i64 (s.o : Nat), .int .i64 (s.l : Nat)] 54)).alloc (.cells #[.slice (some ⟨tb, 0, none⟩) ts.length c, .int .i64 (s.i : Nat), .int .i64 (k : Nat), .int .i64 (s.o : Nat), .int .i64 (s.l : Nat)] 54)) 54 (W.heap.size + 1) [.slice (some ⟨tb, 0, none⟩) ts.length c, .int .i64 (s.i : Nat), .int .i64 (k : Nat), .int .i64 (s.o : Nat), .int .i64 (s.l : Nat)] := Arr.new2 _ _ _ _ _ rfl
 have hB : Below W.heap.size W ((W.alloc (.cells #[.slice (some ⟨tb, 0, none⟩) ts.length c, .int .i64 (s.i : Nat), .int .i64 (k : Nat), .int .i64 (s.o : Nat), .int .i64 (s.l : Nat)] 54)).alloc (.cells #[.slice (some ⟨tb, 0, none⟩) ts.length c, .int .i64 (s.i : Nat), .int .i64 (k : Nat), .int .i64 (s.o : Nat), .int .i64 (s.l : Nat)] 54)) := ((Below.refl _ _).alloc (Nat.le_refl _) _).alloc (by simp) _
 have c0 := hA.cell 0
 have c1 := hA.cell 1
 have c2 := hA.cell 2
 have c3 := hA.cell 3
 have c4 := hA.cell 4
 simp only [List.getElem?_cons_zero, List.getElem?_cons_succ] at c0 c1 c2 c3 c4
 refine bodyPost_ret (v := .agg #[.slice (some ⟨tb, 0, none⟩) ts.length c, .int .i64 (s.i : Nat), .int .i64 (k : Nat), .int .i64 (s.o : Nat), .int .i64 (s.l : Nat)]) ?_ rfl ⟨rfl, hB⟩
 simp [results, Tryz.results17, go_sem, c0, c1, c2, c3, c4]
end
end Go.Proofs.YteieimchleioaaaGreatDoor
/-
  The reference's bad, must, name.
-/
namespace Go.Proofs.YteieimchleioaaaGreatDoor
open Go.ChangeShapes Go.WideShapes Go.ChangeAt Go.RowKit
set_option linter.unusedVariables false

def st {α : Type} (k i : Nat) (r : PR α) : PR α := if k = 0 then r else .bad k i
theorem st_0 {α : Type} {k i : Nat} {r : PR α} (h : k = 0) : st k i r = r := if_pos h
theorem st_n {α : Type} {k i : Nat} {r : PR α} (h : ¬ k = 0) : st k i r = .bad k i := if_neg h
def Lk (k l : Nat) : Prop := l ≤ 33 ∧ (k = 0 → l ≤ 32)
/-- The place that a rule hands back, and what it stands for. -/
def Go1 {α : Type} (ts : List Tok) (k i o l : Nat) (x : α) (r : PR α) : Prop := i < ts.length ∧ Lk k l ∧ ((k = 0 ∧ r = .ok x ⟨i, o, l⟩) ∨ (¬ k = 0 ∧ r = .bad k i))
theorem Go1.then {α β : Type} {ts : List Tok} {k i o l : Nat} {x : α} {r : PR α} (h : Go1 ts k i o l x r) (f : α → PS → PR β) : r.then f = st k i (f x ⟨i, o, l⟩) := by
 obtain ⟨_, _, ⟨h1, h2⟩ | ⟨h1, h2⟩⟩ := h
 ·rw [h2, PR.then_ok, st_0 h1]
 ·rw [h2, PR.then_bad, st_n h1]
theorem st_st {α : Type} {k i : Nat} {r : PR α} : st k i (st k i r) = st k i r := by
 unfold st
 split
 ·rfl
 ·rfl
/-- Tokens whose texts are not too long. -/
def OkB (ts : List Tok) : Prop := OkTs ts ∧ ∀ i, (txt ts i).length ≤ 100000
theorem OkTs.nameKind {ts : List Tok} (h : OkTs ts) {i : Nat} (hi : i < ts.length) (hn : isName (bstr (txt ts i)) = true) : (ts.getD i tok0).1 = 1 := by
 obtain ⟨us, e, rfl, he, hu⟩ := h
 rw [List.length_append, List.length_singleton] at hi
 unfold txt at hn
 by_cases h1 : i < us.length
 ·have e1 : (us ++ [e]).getD i tok0 = us[i] := by rw [List.getD_eq_getElem?_getD, List.getElem?_append_left h1, List.getElem?_eq_getElem h1]; rfl
  rw [e1] at hn ⊢
  exact (hu us[i] (List.getElem_mem h1)).name hn
 ·obtain rfl : i = us.length := by omega
  rw [List.getD_eq_getElem?_getD, List.getElem?_append_right (Nat.le_refl _), Nat.sub_self] at hn
  have h2 : e.2.1 = [] := (Prod.mk.inj he).2
  exact absurd hn (by show ¬ isName (bstr e.2.1) = true; rw [h2]; decide +kernel)
theorem Arr.setP {w : World} {t : TypeId} {g : Nat} {y0 y1 y2 y3 y4 : Value} (h : Arr w t g [y0, y1, y2, y3, y4]) (x0 x1 x2 x3 x4 : Value) : Arr (((((w.setCell ⟨g, 0, none⟩ x0).setCell ⟨g, 1, none⟩ x1).setCell ⟨g, 2, none⟩ x2).setCell ⟨g, 3, none⟩ x3).setCell ⟨g, 4, none⟩ x4) t g [x0, x1, x2, x3, x4] := (((((h.set 0 x0).set 1 x1).set 2 x2).set 3 x3).set 4 x4)
theorem kp_setP (w : World) (g : Nat) (x0 x1 x2 x3 x4 : Value) : Kp g w (((((w.setCell ⟨g, 0, none⟩ x0).setCell ⟨g, 1, none⟩ x1).setCell ⟨g, 2, none⟩ x2).setCell ⟨g, 3, none⟩ x3).setCell ⟨g, 4, none⟩ x4) := ((((((Kp.of (pb := g) (Below.refl _ _)).set 0 x0).set 1 x1).set 2 x2).set 3 x3).set 4 x4)
theorem resP {fn : Func} {p : Tmp} (h : fn.results = #[.cell p 54]) {tmps : Array Value} {w : World} {g : Nat} {x0 x1 x2 x3 x4 : Value} (hA : Arr w 54 g [x0, x1, x2, x3, x4]) (hp : tmps.getD p undef = .pointer (some ⟨g, 0, none⟩)) :
  (results fn tmps).run Tryz.prog w = .ok (.agg #[x0, x1, x2, x3, x4]) w :=
 results_cell_row h tmps w g 54 #[x0, x1, x2, x3, x4] (0, 0) _ hp hA Tryz.underlying54 rfl (by kernel_rfl)
section
variable {W : World} {tb c k : Nat} {ts : List Tok} {s : PS}
theorem rbad_any (e : Nat) : Calls Tryz.prog 17 #[.agg #[.slice (some ⟨tb, 0, none⟩) ts.length c, .int .i64 (s.i : Nat), .int .i64 (k : Nat), .int .i64 (s.o : Nat), .int .i64 (s.l : Nat)], .int .i64 (e : Nat)] W fun r w' => ∃ k', k' = (if k = 0 then e else k) ∧ r = .returned (.agg #[.slice (some ⟨tb, 0, none⟩) ts.length c, .int .i64 (s.i : Nat), .int .i64 (k' : Nat), .int .i64 (s.o : Nat), .int .i64 (s.l : Nat)]) ∧ Below W.heap.size W w' := by
 by_cases h : k = 0
 ·subst h
  exact (rbad_0 (e : Nat)).mono fun r w' hr => ⟨e, rfl, hr.1, hr.2⟩
 ·exact (rbad_n (e : Nat) h).mono fun r w' hr => ⟨k, (if_neg h).symm, hr.1, hr.2⟩
set_option maxRecDepth 100000 in
set_option maxHeartbeats 2000000 in
theorem rmust_any (ho : OkTs ts) (h : RT W tb ts) (hi : s.i < ts.length) (hl : Lk k s.l) (b : ByteArray) (t : List UInt8) (hb : b.data.toList = t) (ht : t ≠ []) : Calls Tryz.prog 38 #[.agg #[.slice (some ⟨tb, 0, none⟩) ts.length c, .int .i64 (s.i : Nat), .int .i64 (k : Nat), .int .i64 (s.o : Nat), .int .i64 (s.l : Nat)], .string b] W fun e w' => ∃ i' k', Go1 ts k' i' s.o s.l () (st k s.i (wantF ts t s)) ∧ e = .returned (.agg #[.slice (some ⟨tb, 0, none⟩) ts.length c, .int .i64 (i' : Nat), .int .i64 (k' : Nat), .int .i64 (s.o : Nat), .int .i64 (s.l : Nat)]) ∧ Below W.heap.size W w' := by
 have hb2 : Below W.heap.size W ((W.alloc (.cells #[.slice (some ⟨tb, 0, none⟩) ts.length c, .int .i64 (s.i : Nat), .int .i64 (k : Nat), .int .i64 (s.o : Nat), .int .i64 (s.l : Nat)] 54)).alloc (.cells #[.slice none 0 0, .int .i64 0, .int .i64 0, .int .i64 0, .int .i64 0] 54)) := ((Below.refl _ _).alloc (Nat.le_refl _) _).alloc (by simp) _
 have HB2 := Lib.hid hb2
 have HA2 : Hid (Arr ((W.alloc (.cells #[.slice (some ⟨tb, 0, none⟩) ts.length c, .int .i64 (s.i : Nat), .int .i64 (k : Nat), .int .i64 (s.o : Nat), .int .i64 (s.l : Nat)] 54)).alloc (.cells #[.slice none 0 0, .int .i64 0, .int .i64 0, .int .i64 0, .int .i64 0] 54)) 54 W.heap.size [.slice (some ⟨tb, 0, none⟩) ts.length c, .int .i64 (s.i : Nat), .int .i64 (k : Nat), .int .i64 (s.o : Nat), .int .i64 (s.l : Nat)]) := (Arr.new' _ _ _ _ rfl).alloc _
 have HQ2 : Hid (Arr ((W.alloc (.cells #[.slice (some ⟨tb, 0, none⟩) ts.length c, .int .i64 (s.i : Nat), .int .i64 (k : Nat), .int .i64 (s.o : Nat), .int .i64 (s.l : Nat)] 54)).alloc (.cells #[.slice none 0 0, .int .i64 0, .int .i64 0, .int .i64 0, .int .i64 0] 54)) 54 (W.heap.size + 1) [.slice none 0 0, .int .i64 0, .int .i64 0, .int .i64 0, .int .i64 0]) := Arr.new2 _ _ _ _ _ rfl
 have HT2 : Hid (RT ((W.alloc (.cells #[.slice (some ⟨tb, 0, none⟩) ts.length c, .int .i64 (s.i : Nat), .int .i64 (k : Nat), .int .i64 (s.o : Nat), .int .i64 (s.l : Nat)] 54)).alloc (.cells #[.slice none 0 0, .int .i64 0, .int .i64 0, .int .i64 0, .int .i64 0] 54)) tb ts) := (h.later ((Below.refl _ _).alloc (Nat.le_refl _) _)).later ((Below.refl _ _).alloc (Nat.le_refl _) _)
 have HIS := Lib.hid (ris_any (c := c) (k := k) ho HT2.out hi b t hb ht)
 obtain ⟨d, hd⟩ : ∃ d, d = (decide (k = 0) && decide (txt ts s.i = t)) := ⟨_, rfl⟩
 have HD := Lib.hid hd
 rw [← hd] at HIS
 have HO := Lib.hid ho
 have HH := Lib.hid hi
 have HL := Lib.hid hl
 have HNE := Lib.hid ht
 have hz0 : (0 : Int) ≤ s.i := by omega
 have hz1 : (s.i : Int) ≤ 100000 := by have := h.2.1; omega
 clear hb2 h hi hl ho hd hb ht
 go_enter Tryz.func38, Tryz.ntmps38
 go_wp2_with fail
 refine HIS.out.mono ?_
 rintro r w3 ⟨rfl, b3⟩
 have HB := Lib.hid (HB2.out.trans (b3.mono HB2.out.size))
 have HA := Lib.hid (HA2.out.later b3)
 have HQ := Lib.hid (HQ2.out.later b3)
 clear b3 HIS HB2 HA2 HQ2 HT2
 cases d with
 | true =>
  have hd := HD.out
  simp only [Bool.true_eq, Bool.and_eq_true, decide_eq_true_eq] at hd
  have HK := Lib.hid hd.1
  have HT := Lib.hid hd.2
  clear hd
  have HG : Hid (Go1 ts k (s.i + 1) s.o s.l () (st k s.i (wantF ts t s))) := ⟨HO.out.step (by rw [HT.out]; exact HNE.out), HL.out, .inl ⟨HK.out, by rw [st_0 HK.out]; exact if_pos HT.out⟩⟩
  obtain ⟨x0, y0, x1, y1, x2, y2, x3, y3, x4, y4⟩ := HA.out.all5
  go_upto_region 4 with (fail)
  clear x0 y0 x1 y1 x2 y2 x3 y3 x4 y4
  have HA := Lib.hid (HA.out.set 1 (.int .i64 ((s.i : Int) + 1)))
  have HQ := Lib.hid (HQ.out.setCell (a := ⟨W.heap.size, 1, none⟩) (by simp) (.int .i64 ((s.i : Int) + 1)))
  have HB := Lib.hid (below_box HB.out (Nat.le_refl _) 1 (.int .i64 ((s.i : Int) + 1)))
  have HA : Hid (Arr (w3.setCell ⟨W.heap.size, 1, none⟩ (.int .i64 ((s.i : Int) + 1))) 54 W.heap.size [.slice (some ⟨tb, 0, none⟩) ts.length c, .int .i64 ((s.i : Int) + 1), .int .i64 (k : Nat), .int .i64 (s.o : Nat), .int .i64 (s.l : Nat)]) := HA.out
  generalize w3.setCell ⟨W.heap.size, 1, none⟩ (.int .i64 ((s.i : Int) + 1)) = w4 at HA HQ HB ⊢
  obtain ⟨x0, y0, x1, y1, x2, y2, x3, y3, x4, y4⟩ := HA.out.all5
  obtain ⟨p0, q0, p1, q1, p2, q2, p3, q3, p4, q4⟩ := HQ.out.all5
  go_wp2_with fail
  have hA := HQ.out.setP (.slice (some ⟨tb, 0, none⟩) ts.length c) (.int .i64 ((s.i : Int) + 1)) (.int .i64 (k : Nat)) (.int .i64 (s.o : Nat)) (.int .i64 (s.l : Nat))
  refine bodyPost_ret (resP rfl hA rfl) rfl ⟨s.i + 1, k, HG.out, by simp, ?_⟩
  exact below_box (below_box (below_box (below_box (below_box HB.out (g := W.heap.size + 1) (Nat.le_succ _) 0 _) (g := W.heap.size + 1) (Nat.le_succ _) 1 _) (g := W.heap.size + 1) (Nat.le_succ _) 2 _) (g := W.heap.size + 1) (Nat.le_succ _) 3 _) (g := W.heap.size + 1) (Nat.le_succ _) 4 _
 | false =>
  have hd := HD.out
  simp only [Bool.false_eq, Bool.and_eq_false_iff, decide_eq_false_iff_not] at hd
  have HG : Hid (Go1 ts (if k = 0 then 6 else k) s.i s.o s.l () (st k s.i (wantF ts t s))) := by
   refine ⟨HH.out, ?_, .inr ?_⟩
   ·by_cases hk : k = 0
    ·rw [if_pos hk]; exact ⟨HL.out.1, fun h => by cases h⟩
    ·rw [if_neg hk]; exact HL.out
   ·by_cases hk : k = 0
    ·rw [if_pos hk, st_0 hk]; exact ⟨by decide, if_neg (hd.resolve_left (fun h => h hk))⟩
    ·rw [if_neg hk, st_n hk]; exact ⟨hk, rfl⟩
  have HBD := Lib.hid (rbad_any (c := c) (k := k) (tb := tb) (ts := ts) (s := s) (W := w3) 6)
  clear hd
  obtain ⟨x0, y0, x1, y1, x2, y2, x3, y3, x4, y4⟩ := HA.out.all5
  go_wp2_with fail
  refine HBD.out.mono ?_
  rintro r w4 ⟨k', hk', rfl, b4⟩
  rw [← hk'] at HG
  have HQ := Lib.hid (HQ.out.later b4)
  have HB := Lib.hid (HB.out.trans (b4.mono HB.out.size))
  clear b4 hk' HBD
  clear x0 y0 x1 y1 x2 y2 x3 y3 x4 y4
  obtain ⟨p0, q0, p1, q1, p2, q2, p3, q3, p4, q4⟩ := HQ.out.all5
  go_wp2_with fail
  have hA := HQ.out.setP (.slice (some ⟨tb, 0, none⟩) ts.length c) (.int .i64 (s.i : Nat)) (.int .i64 (k' : Nat)) (.int .i64 (s.o : Nat)) (.int .i64 (s.l : Nat))
  refine bodyPost_ret (resP rfl hA rfl) rfl ⟨s.i, k', HG.out, rfl, ?_⟩
  exact below_box (below_box (below_box (below_box (below_box HB.out (g := W.heap.size + 1) (Nat.le_succ _) 0 _) (g := W.heap.size + 1) (Nat.le_succ _) 1 _) (g := W.heap.size + 1) (Nat.le_succ _) 2 _) (g := W.heap.size + 1) (Nat.le_succ _) 3 _) (g := W.heap.size + 1) (Nat.le_succ _) 4 _
end
end Go.Proofs.YteieimchleioaaaGreatDoor
