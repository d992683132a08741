/-
  fault.Code, fault.At, fault.Shift.
-/
import Derived.Test.YtnbeeahfohfgoaaDoorFltJ
namespace Go.Proofs.YtnbeeahfohfgoaaDoor
open Go.ChangeShapes Go.WideShapes Go.ChangeAt Go.RowKit
open errAs (ErrT)
set_option linter.unusedVariables false

theorem errT_below {w w' : World} (h : ErrT w) (hb : Below w.heap.size w w') : ErrT w' := h.below hb h.lt
set_option maxRecDepth 100000 in
theorem code_W (f : Bool) (c n : Int) (ps : List ByteArray) (w : World) (hg : ErrT w) :
    Calls Tryd.prog 9 #[errW f c n ps] w fun e w' => e = .returned (.tuple #[.int .i64 c, .bool true]) ∧ Below w.heap.size w w' := by
  have H := Lib.hid (find_WC f c n ps w hg)
  clear hg
  go_enter Tryd.func9, Tryd.ntmps9
  go_wp2_with fail
  refine H.out.mono ?_
  rintro e w1 ⟨rfl, B1⟩
  go_wp2_with fail
  go_ret2
  exact ⟨rfl, B1⟩
set_option maxRecDepth 100000 in
theorem code_nil (w : World) (hg : ErrT w) :
    Calls Tryd.prog 9 #[.nilIface] w fun e w' => e = .returned (.tuple #[.int .i64 0, .bool false]) ∧ Below w.heap.size w w' := by
  have H := Lib.hid (find_nilC w hg)
  clear hg
  go_enter Tryd.func9, Tryd.ntmps9
  go_wp2_with fail
  refine H.out.mono ?_
  rintro e w1 ⟨rfl, B1⟩
  go_wp2_with fail
  go_ret2
  exact ⟨rfl, B1⟩
set_option maxRecDepth 100000 in
theorem at_WF (c n : Int) (ps : List ByteArray) (w : World) (hg : ErrT w) :
    Calls Tryd.prog 10 #[errW true c n ps] w fun e w' => e = .returned (.tuple #[.int .i64 n, .bool true]) ∧ Below w.heap.size w w' := by
  have H := Lib.hid (find_WF c n ps w hg)
  clear hg
  go_enter Tryd.func10, Tryd.ntmps10
  go_wp2_with fail
  refine H.out.mono ?_
  rintro e w1 ⟨rfl, B1⟩
  go_wp2_with fail
  go_ret2
  exact ⟨rfl, B1.alloc B1.size _⟩
set_option maxRecDepth 100000 in
theorem at_WN (c n : Int) (ps : List ByteArray) (w : World) (hg : ErrT w) :
    Calls Tryd.prog 10 #[errW false c n ps] w fun e w' => e = .returned (.tuple #[.int .i64 0, .bool false]) ∧ Below w.heap.size w w' := by
  have H := Lib.hid (find_WN c n ps w hg)
  clear hg
  go_enter Tryd.func10, Tryd.ntmps10
  go_wp2_with fail
  refine H.out.mono ?_
  rintro e w1 ⟨rfl, B1⟩
  go_wp2_with fail
  go_ret2
  exact ⟨rfl, B1.alloc B1.size _⟩
set_option maxRecDepth 100000 in
theorem at_nil (w : World) (hg : ErrT w) :
    Calls Tryd.prog 10 #[.nilIface] w fun e w' => e = .returned (.tuple #[.int .i64 0, .bool false]) ∧ Below w.heap.size w w' := by
  have H := Lib.hid (find_nilF w hg)
  clear hg
  go_enter Tryd.func10, Tryd.ntmps10
  go_wp2_with fail
  refine H.out.mono ?_
  rintro e w1 ⟨rfl, B1⟩
  go_wp2_with fail
  go_ret2
  exact ⟨rfl, B1.alloc B1.size _⟩
/-- The offset that fault.At finds. -/
def offOf (f : Bool) (n : Int) : Int := if f = true then n else 0
theorem at_W (f : Bool) (c n : Int) (ps : List ByteArray) (w : World) (hg : ErrT w) :
    Calls Tryd.prog 10 #[errW f c n ps] w fun e w' => e = .returned (.tuple #[.int .i64 (offOf f n), .bool f]) ∧ Below w.heap.size w w' := by
  cases f
  · exact at_WN c n ps w hg
  · exact at_WF c n ps w hg
set_option maxRecDepth 100000 in
theorem shift_nil (n : Int) (w : World) (hg : ErrT w) :
    Calls Tryd.prog 12 #[.nilIface, .int .i64 n] w fun e w' => e = .returned .nilIface ∧ Below w.heap.size w w' := by
  have H := Lib.hid (code_nil w hg)
  clear hg
  go_enter Tryd.func12, Tryd.ntmps12
  go_wp2_with fail
  refine H.out.mono ?_
  rintro e w1 ⟨rfl, B1⟩
  go_wp2_with fail
  go_ret
  exact ⟨rfl, B1⟩
set_option maxRecDepth 100000 in
theorem shift_W (f : Bool) (c n m : Int) (ps : List ByteArray) (w : World) (hg : ErrT w) (h0 : -9223372036854775808 ≤ offOf f n + m) (h1 : offOf f n + m ≤ 9223372036854775807) :
    Calls Tryd.prog 12 #[errW f c n ps, .int .i64 m] w fun e w' => e = .returned (faultV c (offOf f n + m)) ∧ Below w.heap.size w w' := by
  have H := Lib.hid (code_W f c n ps)
  have HA := Lib.hid (at_W f c n ps)
  have HE := Lib.hid hg
  clear hg
  obtain ⟨V, hV⟩ : ∃ V, V = errW f c n ps := ⟨_, rfl⟩
  rw [← hV] at H HA ⊢
  obtain ⟨k, hk⟩ : ∃ k, k = offOf f n := ⟨_, rfl⟩
  rw [← hk] at HA h0 h1 ⊢
  clear hV hk
  have HN := Lib.hid (fun w => fnew_any c (k + m) w)
  go_enter Tryd.func12, Tryd.ntmps12
  go_wp2_with fail
  refine (H.out _ HE.out).mono ?_
  rintro e w1 ⟨rfl, b1⟩
  have HE1 := Lib.hid (errT_below HE.out b1)
  have HB1 := Lib.hid b1
  clear b1
  go_wp2_with fail
  refine (HA.out _ HE1.out).mono ?_
  rintro e w2 ⟨rfl, b2⟩
  have HB2 := Lib.hid (HB1.out.trans (b2.mono HB1.out.size))
  clear b2
  go_wp2_with fail
  refine (HN.out _).mono ?_
  rintro e w3 ⟨rfl, rfl⟩
  go_wp2_with fail
  go_ret
  exact ⟨rfl, HB2.out⟩

/-- What the calls read of fault.names. -/
def NamesT (w : World) : Prop := w.cell? ⟨0, 7, none⟩ = some (.string ⟨#[100, 101, 112, 116, 104]⟩) ∧ w.cell? ⟨0, 12, none⟩ = some (.string ⟨#[116, 97, 103]⟩)
theorem NamesT.below {w w' : World} (h : NamesT w) (hb : Below w.heap.size w w') : NamesT w' :=
  ⟨(hb.cell (by exact blk h.1)).trans h.1, (hb.cell (by exact blk h.2)).trans h.2⟩
set_option maxRecDepth 100000 in
theorem name_7 (w : World) (h : NamesT w) : Calls Tryd.prog 18 #[.int .i64 7] w fun e w' => e = .returned (.string ⟨#[100, 101, 112, 116, 104]⟩) ∧ w = w' := by
  have c7 := h.1
  clear h
  go_enter Tryd.func18, Tryd.ntmps18
  go_wp2_with fail
  go_ret
  exact ⟨rfl, rfl⟩
set_option maxRecDepth 100000 in
theorem name_12 (w : World) (h : NamesT w) : Calls Tryd.prog 18 #[.int .i64 12] w fun e w' => e = .returned (.string ⟨#[116, 97, 103]⟩) ∧ w = w' := by
  have c7 := h.2
  clear h
  go_enter Tryd.func18, Tryd.ntmps18
  go_wp2_with fail
  go_ret
  exact ⟨rfl, rfl⟩
set_option maxRecDepth 100000 in
theorem text_nil (w : World) : Calls Tryd.prog 17 #[.nilIface] w fun e w' => e = .returned (.string ⟨#[111, 107]⟩) ∧ w = w' := by
  go_enter Tryd.func17, Tryd.ntmps17
  go_wp2_with fail
  go_ret
  exact ⟨rfl, rfl⟩
theorem dec7 : dec 7 = ⟨#[55]⟩ := dec_digit (n := 7) (by decide)
set_option maxRecDepth 100000 in
theorem text_7 (ps : List ByteArray) (w : World) (hg : ErrT w) (hn : NamesT w) (ht : TabT w) :
    Calls Tryd.prog 17 #[errW true 7 7 ps] w fun e w' => e = .returned (.string ⟨#[100, 101, 112, 116, 104, 32, 55]⟩) ∧ Below w.heap.size w w' := by
  have H := Lib.hid (code_W true 7 7 ps)
  have HA := Lib.hid (at_WF 7 7 ps)
  have HI := Lib.hid (Tryd.strconv_Itoa 7 (by decide) (by decide))
  have HE := Lib.hid hg
  have HN := Lib.hid hn
  have HT := Lib.hid ht
  obtain ⟨t, v, hv⟩ := errW_iface true 7 7 ps
  rw [hv] at H HA ⊢
  clear hg hv hn ht
  go_enter Tryd.func17, Tryd.ntmps17
  go_wp2_with fail
  refine (H.out _ HE.out).mono ?_
  rintro e w1 ⟨rfl, b1⟩
  have HE1 := Lib.hid (errT_below HE.out b1)
  have HN1 := Lib.hid (HN.out.below b1)
  have HT1 := Lib.hid (HT.out.below b1)
  have HB1 := Lib.hid b1
  clear b1
  go_wp2_with fail
  refine (HA.out _ HE1.out).mono ?_
  rintro e w2 ⟨rfl, b2⟩
  have HN2 := Lib.hid (HN1.out.below b2)
  have HT2 := Lib.hid (HT1.out.below b2)
  have HB2 := Lib.hid (HB1.out.trans (b2.mono HB1.out.size))
  clear b2
  go_wp2_with fail
  refine (name_7 _ HN2.out).mono ?_
  rintro e w3 ⟨rfl, rfl⟩
  go_wp2_with fail
  refine (HI.out _ HT2.out).mono ?_
  rintro e w3 ⟨rfl, k, os, rfl⟩
  rw [show (⟨(Lib.itoa 7).toArray⟩ : ByteArray) = dec 7 from rfl, dec7]
  go_wp2_with fail
  go_ret
  exact ⟨rfl, HB2.out.trans ((below_grow w2 k os).mono HB2.out.size)⟩
end Go.Proofs.YtnbeeahfohfgoaaDoor
