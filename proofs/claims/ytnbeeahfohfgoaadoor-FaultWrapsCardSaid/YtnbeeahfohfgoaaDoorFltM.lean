/-
  errors.Is over an error of a description, with a code; awake.
-/
import Derived.Test.YtnbeeahfohfgoaaDoorFltL
namespace Go.Proofs.YtnbeeahfohfgoaaDoor
open Go.ChangeShapes Go.WideShapes Go.ChangeAt Go.RowKit Go.Extern Go.Stop Go.Extern.Stop errAs
set_option linter.unusedVariables false

def cmpE : Array Value → Sem Value := (ReflectliteType.rows.getD 2 ("", fun _ => pure .nilIface)).2
theorem cmpC (w : World) : (cmpE #[.agg #[.pointer (some ⟨5, 30, none⟩)]]).run Tryd.prog w = .ok (.bool true) w := by kernel_rfl

set_option maxRecDepth 100000 in
set_option maxHeartbeats 4000000 in
theorem Is_W (f : Bool) (c n d : Int) (ps : List ByteArray) (w : World) :
    Calls Tryd.prog 15 #[errW f c n ps, codeV d] w fun e w' => e = .returned (.bool (decide (c = d))) ∧ Below w.heap.size w w' := by
  have h10 := @run_callFunc_extern Tryd.prog 22 _ ReflectliteType.typeOf Tryd.func22 (by kernel_rfl) (by kernel_rfl) (by kernel_rfl) (by kernel_rfl)
  have h71 := @run_callFunc_extern Tryd.prog 71 _ cmpE Tryd.func71 (by kernel_rfl) (by kernel_rfl) (by kernel_rfl) (by kernel_rfl)
  have tO := typeOfC
  have mC := methodComparable
  have cC := cmpC
  have H := Lib.hid (is_W f c n d ps)
  obtain ⟨t, v, hv⟩ := errW_iface f c n ps
  rw [hv] at H ⊢
  clear hv
  unfold codeV at H ⊢
  go_enter Tryd.func15, Tryd.ntmps15
  go_wp2_with fail
  refine (H.out _).mono ?_
  rintro e w1 ⟨rfl, b1⟩
  have HB := Lib.hid b1
  clear b1
  go_wp2_with fail
  go_ret
  exact ⟨rfl, HB.out⟩
/-- What the calls read of package-level variables. -/
def EnvF (w : World) : Prop := ErrT w ∧ NamesT w ∧ TabT w
theorem EnvF.below {w w' : World} (h : EnvF w) (hb : Below w.heap.size w w') : EnvF w' := ⟨errT_below h.1 hb, h.2.1.below hb, h.2.2.below hb⟩
def tup : ByteArray := ⟨#[116, 117, 112, 108, 101]⟩
theorem ex1 : textW 7 [tup] = ⟨#[116, 117, 112, 108, 101, 58, 32, 101, 114, 114, 111, 114, 32, 55]⟩ := by decide +kernel
theorem ex2 : dec 7 = ⟨#[55]⟩ := dec7

set_option maxRecDepth 100000 in
set_option maxHeartbeats 4000000 in
theorem fawake_any (w : World) (h : EnvF w) : Calls Tryd.prog 6 #[] w fun e w' => e = .returned (.bool true) ∧ Below w.heap.size w w' := by
  have HE := Lib.hid h
  have mW := method_W
  have HN := Lib.hid (fnew_any 7 7)
  have HI : Hid (∀ w, Calls Tryd.prog 13 #[.string tup, faultV 7 7] w fun e w' => e = .returned (.iface 52 (.agg #[.string tup, faultV 7 7])) ∧ Below w.heap.size w w') := in_err tup true 7 7 []
  have HX : Hid (∀ w, TabT w → Calls Tryd.prog 67 #[.agg #[.string tup, faultV 7 7]] w fun e w' => e = .returned (.string (textW 7 [tup])) ∧ Below w.heap.size w w') := within_error true 7 7 (by decide) (by decide) [] tup (by decide) (by decide)
  have HT : Hid (∀ w, ErrT w → NamesT w → TabT w → Calls Tryd.prog 17 #[.iface 52 (.agg #[.string tup, faultV 7 7])] w fun e w' => e = .returned (.string ⟨#[100, 101, 112, 116, 104, 32, 55]⟩) ∧ Below w.heap.size w w') := text_7 [tup]
  rw [ex1] at HX
  clear h
  unfold faultV at HN HI HX HT
  go_enter Tryd.func6, Tryd.ntmps6
  go_wp2_with fail
  refine (HN.out _).mono ?_
  rintro e w0 ⟨rfl, rfl⟩
  go_wp2_with fail
  refine (HI.out _).mono ?_
  rintro e w1 ⟨rfl, b1⟩
  have HE1 := Lib.hid (HE.out.below b1)
  have HB1 := Lib.hid b1
  clear b1 HE
  go_wp2_with fail
  refine (code_nil _ HE1.out.1).mono ?_
  rintro e w2 ⟨rfl, b2⟩
  have HE2 := Lib.hid (HE1.out.below b2)
  have HB2 := Lib.hid (HB1.out.trans (b2.mono HB1.out.size))
  clear b2 HE1 HB1
  go_wp2_with fail
  refine (HX.out _ HE2.out.2.2).mono ?_
  rintro e w3 ⟨rfl, b3⟩
  have HE3 := Lib.hid (HE2.out.below b3)
  have HB3 := Lib.hid (HB2.out.trans (b3.mono HB2.out.size))
  clear b3 HE2 HB2
  go_wp2_with fail
  refine (HT.out _ HE3.out.1 HE3.out.2.1 HE3.out.2.2).mono ?_
  rintro e w4 ⟨rfl, b4⟩
  have HE4 := Lib.hid (HE3.out.below b4)
  have HB4 := Lib.hid (HB3.out.trans (b4.mono HB3.out.size))
  clear b4 HE3 HB3
  go_wp2_with fail
  refine (in_nil _ _).mono ?_
  rintro e w5 ⟨rfl, rfl⟩
  go_wp2_with fail
  refine (shift_nil 1 _ HE4.out.1).mono ?_
  rintro e w6 ⟨rfl, b6⟩
  have HE6 := Lib.hid (HE4.out.below b6)
  have HB6 := Lib.hid (HB4.out.trans (b6.mono HB4.out.size))
  clear b6 HE4 HB4
  go_wp2_with fail
  refine (name_12 _ HE6.out.2.1).mono ?_
  rintro e w7 ⟨rfl, rfl⟩
  go_wp2_with fail
  refine (text_nil _).mono ?_
  rintro e w8 ⟨rfl, rfl⟩
  go_wp2_with fail
  go_ret
  exact ⟨rfl, HB6.out⟩
end Go.Proofs.YtnbeeahfohfgoaaDoor
