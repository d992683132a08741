/-
  vestrylaw09.LexLines.
-/
import Derived.Test.YtnhfcggecmncmaaDoorLexI
namespace Go.Proofs.YtnhfcggecmncmaaDoor
open Go.ChangeShapes Go.WideShapes Go.ChangeAt Go.RowKit
set_option linter.unusedVariables false

set_option maxRecDepth 100000 in
set_option maxHeartbeats 2000000 in
theorem lines_walk (s : ByteArray) (x : Int) (w : World) (hs : s.size ≤ maxLen) (h : Env w) : Calls Tryd.prog 6 #[.string s, .int .i64 x] w fun e w' => e = .returned (.bool true) ∧ Below w.heap.size w w' := by
  unfold maxLen at hs
  have HE := Lib.hid h
  clear h
  by_cases hl : s.size ≤ 2000
  · have g : ¬ (2000 : Int) < s.size := by omega
    have HA := Lib.hid (fun W => lline_any s x (by omega) W)
    have HB := Lib.hid (fun W => rline_any s x (by omega) W)
    obtain ⟨a, ha⟩ : ∃ a, a = (lineR s x).1 := ⟨_, rfl⟩
    obtain ⟨b, hb⟩ : ∃ b, b = (lineR s x).2 := ⟨_, rfl⟩
    rw [← ha, ← hb] at HA HB
    clear ha hb
    go_enter Tryd.func6, Tryd.ntmps6
    go_wp2_with fail
    refine (awake_any _ HE.out).mono ?_
    rintro e w1 ⟨rfl, b1⟩
    have HB1 := Lib.hid b1
    clear b1
    go_wp2_with fail
    refine (HA.out _).mono ?_
    rintro e w2 ⟨rfl, rfl⟩
    go_wp2_with fail
    refine (HB.out _).mono ?_
    rintro e w2 ⟨rfl, rfl⟩
    go_wp2_with fail
    go_ret
    exact ⟨by simp, HB1.out⟩
  · have g : (2000 : Int) < s.size := by omega
    go_enter Tryd.func6, Tryd.ntmps6
    go_wp2_with fail
    refine (awake_any _ HE.out).mono ?_
    rintro e w1 ⟨rfl, b1⟩
    have HB1 := Lib.hid b1
    have HE1 := Lib.hid (HE.out.below b1)
    clear b1
    go_wp2_with fail
    refine (awake_any _ HE1.out).mono ?_
    rintro e w2 ⟨rfl, b2⟩
    have HB2 := Lib.hid (HB1.out.trans (b2.mono HB1.out.size))
    clear b2
    go_wp2_with fail
    go_ret
    exact ⟨rfl, HB2.out⟩
end Go.Proofs.YtnhfcggecmncmaaDoor
