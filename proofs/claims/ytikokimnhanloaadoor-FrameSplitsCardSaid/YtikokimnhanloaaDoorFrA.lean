/-
  frame.Put, frame.Size and the reference's Put.
-/
import Derived.Test.YtikokimnhanloaaDoorCrcSpec
import Derived.Test.YtikokimnhanloaaDoorRefNumber
import Derived.Test.YtikokimnhanloaaDoorPut
import Derived.Test.YtikokimnhanloaaDoorRefPut
import Derived.Lib.SmallJoins
import Derived.Deep.RegionWith
namespace Go.Proofs.YtikokimnhanloaaDoor
open Go.ChangeShapes Go.WideShapes Go.ChangeAt Go.RowKit
set_option linter.unusedVariables false

def framed (l : List UInt8) : List UInt8 := put l.length ++ sealed l
theorem own_le {w : World} {base base' n : Nat} {v : Value} {l : List UInt8} (h : w.ownsRow base 5 1 v n (bvs l)) (hb : base' ≤ base) : w.ownsRow base' 5 1 v n (bvs l) := Joins.ownsRow_le h hb
theorem sealed_len (l : List UInt8) : (sealed l).length = l.length + 4 := by simp [sealed, le4]
theorem put_len_le {n : Nat} (h : n ≤ 1000000000) : (put n).length ≤ 10 := put_len10 (by unfold lim64; omega)
theorem framed_len {l : List UInt8} (h : l.length ≤ 1000000000) : (framed l).length ≤ l.length + 14 := by
  have := put_len_le h
  unfold framed
  rw [List.length_append, sealed_len]; omega
/-- Two slices in a fresh array read as two parts. -/
theorem rd_two {B : Nat} {w : World} {t : TypeId} {v0 v1 : Value} {l0 l1 : List UInt8} (h0 : Rd B w v0 l0) (h1 : Rd B w v1 l1) (hB : B ≤ w.heap.size) :
    RdAll (w.heap.size + 1) (w.alloc (.cells #[v0, v1] t)) (some ⟨w.heap.size, 0, none⟩) [l0, l1] := by
  intro _
  have hb : Below w.heap.size w (w.alloc (.cells #[v0, v1] t)) := (Below.refl _ _).alloc (Nat.le_refl _) _
  refine ⟨w.heap.size, 0, rfl, by omega, fun i hi => ?_⟩
  have hi2 : i < 2 := by simpa using hi
  match i, hi2 with
  | 0, _ =>
    refine ⟨v0, ?_, (h0.below hb hB).mono (by omega)⟩
    rw [cell_of_row _ _ _ #[v0, v1] t (0, 0) (heap_alloc_new w _)]; rfl
  | 1, _ =>
    refine ⟨v1, ?_, (h1.below hb hB).mono (by omega)⟩
    rw [cell_of_row _ _ _ #[v0, v1] t (0, 0) (heap_alloc_new w _)]; rfl

set_option maxRecDepth 100000 in
theorem fput_long {B : Nat} {w : World} {vb : Value} {l : List UInt8} (hr : Rd B w vb l) (hl : 65536 < l.length) :
    Calls Tryd.prog 9 #[vb] w fun e w' => e = .returned (.tuple #[.slice none 0 0, .iface 51 (.int .i64 15)]) ∧ w = w' := by
  obtain ⟨ov, cv, rfl, hmx, _⟩ := hr.form
  have hi : (65536 : Int) < l.length := by omega
  go_enter Tryd.func9, Tryd.ntmps9
  go_wp2_with fail
  go_ret2
  exact ⟨rfl, rfl⟩

def PutPost (w : World) (l : List UInt8) (e : Ending) (w' : World) : Prop :=
  ∃ v, e = .returned (.tuple #[v, .nilIface]) ∧ w'.ownsRow w.heap.size 5 1 v (framed l).length (bvs (framed l)) ∧ Below w.heap.size w w'
set_option maxRecDepth 100000 in
set_option maxHeartbeats 1000000 in
theorem fput_any {B : Nat} {w : World} {vb : Value} {l : List UInt8} (hr : Rd B w vb l) (hB : B ≤ w.heap.size) (hl : l.length ≤ 65536) :
    Calls Tryd.prog 9 #[vb] w (PutPost w l) := by
  have HSL := Lib.hid (sealed_len l)
  have hp := put_len_le (n := l.length) (by omega)
  have HP := Lib.hid (wput l.length (by unfold lim64; omega))
  have HS := Lib.hid (fun (w' : World) (h : Below w.heap.size w w') => cseal_any (hr.below h hB) (Nat.le_trans hB h.size) (by omega))
  obtain ⟨ov, cv, rfl, hmx, _⟩ := hr.form
  have hi : ¬ (65536 : Int) < l.length := by omega
  clear hr
  go_enter Tryd.func9, Tryd.ntmps9
  go_wp2_with fail
  refine (HP.out _).mono ?_
  rintro e w1 ⟨v1, rfl, o1, b1⟩
  have HB1 := Lib.hid b1
  have hr1 := Rd.of_own o1
  obtain ⟨ov1, cv1, rfl, hm1, _⟩ := hr1.form
  have HR1 := Lib.hid hr1
  clear o1 b1 hr1
  go_wp2_with fail
  refine (HS.out _ HB1.out).mono ?_
  rintro e w2 ⟨v2, rfl, o2, b2⟩
  have hr2 := Rd.of_own o2
  obtain ⟨ov2, cv2, rfl, hm2, _⟩ := hr2.form
  have hra := rd_two (t := 22) (HR1.out.below b2 (Nat.le_refl _) |>.mono b2.size) hr2 (Nat.le_refl _)
  have HJ := Lib.hid (show Calls Tryd.prog 23 #[.slice (some ⟨w2.heap.size, 0, none⟩) 2 2] (w2.alloc (.cells #[.slice ov1 (put l.length).length cv1, .slice ov2 (sealed l).length cv2] 22)) (Owned _ [put l.length, sealed l].flatten) from join_any (cap := 2) hra (by simp) (by simp) (by have := HSL.out; simp [total]; omega))
  have HB2 := Lib.hid (HB1.out.trans (b2.mono HB1.out.size))
  clear o2 b2 hra hr2 HR1 HP HS
  go_wp2_with fail
  refine HJ.out.mono ?_
  rintro e w3 ⟨v3, rfl, o3, b3⟩
  have hfl : [put l.length, sealed l].flatten = framed l := by simp [framed]
  rw [hfl] at o3
  have hb0 : Below w.heap.size w (w2.alloc (.cells #[.slice ov1 (put l.length).length cv1, .slice ov2 (sealed l).length cv2] 22)) := HB2.out.alloc HB2.out.size _
  have HF := Lib.hid (And.intro (own_le o3 hb0.size) (hb0.trans (b3.mono hb0.size)))
  clear o3 b3 hb0 HJ
  go_wp2_with fail
  go_ret2
  exact ⟨_, rfl, HF.out.1, HF.out.2⟩

set_option maxRecDepth 100000 in
theorem fsize_any (n : Nat) (hn : n ≤ 1000000) (w : World) : Calls Tryd.prog 13 #[.int .i64 n] w fun e w' => e = .returned (.int .i64 ((put n).length + n + 4 : Nat)) ∧ Below w.heap.size w w' := by
  have hp := put_len_le (n := n) (by omega)
  have HP := Lib.hid (wput n (by unfold lim64; omega))
  have hn1 : (n : Int) ≤ 1000000 := by omega
  have hn0 : (0 : Int) ≤ n := by omega
  go_enter Tryd.func13, Tryd.ntmps13
  go_wp2_with fail
  refine (HP.out _).mono ?_
  rintro e w1 ⟨v1, rfl, o1, b1⟩
  obtain ⟨ov, cv, rfl, hmx, _⟩ := (Rd.of_own o1).form
  have HB := Lib.hid b1
  clear o1 b1
  go_wp2_with fail
  go_ret
  exact ⟨by simp, HB.out⟩

set_option maxRecDepth 100000 in
set_option maxHeartbeats 1000000 in
theorem rfput_any {B : Nat} {w : World} {vb : Value} {l : List UInt8} (hr : Rd B w vb l) (hB : B ≤ w.heap.size) (hl : l.length ≤ 1000000) :
    Calls Tryd.prog 12 #[vb] w (Owned w (framed l)) := by
  have hs := sealed_len l
  have hp := put_len_le (n := l.length) (by omega)
  have HP := Lib.hid (rput l.length (by unfold lim64; omega))
  have HS := Lib.hid (fun (w' : World) (h : Below w.heap.size w w') => rseal_any (hr.below h hB) (Nat.le_trans hB h.size) (by omega))
  obtain ⟨ov, cv, rfl, hmx, _⟩ := hr.form
  clear hr
  go_enter Tryd.func12, Tryd.ntmps12
  go_wp2_with fail
  refine (HP.out _).mono ?_
  rintro e w1 ⟨v1, rfl, o1, b1⟩
  have HB1 := Lib.hid b1
  have HO1 := Lib.hid o1
  clear o1 b1
  go_wp2_with fail
  refine (HS.out _ HB1.out).mono ?_
  rintro e w2 ⟨v2, rfl, o2, b2⟩
  have HB2 := Lib.hid (HB1.out.trans (b2.mono HB1.out.size))
  have HR2 := Lib.hid (Rd.of_own o2)
  have HO2 := Lib.hid (own_below HO1.out b2)
  clear o2 b2 HO1 HP HS
  go_wp2_with (at_builtin; refine app_bytes rfl _ _ rfl rfl HO2.out rfl HR2.out (by rw [hs]; omega) HB2.out.size ?_)
  intro v3 w3 o3 g3
  have hb3 : Below w.heap.size w w3 := HB2.out.grown g3 HB2.out.size (fun k hk => HO2.out.lt k hk |>.1)
  have HF := Lib.hid (And.intro o3 hb3)
  clear o3 g3 hb3
  have HL : Hid ((framed l).length = (put l.length).length + (l.length + 4)) := by show _ = _; unfold framed; rw [List.length_append, hs]
  go_wp2_with fail
  go_ret
  exact ⟨_, rfl, by rw [HL.out]; exact HF.out.1, HF.out.2⟩
end Go.Proofs.YtikokimnhanloaaDoor
