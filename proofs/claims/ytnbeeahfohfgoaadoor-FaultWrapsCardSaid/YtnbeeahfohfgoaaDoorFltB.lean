/-
  The methods Error of api.Code, api.Fault and fault.within.
-/
import Derived.Test.YtnbeeahfohfgoaaDoorFltA
import Derived.Deep.RegionWith
namespace Go.Proofs.YtnbeeahfohfgoaaDoor
open Go.ChangeShapes Go.WideShapes Go.ChangeAt Go.RowKit
set_option linter.unusedVariables false

def codeV (c : Int) : Value := .iface 30 (.int .i64 c)
def faultV (c n : Int) : Value := .iface 47 (.agg #[.int .i64 c, .int .i64 n])
/-- The error of a description: the parts, the outermost first. -/
def errW (f : Bool) (c n : Int) : List ByteArray → Value
  | [] => if f = true then faultV c n else codeV c
  | p :: ps => .iface 52 (.agg #[.string p, errW f c n ps])
def wordE : ByteArray := ⟨#[101, 114, 114, 111, 114, 32]⟩
def colon : ByteArray := ⟨#[58, 32]⟩
def textW (c : Int) : List ByteArray → ByteArray
  | [] => wordE ++ dec c
  | p :: ps => p ++ colon ++ textW c ps
/-- What the calls read of package strconv. -/
def TabT (w : World) : Prop := Lib.TabIs Tryd.prog w "internal/strconv.uint64pow10" .u64 Lib.pow10Tab

theorem below_dr {B : Nat} {w w' : World} (h : Below B w w') (n : Nat) : Below B w (w'.drewN n) := ⟨h.os, h.tape, h.output, h.size, h.block⟩
theorem below_grow (w : World) (k : Nat) (os : Array Obj) : Below w.heap.size w (Go.Sort.grow (w.drewN k) os) :=
  ⟨rfl, rfl, rfl, by show _ ≤ (w.heap ++ os).size; rw [Array.size_append]; omega, fun j hj => Array.getElem?_append_left hj⟩
theorem named_tab : Tryd.prog.globalNamed "internal/strconv.uint64pow10" = some 2 := by kernel_rfl
theorem TabT.below {w w' : World} (h : TabT w) (hb : Below w.heap.size w w') : TabT w' := by
  unfold TabT Lib.TabIs World.var? at h ⊢
  rw [named_tab] at h ⊢
  simp only [Option.bind_some] at h ⊢
  have hl : 2 < w.heap.size := by
    rcases Nat.lt_or_ge 2 w.heap.size with h' | h'
    · exact h'
    · rw [Array.getElem?_eq_none h'] at h; cases h
  rw [hb.block _ hl]; exact h

set_option maxRecDepth 100000 in
set_option maxHeartbeats 1000000 in
theorem code_error (c : Int) (h0 : -9223372036854775808 ≤ c) (h1 : c ≤ 9223372036854775807) (w : World) (ht : TabT w) : Calls Tryd.prog 64 #[.int .i64 c] w fun e w' => e = .returned (.string (textW c [])) ∧ Below w.heap.size w w' := by
  have H := Lib.hid (Tryd.strconv_Itoa c h0 h1)
  have HT := Lib.hid ht
  have z := cat_ok (a := 6) (by omega) (dec_size h0 h1)
  clear h0 h1 ht
  go_enter Tryd.func64, Tryd.ntmps64
  go_wp2_with fail
  refine (H.out _ HT.out).mono ?_
  rintro e w1 ⟨rfl, k, os, rfl⟩
  rw [show (⟨(Lib.itoa c).toArray⟩ : ByteArray) = dec c from rfl]
  go_wp2_with fail
  go_ret
  exact ⟨rfl, below_grow w k os⟩

set_option maxRecDepth 100000 in
theorem fault_error (c n : Int) (h0 : -9223372036854775808 ≤ c) (h1 : c ≤ 9223372036854775807) (w : World) (ht : TabT w) : Calls Tryd.prog 65 #[.agg #[.int .i64 c, .int .i64 n]] w fun e w' => e = .returned (.string (textW c [])) ∧ Below w.heap.size w w' := by
  have H := Lib.hid (code_error c h0 h1)
  have hb : Below w.heap.size w (w.alloc (.cells #[.int .i64 c, .int .i64 n] 47)) := (Below.refl w.heap.size w).alloc (Nat.le_refl _) _
  have HT := Lib.hid (ht.below hb)
  have HB := Lib.hid hb
  clear h0 h1 ht hb
  go_enter Tryd.func65, Tryd.ntmps65
  go_wp2_with fail
  refine (H.out _ HT.out).mono ?_
  rintro e w1 ⟨rfl, b1⟩
  have HB1 := Lib.hid (HB.out.trans (b1.mono HB.out.size))
  clear b1
  go_wp2_with fail
  go_ret
  exact ⟨rfl, HB1.out⟩

theorem method_C (v : Value) (w : World) : (Go.method 235 30 v "Error").run Tryd.prog w = .ok (64, v) w := by kernel_rfl
theorem method_F (v : Value) (w : World) : (Go.method 235 47 v "Error").run Tryd.prog w = .ok (65, v) w := by kernel_rfl
theorem method_W (v : Value) (w : World) : (Go.method 235 52 v "Error").run Tryd.prog w = .ok (67, v) w := by kernel_rfl
theorem keep {w0 w' : World} {n : Nat} {v : Value} (c : w0.cell? ⟨n, 0, none⟩ = some v) (b : Below w0.drew.heap.size w0.drew w') (hz : n < w0.heap.size) : w'.cell? ⟨n, 0, none⟩ = some v := (b.cell (by exact hz)).trans c
theorem keepB {w w0 w' : World} (h : Below w.heap.size w w0) (b : Below w0.drew.heap.size w0.drew w') : Below w.heap.size w w' := (below_dr h 1).trans (b.mono h.size)
theorem text_size (c : Int) (h0 : -9223372036854775808 ≤ c) (h1 : c ≤ 9223372036854775807) : ∀ (ps : List ByteArray), (∀ p ∈ ps, p.size ≤ 1000) → (textW c ps).size ≤ 26 + 1002 * ps.length
  | [], _ => by
    have := dec_size h0 h1
    show (wordE ++ dec c).size ≤ _
    rw [ByteArray.size_append]
    have : wordE.size = 6 := rfl
    simp; omega
  | p :: ps, h => by
    have := text_size c h0 h1 ps (fun q hq => h q (List.mem_cons_of_mem _ hq))
    have hp := h p (List.mem_cons_self ..)
    show (p ++ colon ++ textW c ps).size ≤ _
    rw [ByteArray.size_append, ByteArray.size_append]
    have : colon.size = 2 := rfl
    rw [List.length_cons]; omega

def lim9 : Nat := 9000000
theorem fit {a l : Nat} (h : a ≤ 26 + 1002 * l) (hl : l ≤ 1000) : a ≤ lim9 := Nat.le_trans h (Nat.le_trans (Nat.add_le_add_left (Nat.mul_le_mul_left 1002 hl) 26) (by decide))
set_option maxRecDepth 100000 in
set_option maxHeartbeats 1000000 in
theorem step_F (rv : Value) (tx p : ByteArray) (w : World)
    (h : ∀ w, TabT w → Calls Tryd.prog 65 #[rv] w fun e w' => e = .returned (.string tx) ∧ Below w.heap.size w w') (hp : p.size ≤ 1000) (htx : tx.size ≤ lim9) (ht : TabT w) :
    Calls Tryd.prog 67 #[.agg #[.string p, .iface 47 rv]] w fun e w' => e = .returned (.string (p ++ colon ++ tx)) ∧ Below w.heap.size w w' := by
  have z1 : ¬ 9223372036854775807 < p.size + 2 := by omega
  have z2 : ¬ 9223372036854775807 < p.size + 2 + tx.size := by unfold lim9 at htx; omega
  have H := Lib.hid h
  have M := method_F rv
  have hb : Below w.heap.size w (w.alloc (.cells #[.string p, .iface 47 rv] 52)) := (Below.refl w.heap.size w).alloc (Nat.le_refl _) _
  obtain ⟨w0, hw0⟩ : ∃ w0, w0 = w.alloc (.cells #[.string p, .iface 47 rv] 52) := ⟨_, rfl⟩
  have k0 : w0.heap[w.heap.size]? = some (.cells #[.string p, .iface 47 rv] 52 (0, 0)) := by rw [hw0]; exact heap_alloc_new w _
  have hz : w.heap.size < w0.heap.size := by rw [hw0]; simp
  rw [← hw0] at hb
  have HT1 : Hid (TabT w0.drew) := ht.below (below_dr hb 1)
  have HB := Lib.hid hb
  have HW := Lib.hid hw0
  have HZ := Lib.hid hz
  have c0 : w0.cell? ⟨w.heap.size, 0, none⟩ = some (.string p) := cell_of_row _ _ 0 _ _ _ k0
  have c1 : w0.cell? ⟨w.heap.size, 1, none⟩ = some (.iface 47 rv) := cell_of_row _ _ 1 _ _ _ k0
  have C0 := Lib.hid c0
  clear h htx ht hp hb hw0 k0 hz
  go_enter Tryd.func67, Tryd.ntmps67
  go_wp2_with fail
  rw [← HW.out]
  go_region_with (refine (H.out _ HT1.out).mono ?_; rintro e w' ⟨rfl, b'⟩; have k0 := keep C0.out b' HZ.out; have HB' := Lib.hid (keepB HB.out b'); clear b')
  all_goals go_wp2_with fail
  all_goals go_ret
  all_goals exact ⟨rfl, HB'.out⟩

set_option maxRecDepth 100000 in
set_option maxHeartbeats 1000000 in
theorem step_C (rv : Value) (tx p : ByteArray) (w : World)
    (h : ∀ w, TabT w → Calls Tryd.prog 64 #[rv] w fun e w' => e = .returned (.string tx) ∧ Below w.heap.size w w') (hp : p.size ≤ 1000) (htx : tx.size ≤ lim9) (ht : TabT w) :
    Calls Tryd.prog 67 #[.agg #[.string p, .iface 30 rv]] w fun e w' => e = .returned (.string (p ++ colon ++ tx)) ∧ Below w.heap.size w w' := by
  have z1 : ¬ 9223372036854775807 < p.size + 2 := by omega
  have z2 : ¬ 9223372036854775807 < p.size + 2 + tx.size := by unfold lim9 at htx; omega
  have H := Lib.hid h
  have M := method_C rv
  have hb : Below w.heap.size w (w.alloc (.cells #[.string p, .iface 30 rv] 52)) := (Below.refl w.heap.size w).alloc (Nat.le_refl _) _
  obtain ⟨w0, hw0⟩ : ∃ w0, w0 = w.alloc (.cells #[.string p, .iface 30 rv] 52) := ⟨_, rfl⟩
  have k0 : w0.heap[w.heap.size]? = some (.cells #[.string p, .iface 30 rv] 52 (0, 0)) := by rw [hw0]; exact heap_alloc_new w _
  have hz : w.heap.size < w0.heap.size := by rw [hw0]; simp
  rw [← hw0] at hb
  have HT1 : Hid (TabT w0.drew) := ht.below (below_dr hb 1)
  have HB := Lib.hid hb
  have HW := Lib.hid hw0
  have HZ := Lib.hid hz
  have c0 : w0.cell? ⟨w.heap.size, 0, none⟩ = some (.string p) := cell_of_row _ _ 0 _ _ _ k0
  have c1 : w0.cell? ⟨w.heap.size, 1, none⟩ = some (.iface 30 rv) := cell_of_row _ _ 1 _ _ _ k0
  have C0 := Lib.hid c0
  clear h htx ht hp hb hw0 k0 hz
  go_enter Tryd.func67, Tryd.ntmps67
  go_wp2_with fail
  rw [← HW.out]
  go_region_with (refine (H.out _ HT1.out).mono ?_; rintro e w' ⟨rfl, b'⟩; have k0 := keep C0.out b' HZ.out; have HB' := Lib.hid (keepB HB.out b'); clear b')
  all_goals go_wp2_with fail
  all_goals go_ret
  all_goals exact ⟨rfl, HB'.out⟩

set_option maxRecDepth 100000 in
set_option maxHeartbeats 1000000 in
theorem step_W (rv : Value) (tx p : ByteArray) (w : World)
    (h : ∀ w, TabT w → Calls Tryd.prog 67 #[rv] w fun e w' => e = .returned (.string tx) ∧ Below w.heap.size w w') (hp : p.size ≤ 1000) (htx : tx.size ≤ lim9) (ht : TabT w) :
    Calls Tryd.prog 67 #[.agg #[.string p, .iface 52 rv]] w fun e w' => e = .returned (.string (p ++ colon ++ tx)) ∧ Below w.heap.size w w' := by
  have z1 : ¬ 9223372036854775807 < p.size + 2 := by omega
  have z2 : ¬ 9223372036854775807 < p.size + 2 + tx.size := by unfold lim9 at htx; omega
  have H := Lib.hid h
  have M := method_W rv
  have hb : Below w.heap.size w (w.alloc (.cells #[.string p, .iface 52 rv] 52)) := (Below.refl w.heap.size w).alloc (Nat.le_refl _) _
  obtain ⟨w0, hw0⟩ : ∃ w0, w0 = w.alloc (.cells #[.string p, .iface 52 rv] 52) := ⟨_, rfl⟩
  have k0 : w0.heap[w.heap.size]? = some (.cells #[.string p, .iface 52 rv] 52 (0, 0)) := by rw [hw0]; exact heap_alloc_new w _
  have hz : w.heap.size < w0.heap.size := by rw [hw0]; simp
  rw [← hw0] at hb
  have HT1 : Hid (TabT w0.drew) := ht.below (below_dr hb 1)
  have HB := Lib.hid hb
  have HW := Lib.hid hw0
  have HZ := Lib.hid hz
  have c0 : w0.cell? ⟨w.heap.size, 0, none⟩ = some (.string p) := cell_of_row _ _ 0 _ _ _ k0
  have c1 : w0.cell? ⟨w.heap.size, 1, none⟩ = some (.iface 52 rv) := cell_of_row _ _ 1 _ _ _ k0
  have C0 := Lib.hid c0
  clear h htx ht hp hb hw0 k0 hz
  go_enter Tryd.func67, Tryd.ntmps67
  go_wp2_with fail
  rw [← HW.out]
  go_region_with (refine (H.out _ HT1.out).mono ?_; rintro e w' ⟨rfl, b'⟩; have k0 := keep C0.out b' HZ.out; have HB' := Lib.hid (keepB HB.out b'); clear b')
  all_goals go_wp2_with fail
  all_goals go_ret
  all_goals exact ⟨rfl, HB'.out⟩

theorem within_error (f : Bool) (c n : Int) (h0 : -9223372036854775808 ≤ c) (h1 : c ≤ 9223372036854775807) : ∀ (ps : List ByteArray) (p : ByteArray), (∀ q ∈ p :: ps, q.size ≤ 1000) → ps.length ≤ 1000 → ∀ w : World, TabT w →
    Calls Tryd.prog 67 #[.agg #[.string p, errW f c n ps]] w fun e w' => e = .returned (.string (textW c (p :: ps))) ∧ Below w.heap.size w w'
  | [], p, hq, hl, w, ht => by
    have hp := hq p (List.mem_cons_self ..)
    have hd := text_size c h0 h1 [] (fun _ h => by cases h)
    cases f with
    | true => exact step_F (.agg #[.int .i64 c, .int .i64 n]) (textW c []) p w (fault_error c n h0 h1) hp (fit hd (Nat.zero_le _)) ht
    | false => exact step_C (.int .i64 c) (textW c []) p w (code_error c h0 h1) hp (fit hd (Nat.zero_le _)) ht
  | q :: ps, p, hq, hl, w, ht => by
    have hp := hq p (List.mem_cons_self ..)
    have hd := text_size c h0 h1 (q :: ps) (fun r hr => hq r (List.mem_cons_of_mem _ hr))
    exact step_W (.agg #[.string q, errW f c n ps]) (textW c (q :: ps)) p w
      (within_error f c n h0 h1 ps q (fun r hr => hq r (List.mem_cons_of_mem _ hr)) (by rw [List.length_cons] at hl; omega)) hp (fit hd hl) ht
end Go.Proofs.YtnbeeahfohfgoaaDoor
