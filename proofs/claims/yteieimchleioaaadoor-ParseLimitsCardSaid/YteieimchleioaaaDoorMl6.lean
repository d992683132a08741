/-
  parse's read: the tokens, the rule, what it throws.
-/
import Derived.Test.YteieimchleioaaaDoorMl5
import Derived.Defers
import Derived.Recover
import Derived.Laws.Pointers
import Derived.Test.YteieimchleioaaaDoorMl1
import Derived.Deep.CutBlock
import Derived.Test.YteieimchleioaaaDoorMl0
import Derived.RegionTactic
import Derived.BigRegion
namespace Go.Proofs.YteieimchleioaaaDoor
open Go.ChangeShapes Go.WideShapes Go.ChangeAt Go.RowKit
set_option linter.unusedVariables false

theorem consT_mem {t x : Tok} {r : Toks} (h : x ∈ (consT t r).1) : x = t ∨ x ∈ r.1 := by
 unfold consT at h
 split at h
 ·exact List.mem_cons.1 h
 ·cases h
theorem consT_len (t : Tok) (r : Toks) : (consT t r).1.length ≤ r.1.length + 1 := by
 unfold consT
 split
 ·simp
 ·simp
/-- Offsets are not negative, and tokens are not more than bytes and one. -/
theorem tokF_offs : ∀ (n i : Nat) (l : List UInt8), (∀ t ∈ (tokF n i l).1, (0 : Int) ≤ t.2.2) ∧ (tokF n i l).1.length ≤ l.length + 1
 | 0, i, l => ⟨fun t h => (by simp [tokF] at h), by simp [tokF]⟩
 | n + 1, i, [] => ⟨fun t h => (by simp [tokF] at h; subst h; show (0 : Int) ≤ (i : Int); omega), by simp [tokF]⟩
 | n + 1, i, c :: r => by
  unfold tokF
  have hz : ∀ (k : Nat) (b : List UInt8), (0 : Int) ≤ (mkT k b i).2.2 := fun k b => by show (0 : Int) ≤ (i : Int); omega
  split
  ·rename_i hw
   have h1 := wd_len c r hw
   split
   ·have ih := tokF_offs n (i + ((c :: r).takeWhile wdB).length) ((c :: r).drop ((c :: r).takeWhile wdB).length)
    refine ⟨fun t h => ?_, ?_⟩
    ·rcases consT_mem h with rfl | h
     ·exact hz _ _
     ·exact ih.1 t h
    ·have h2 := ih.2
     have h3 := consT_len (mkT 1 ((c :: r).takeWhile wdB) i) (tokF n (i + ((c :: r).takeWhile wdB).length) ((c :: r).drop ((c :: r).takeWhile wdB).length))
     rw [List.length_drop] at h2
     rw [List.length_cons] at h2 ⊢
     omega
   ·exact ⟨fun t h => (by cases h), by simp⟩
  ·split
   ·have ih := tokF_offs n (i + 1) r
    exact ⟨ih.1, by rw [List.length_cons]; omega⟩
   ·split
    ·have ih := tokF_offs n (i + ((c :: r).takeWhile lnB).length) ((c :: r).drop ((c :: r).takeWhile lnB).length)
     exact ⟨ih.1, Nat.le_trans ih.2 (by rw [List.length_drop]; omega)⟩
    ·split
     ·have ih := tokF_offs n (i + 2) (r.drop 1)
      refine ⟨fun t h => ?_, ?_⟩
      ·rcases consT_mem h with rfl | h
       ·exact hz _ _
       ·exact ih.1 t h
      ·have h2 := ih.2
       have h3 := consT_len (mkT 2 [45, 62] i) (tokF n (i + 2) (r.drop 1))
       rw [List.length_drop] at h2
       rw [List.length_cons]
       omega
     ·split
      ·have ih := tokF_offs n (i + 1) r
       refine ⟨fun t h => ?_, ?_⟩
       ·rcases consT_mem h with rfl | h
        ·exact hz _ _
        ·exact ih.1 t h
       ·have h2 := ih.2
        have h3 := consT_len (mkT 2 [c] i) (tokF n (i + 1) r)
        rw [List.length_cons]
        omega
      ·exact ⟨fun t h => (by cases h), by simp⟩
theorem tokS_offs (l : List UInt8) (i : Nat) : offs (tokS l).1 i = (offT (tokS l).1 i : Nat) := by
 have h : (0 : Int) ≤ offs (tokS l).1 i := by
  unfold offs
  rw [List.getD_eq_getElem?_getD]
  cases h : (tokS l).1[i]? with
  | none => exact Int.le_refl _
  | some t => exact (tokF_offs _ 0 l).1 t (List.mem_of_getElem? h)
 unfold offT
 show offs (tokS l).1 i = ((offs (tokS l).1 i).toNat : Int)
 omega
theorem tokS_len (l : List UInt8) : (tokS l).1.length ≤ l.length + 1 := (tokF_offs _ 0 l).2
theorem assertF_yes (v : Value) (w : World) : (Instr.typeAssert (.iface 98 v) 20 98 true).run Tryd.prog w = .ok (.tuple #[v, .bool true]) w := by kernel_rfl
theorem assertF_nil (w : World) : (Instr.typeAssert .nilIface 20 98 true).run Tryd.prog w = .ok (.tuple #[.agg #[.int .i64 0, .int .i64 0], .bool false]) w := by kernel_rfl
set_option maxRecDepth 100000 in
set_option maxHeartbeats 2000000 in
theorem catchE (p : Addr) (x : Value) (k : Nat) (n : Int) (older : List PanicEntry) (w : World) (hc : w.cell? p = some x) (hz : w.frozen? p = false) :
  CallsD Tryd.prog 39 #[.pointer (some p)] (.panicking ({ v := flt k n, recovered := false } :: older)) w fun e u' w' =>
   e = .returned (.tuple #[]) ∧ u' = .panicking ({ v := flt k n, recovered := true } :: older) ∧ w' = (w.alloc (.cells #[.int .i64 (k : Nat), .int .i64 n] 98)).setCell p (flt k n) := by
 unfold flt
 have hp : p.block < w.heap.size := World.block_lt_of_cell? w p hc
 have hc' : (w.alloc (.cells #[.int .i64 (k : Nat), .int .i64 n] 98)).cell? p = some x := (World.cell?_alloc_lt _ _ _ hp).trans hc
 have hz' : (w.alloc (.cells #[.int .i64 (k : Nat), .int .i64 n] 98)).frozen? p = false := by
  rw [World.frozen?_of_block (Below.heap_alloc w _ p.block hp)]; exact hz
 refine callsD_of_wpS Tryd.func39 rfl fun c₀ cs hu => ?_
 apply wpS_seq
 apply wpS_region
 simp [wpOpsS, go_sem, recoverD, hu, Tryd.ntmps39, Exit.thenS, assertF_yes]
 apply wpS_seq
 apply wpS_region
 simp [wpOpsS, go_sem, Exit.thenS]
 refine wpS_cond (t := true) (by simp [Act.eval, Array.replicate]) ?_
 simp only [if_true]
 apply wpS_region
 simp [wpOpsS, go_sem, hc', hz', bodyPostS, results, Tryd.results39]
theorem idleE (p : Addr) (w : World) :
  CallsD Tryd.prog 39 #[.pointer (some p)] .returning w fun e u' w' => e = .returned (.tuple #[]) ∧ u' = .returning ∧ Below w.heap.size w w' := by
 have hb : Below w.heap.size w (w.alloc (.cells #[.int .i64 0, .int .i64 0] 98)) := (Below.refl _ _).alloc (Nat.le_refl _) _
 refine callsD_of_wpS Tryd.func39 rfl fun c₀ cs hu => ?_
 apply wpS_seq
 apply wpS_region
 simp [wpOpsS, go_sem, recoverD, hu, Tryd.ntmps39, Exit.thenS, assertF_nil]
 apply wpS_seq
 apply wpS_region
 simp [wpOpsS, go_sem, Exit.thenS]
 refine wpS_cond (t := false) (by simp [Act.eval, Array.replicate]) ?_
 simp only [Bool.false_eq_true, if_false]
 refine wpS_of_wp (wp_skip ?_)
 cases c₀
 simp_all [bodyPostS, results, Tryd.results39]
set_option maxRecDepth 100000 in
set_option maxHeartbeats 2000000 in
theorem catchA (p : Addr) (x : Value) (k : Nat) (n : Int) (older : List PanicEntry) (w : World) (hc : w.cell? p = some x) (hz : w.frozen? p = false) :
  CallsD Tryd.prog 50 #[.pointer (some p)] (.panicking ({ v := flt k n, recovered := false } :: older)) w fun e u' w' =>
   e = .returned (.tuple #[]) ∧ u' = .panicking ({ v := flt k n, recovered := true } :: older) ∧ w' = (w.alloc (.cells #[.int .i64 (k : Nat), .int .i64 n] 98)).setCell p (flt k n) := by
 unfold flt
 have hp : p.block < w.heap.size := World.block_lt_of_cell? w p hc
 have hc' : (w.alloc (.cells #[.int .i64 (k : Nat), .int .i64 n] 98)).cell? p = some x := (World.cell?_alloc_lt _ _ _ hp).trans hc
 have hz' : (w.alloc (.cells #[.int .i64 (k : Nat), .int .i64 n] 98)).frozen? p = false := by
  rw [World.frozen?_of_block (Below.heap_alloc w _ p.block hp)]; exact hz
 refine callsD_of_wpS Tryd.func50 rfl fun c₀ cs hu => ?_
 apply wpS_seq
 apply wpS_region
 simp [wpOpsS, go_sem, recoverD, hu, Tryd.ntmps50, Exit.thenS, assertF_yes]
 apply wpS_seq
 apply wpS_region
 simp [wpOpsS, go_sem, Exit.thenS]
 refine wpS_cond (t := true) (by simp [Act.eval, Array.replicate]) ?_
 simp only [if_true]
 apply wpS_region
 simp [wpOpsS, go_sem, hc', hz', bodyPostS, results, Tryd.results50]
theorem idleA (p : Addr) (w : World) :
  CallsD Tryd.prog 50 #[.pointer (some p)] .returning w fun e u' w' => e = .returned (.tuple #[]) ∧ u' = .returning ∧ Below w.heap.size w w' := by
 have hb : Below w.heap.size w (w.alloc (.cells #[.int .i64 0, .int .i64 0] 98)) := (Below.refl _ _).alloc (Nat.le_refl _) _
 refine callsD_of_wpS Tryd.func50 rfl fun c₀ cs hu => ?_
 apply wpS_seq
 apply wpS_region
 simp [wpOpsS, go_sem, recoverD, hu, Tryd.ntmps50, Exit.thenS, assertF_nil]
 apply wpS_seq
 apply wpS_region
 simp [wpOpsS, go_sem, Exit.thenS]
 refine wpS_cond (t := false) (by simp [Act.eval, Array.replicate]) ?_
 simp only [Bool.false_eq_true, if_false]
 refine wpS_of_wp (wp_skip ?_)
 cases c₀
 simp_all [bodyPostS, results, Tryd.results50]
set_option maxRecDepth 100000 in
set_option maxHeartbeats 2000000 in
theorem catchS (p : Addr) (x : Value) (k : Nat) (n : Int) (older : List PanicEntry) (w : World) (hc : w.cell? p = some x) (hz : w.frozen? p = false) :
  CallsD Tryd.prog 54 #[.pointer (some p)] (.panicking ({ v := flt k n, recovered := false } :: older)) w fun e u' w' =>
   e = .returned (.tuple #[]) ∧ u' = .panicking ({ v := flt k n, recovered := true } :: older) ∧ w' = (w.alloc (.cells #[.int .i64 (k : Nat), .int .i64 n] 98)).setCell p (flt k n) := by
 unfold flt
 have hp : p.block < w.heap.size := World.block_lt_of_cell? w p hc
 have hc' : (w.alloc (.cells #[.int .i64 (k : Nat), .int .i64 n] 98)).cell? p = some x := (World.cell?_alloc_lt _ _ _ hp).trans hc
 have hz' : (w.alloc (.cells #[.int .i64 (k : Nat), .int .i64 n] 98)).frozen? p = false := by
  rw [World.frozen?_of_block (Below.heap_alloc w _ p.block hp)]; exact hz
 refine callsD_of_wpS Tryd.func54 rfl fun c₀ cs hu => ?_
 apply wpS_seq
 apply wpS_region
 simp [wpOpsS, go_sem, recoverD, hu, Tryd.ntmps54, Exit.thenS, assertF_yes]
 apply wpS_seq
 apply wpS_region
 simp [wpOpsS, go_sem, Exit.thenS]
 refine wpS_cond (t := true) (by simp [Act.eval, Array.replicate]) ?_
 simp only [if_true]
 apply wpS_region
 simp [wpOpsS, go_sem, hc', hz', bodyPostS, results, Tryd.results54]
theorem idleS (p : Addr) (w : World) :
  CallsD Tryd.prog 54 #[.pointer (some p)] .returning w fun e u' w' => e = .returned (.tuple #[]) ∧ u' = .returning ∧ Below w.heap.size w w' := by
 have hb : Below w.heap.size w (w.alloc (.cells #[.int .i64 0, .int .i64 0] 98)) := (Below.refl _ _).alloc (Nat.le_refl _) _
 refine callsD_of_wpS Tryd.func54 rfl fun c₀ cs hu => ?_
 apply wpS_seq
 apply wpS_region
 simp [wpOpsS, go_sem, recoverD, hu, Tryd.ntmps54, Exit.thenS, assertF_nil]
 apply wpS_seq
 apply wpS_region
 simp [wpOpsS, go_sem, Exit.thenS]
 refine wpS_cond (t := false) (by simp [Act.eval, Array.replicate]) ?_
 simp only [Bool.false_eq_true, if_false]
 refine wpS_of_wp (wp_skip ?_)
 cases c₀
 simp_all [bodyPostS, results, Tryd.results54]
end Go.Proofs.YteieimchleioaaaDoor
/-
  parse's read: what any text is read as.
-/
namespace Go.Proofs.YteieimchleioaaaDoor
open Go.ChangeShapes Go.WideShapes Go.ChangeAt Go.RowKit
set_option linter.unusedVariables false

open errAs (ErrT)
/-- What read hands back. -/
def ReadPost {α : Type} (val : Nat → α → World → Value → Prop) (zero : Value) (w : World) (r : RR α) (e : Ending) (w' : World) : Prop :=
 Below w.heap.size w w' ∧ ((∃ x v, r = .ok x ∧ e = .returned (.tuple #[v, .nilIface]) ∧ val w.heap.size x w' v) ∨ (∃ c i, c ≠ 0 ∧ r = .bad c i ∧ e = .returned (.tuple #[zero, faultN c i])))
theorem readF_lex {α : Type} {rule : List Tok → PS → PR α} {l : List UInt8} (h : ¬ (tokS l).2.1 = 0) : readF rule l = .bad (tokS l).2.1 (tokS l).2.2 := if_neg h
theorem readF_ok {α : Type} {rule : List Tok → PS → PR α} {l : List UInt8} {x : α} {s : PS} (h : (tokS l).2.1 = 0) (hr : rule (tokS l).1 ps0 = .ok x s) (he : ((tokS l).1.getD s.i tok0).1 = 3) : readF rule l = .ok x := by
 unfold readF
 rw [if_pos h, hr]
 unfold endF
 rw [PR.then_ok, if_pos he]
 rfl
theorem readF_more {α : Type} {rule : List Tok → PS → PR α} {l : List UInt8} {x : α} {s : PS} (h : (tokS l).2.1 = 0) (hr : rule (tokS l).1 ps0 = .ok x s) (he : ¬ ((tokS l).1.getD s.i tok0).1 = 3) : readF rule l = .bad 6 (offT (tokS l).1 s.i) := by
 unfold readF
 rw [if_pos h, hr]
 unfold endF
 rw [PR.then_ok, if_neg he]
 rfl
theorem readF_bad {α : Type} {rule : List Tok → PS → PR α} {l : List UInt8} {k i : Nat} (h : (tokS l).2.1 = 0) (hr : rule (tokS l).1 ps0 = .bad k i) : readF rule l = .bad k (offT (tokS l).1 i) := by
 unfold readF
 rw [if_pos h, hr]
 rfl
theorem flt_fault (l : List UInt8) (k i : Nat) : flt k (offs (tokS l).1 i) = faultN k (offT (tokS l).1 i) := by
 unfold flt faultN
 rw [tokS_offs]
theorem okTs_pos {ts : List Tok} (h : OkTs ts) : 0 < ts.length := by
 obtain ⟨us, e, rfl, _⟩ := h
 simp
/-- The parser that read makes. -/
theorem pp_new {w : World} {base : Nat} {q : Option Addr} {c : Nat} {ts : List Tok} (ho : OkTs ts) (hl : ts.length ≤ 100000) (hr : TokRow base 104 w (.slice q ts.length c) ts) (hres : ResT w) :
  ∃ tb, q = some ⟨tb, 0, none⟩ ∧ PP (w.alloc (.cells #[.slice q ts.length c, .int .i64 0, .int .i64 0, .int .i64 0] 101)) w.heap.size tb c ts ps0 := by
 have hp := okTs_pos ho
 have h1 := hr.1
 rcases hr.2 with ⟨h, hn⟩ | ⟨g, cap, cur, hv, h0, hg, hcap, _, hcz, htk⟩
 ·omega
 ·simp only [Value.slice.injEq] at hv
  obtain ⟨rfl, _, rfl⟩ := hv
  have hgl := (Array.getElem?_eq_some_iff.1 hg).1
  refine ⟨g, rfl, Arr.new' _ _ _ _ rfl, hgl, fun i hi j hj => ?_, hl, ?_, ?_⟩
  ·rw [World.cell?_alloc_lt _ _ _ hgl, cell_of_row w g _ cur _ (0, 0) hg, ← Array.getElem?_toList]
   have h2 := tks_at ts i j hi hj
   rw [show (0, [], 0) = tok0 from rfl] at h2
   rw [← h2, ← htk, List.getElem?_take, if_pos (by omega), Nat.mul_comm]
  ·exact hres.below ((Below.refl _ _).alloc (Nat.le_refl _) _) hres.lt
  ·exact hres.lt
def VA (B : Nat) (l : List AlB) (w : World) (v : Value) : Prop := RdA (Bt B w.heap.size) w l v
theorem TokRow.box {base : Nat} {e : TypeId} {w : World} {v : Value} {ts : List Tok} (h : TokRow base e w v ts) {g : Nat} (hg : g < base) (i : Nat) (x : Value) : TokRow base e (w.setCell ⟨g, i, none⟩ x) v ts := by
 refine ⟨h.1, ?_⟩
 rcases h.2 with h | ⟨k, cap, cur, rfl, h0, h1, r⟩
 ·exact .inl h
 ·exact .inr ⟨k, cap, cur, rfl, h0, (Below.heap_setCell w ⟨g, i, none⟩ x k (fun e => by have e' : k = g := e; omega)).trans h1, r⟩
theorem VE.form {B : Nat} {mk : Int} {mv mn : List UInt8} {ms : List Ex} {w : World} {v : Value} (h : VE B (.mk mk mv mn ms) w v) : ∃ q4 c4, v = .agg #[.int .i64 mk, .string (bstr mv), .string (bstr mn), .slice q4 ms.length c4] := by
 obtain ⟨q, c, h, _⟩ := RdE.form h
 exact ⟨q, c, h⟩
theorem VA.kp {B g : Nat} {l : List AlB} {w w' : World} {v : Value} (h : VA B l w v) (hk : Kp g w w') (hg : g < B) : VA B l w' v := RdA.kp h hk hg
theorem VA.low {B B' : Nat} {l : List AlB} {w : World} {v : Value} (h : VA B l w v) (hb : B' ≤ B) : VA B' l w v := RdA.low h hb
theorem VA.later {B : Nat} {l : List AlB} {w w' : World} {v : Value} (h : VA B l w v) (hb : Below w.heap.size w w') : VA B l w' v := (RdA.keep (fun b hb' n => hb.cell (p := ⟨b, n, none⟩) hb'.2) h).imp fun b hb' => ⟨hb'.1, Nat.lt_of_lt_of_le hb'.2 hb.size⟩
theorem VS.later {B : Nat} {l : List DefB} {w w' : World} {v : Value} (h : VS B l w v) (hb : Below w.heap.size w w') : VS B l w' v := by
 obtain ⟨u, h1, h2⟩ := h
 exact ⟨u, h1, (h2.keep fun b hb' n => hb.cell (p := ⟨b, n, none⟩) hb'.2).imp fun b hb' => ⟨hb'.1, Nat.lt_of_lt_of_le hb'.2 hb.size⟩⟩
theorem below_box {w0 w : World} (h : Below w0.heap.size w0 w) {g : Nat} (hg : w0.heap.size ≤ g) (i : Nat) (v : Value) : Below w0.heap.size w0 (w.setCell ⟨g, i, none⟩ v) := h.setCell (p := ⟨g, i, none⟩) hg v
set_option maxRecDepth 100000 in
set_option maxHeartbeats 4000000 in
theorem readE_any (s : ByteArray) (hs : s.size ≤ 65536) (w : World) (hr : ResT w) (hcode : ∀ (ts : List Tok) k i, exprF ts ps0 = .bad k i → k ≠ 0) : Calls Tryd.prog 19 #[.string s, .func (.func 20) #[] #[]] w (ReadPost VE (.agg #[.int .i64 0, .string ⟨#[]⟩, .string ⟨#[]⟩, .slice none 0 0]) w (readF exprF s.data.toList)) := by
 have hmf : ∀ (fn : Fn) (first cap : Array Value) (w : World), (Instr.makeFunc fn first cap).run Tryd.prog w = .ok (.func fn first cap) w := fun _ _ _ _ => rfl
 have hB2 : Below w.heap.size w ((w.alloc (.cells #[.int .i64 0, .string ⟨#[]⟩, .string ⟨#[]⟩, .slice none 0 0] 25)).alloc (.cells #[.nilIface] 27)) := ((Below.refl _ _).alloc (Nat.le_refl _) _).alloc (by simp) _
 have HA2 : Hid (Arr ((w.alloc (.cells #[.int .i64 0, .string ⟨#[]⟩, .string ⟨#[]⟩, .slice none 0 0] 25)).alloc (.cells #[.nilIface] 27)) 25 w.heap.size [.int .i64 0, .string ⟨#[]⟩, .string ⟨#[]⟩, .slice none 0 0]) := (Arr.new' _ _ _ _ rfl).alloc _
 have HC2 : Hid (Arr ((w.alloc (.cells #[.int .i64 0, .string ⟨#[]⟩, .string ⟨#[]⟩, .slice none 0 0] 25)).alloc (.cells #[.nilIface] 27)) 27 (w.heap.size + 1) [.nilIface]) := Arr.new2 _ _ _ _ _ rfl
 have HR2 : Hid (ResT ((w.alloc (.cells #[.int .i64 0, .string ⟨#[]⟩, .string ⟨#[]⟩, .slice none 0 0] 25)).alloc (.cells #[.nilIface] 27))) := hr.below hB2 hr.lt
 have HGR : Hid (0 < w.heap.size) := hr.lt
 have HLX := Lib.hid (lex_any s hs _ HR2.out)
 have HB2 := Lib.hid hB2
 have HCD := Lib.hid hcode
 obtain ⟨l, hl⟩ : ∃ l, l = s.data.toList := ⟨_, rfl⟩
 have HLS : Hid (l.length ≤ 65536) := by show _ ≤ _; rw [hl, Array.length_toList]; exact hs
 rw [← hl] at HLX ⊢
 clear hr hB2 hcode hl hs
 go_enter_defers Tryd.func19, Tryd.ntmps19
 go_wp2_with fail
 refine HLX.out.mono ?_
 rintro r w3 ⟨v, rfl, r3, b3⟩
 obtain ⟨q, c, rfl, hc⟩ := r3.form
 have HR3 : Hid (TokRow (w.heap.size + 2) 104 w3 (.slice q (tokS l).1.length c) (tokS l).1) := by
  have h := r3
  rw [show ((w.alloc (.cells #[.int .i64 0, .string ⟨#[]⟩, .string ⟨#[]⟩, .slice none 0 0] 25)).alloc (.cells #[.nilIface] 27)).heap.size = w.heap.size + 2 from by simp] at h
  exact h
 have HB3 := Lib.hid (HB2.out.trans (b3.mono HB2.out.size))
 have HA3 := Lib.hid (HA2.out.later b3)
 have HC3 := Lib.hid (HC2.out.later b3)
 have HS3 : Hid (ResT w3) := HR2.out.below b3 HR2.out.lt
 clear r3 b3 HA2 HC2 HR2 HB2 hc
 obtain ⟨e0, g0⟩ := HC3.out.all1
 by_cases h0 : (tokS l).2.1 = 0
 ·have HE0 := Lib.hid h0
  have HEF : Hid (errF (tokS l).2.1 (tokS l).2.2 = .nilIface) := by show _ = _; unfold errF; rw [if_pos h0]
  rw [HEF.out]
  have HOK : Hid (OkTs (tokS l).1) := tokF_ok _ _ _ (Nat.lt_succ_self _) h0
  have hb4 : Below w.heap.size w3 (w3.setCell ⟨w.heap.size + 1, 0, none⟩ .nilIface) := (Below.refl _ _).setCell (p := ⟨w.heap.size + 1, 0, none⟩) (Nat.le_succ _) _
  obtain ⟨tb, rfl, hpp⟩ := pp_new HOK.out (Nat.le_trans (tokS_len l) (by have := HLS.out; omega)) (HR3.out.box (g := w.heap.size + 1) (by omega) 0 .nilIface) (HS3.out.below hb4 HGR.out)
  rw [show (w3.setCell ⟨w.heap.size + 1, 0, none⟩ .nilIface).heap.size = w3.heap.size from by simp [World.setCell]] at hpp
  have HP5 := Lib.hid hpp
  have hb5 : Below (w3.setCell ⟨w.heap.size + 1, 0, none⟩ .nilIface).heap.size (w3.setCell ⟨w.heap.size + 1, 0, none⟩ .nilIface) ((w3.setCell ⟨w.heap.size + 1, 0, none⟩ .nilIface).alloc (.cells #[.slice (some ⟨tb, 0, none⟩) (tokS l).1.length c, .int .i64 0, .int .i64 0, .int .i64 0] 101)) := (Below.refl _ _).alloc (Nat.le_refl _) _
  have HB5 : Hid (Below w.heap.size w ((w3.setCell ⟨w.heap.size + 1, 0, none⟩ .nilIface).alloc (.cells #[.slice (some ⟨tb, 0, none⟩) (tokS l).1.length c, .int .i64 0, .int .i64 0, .int .i64 0] 101))) := (below_box HB3.out (Nat.le_succ _) 0 .nilIface).alloc (by simpa [World.setCell] using HB3.out.size) _
  have HA5 := Lib.hid ((HA3.out.setCell (a := ⟨w.heap.size + 1, 0, none⟩) (by simp) .nilIface).later hb5)
  have HC5 : Hid (Arr ((w3.setCell ⟨w.heap.size + 1, 0, none⟩ .nilIface).alloc (.cells #[.slice (some ⟨tb, 0, none⟩) (tokS l).1.length c, .int .i64 0, .int .i64 0, .int .i64 0] 101)) 27 (w.heap.size + 1) [.nilIface]) := (HC3.out.set 0 .nilIface).later hb5
  have HLP : Hid (w.heap.size + 2 ≤ w3.heap.size) := HC3.out.lt
  have HRU := Lib.hid (expr_any HOK.out HP5.out (okTs_pos HOK.out))
  clear h0 hb4 hb5 hpp HA3 HC3 HS3 HR3 HB3
  go_wp2_with fail
  clear e0 g0
  generalize ((w3.setCell ⟨w.heap.size + 1, 0, none⟩ .nilIface).alloc (.cells #[.slice (some ⟨tb, 0, none⟩) (tokS l).1.length c, .int .i64 0, .int .i64 0, .int .i64 0] 101)) = w5 at HP5 HB5 HA5 HC5 HRU ⊢
  have HL5 : Hid (w3.heap.size < w5.heap.size) := HP5.out.1.lt
  refine HRU.out.mono ?_
  rintro r w6 (⟨x, s6, v, e6, rfl, r6, p6, k6⟩ | ⟨k, i, e6, rfl, k6⟩)
  ·have HE6 := Lib.hid e6
   have LE56 : Hid (w5.heap.size ≤ w6.heap.size) := k6.2.2.2.1
   have HB6 := Lib.hid (HB5.out.trans (k6.below (B := w.heap.size) (by have := HLP.out; omega) HB5.out.size))
   have HA6 := Lib.hid (k6.arr HA5.out (by have := HLP.out; omega))
   have HC6 := Lib.hid (k6.arr HC5.out (by have := HLP.out; omega))
   have HP6 := Lib.hid p6
   have HS6 : Hid (s6.i < (tokS l).1.length) := (keeps_expr HOK.out (okTs_pos HOK.out) e6)
   obtain ⟨mk, mv, mn, ms⟩ := x
   have HV6 : Hid (VE w5.heap.size (.mk mk mv mn ms) w6 v) := r6
   have r6 : VE w5.heap.size (.mk mk mv mn ms) w6 v := r6
   obtain ⟨q4, c4, rfl⟩ := VE.form r6
   have hb7 : Below w6.heap.size w6 (w6.alloc (.cells #[.int .i64 mk, .string (bstr mv), .string (bstr mn), .slice q4 ms.length c4] 25)) := (Below.refl _ _).alloc (Nat.le_refl _) _
   have HP7 := Lib.hid (HP6.out.later hb7)
   have HA7 := Lib.hid (HA6.out.later hb7)
   have HC7 := Lib.hid (HC6.out.later hb7)
   have HB7 := Lib.hid (HB6.out.trans (hb7.mono HB6.out.size))
   have HV7 := Lib.hid (HV6.out.later hb7)
   have HX7 : Hid (Arr (w6.alloc (.cells #[.int .i64 mk, .string (bstr mv), .string (bstr mn), .slice q4 ms.length c4] 25)) 25 w6.heap.size [.int .i64 mk, .string (bstr mv), .string (bstr mn), .slice q4 ms.length c4]) := Arr.new' _ _ _ _ rfl
   have HNX := Lib.hid (next_any HP7.out HS6.out)
   have hfl := fieldT0
   obtain ⟨kd, hkd⟩ : ∃ kd, kd = ((tokS l).1.getD s6.i tok0).1 := ⟨_, rfl⟩
   rw [← hkd] at HNX
   clear e6 p6 k6 r6 hb7 HRU HP6 HA6 HC6 HB6 HV6
   go_wp2_with fail
   refine HNX.out.mono ?_
   rintro r w7 ⟨rfl, b7⟩
   have HPz := Lib.hid (HP7.out.later b7)
   have HAz := Lib.hid (HA7.out.later b7)
   have HCz := Lib.hid (HC7.out.later b7)
   have HBz := Lib.hid (HB7.out.trans (b7.mono HB7.out.size))
   have HVz := Lib.hid (HV7.out.later b7)
   have HXz := Lib.hid (HX7.out.later b7)
   have HLX : Hid (w.heap.size + 2 ≤ w6.heap.size) := by have := HC5.out.lt; have := HLP.out; have := HL5.out; show _ ≤ _; exact Nat.le_trans (by omega) LE56.out
   clear b7 HNX HP7 HA7 HC7 HB7 HV7 HX7
   by_cases h3 : kd = 3
   ·subst h3
    have HRE := Lib.hid (readF_ok HE0.out HE6.out hkd.symm)
    have HLT5 : Hid (w.heap.size < w5.heap.size) := by have := HLP.out; have := HL5.out; show _ < _; omega
    have HLT6 : Hid (w.heap.size + 1 < w5.heap.size) := by have := HLP.out; have := HL5.out; show _ < _; omega
    clear hkd
    obtain ⟨p0, z0, p1, z1, p2, z2, p3, z3⟩ := HXz.out.all4
    obtain ⟨x0, y0, x1, y1, x2, y2, x3, y3⟩ := HAz.out.all4
    obtain ⟨r0, t0⟩ := HCz.out.all1
    go_wp2_with fail
    refine (need_t 6).mono ?_
    rintro r w7 ⟨rfl, rfl⟩
    go_wp2_with fail
    clear p0 z0 p1 z1 p2 z2 p3 z3
    clear x0 y0 x1 y1 x2 y2 x3 y3
    clear r0 t0
    refine leaves_cons (f := 39) (args := #[.pointer (some ⟨w.heap.size + 1, 0, none⟩)]) (by simp) (by simp [go_sem]) ?_
    refine (idleE ⟨w.heap.size + 1, 0, none⟩ _).mono ?_
    rintro e u' w9 ⟨rfl, rfl, b9⟩
    have hA := (((((HAz.out.set 0 (.int .i64 mk)).set 1 (.string (bstr mv))).set 2 (.string (bstr mn))).set 3 (.slice q4 ms.length c4)).setCell (a := ⟨w.heap.size + 1, 0, none⟩) (by simp) .nilIface).later b9
    have hC := (((((HCz.out.setCell (a := ⟨w.heap.size, 0, none⟩) (by simp) (.int .i64 mk)).setCell (a := ⟨w.heap.size, 1, none⟩) (by simp) (.string (bstr mv))).setCell (a := ⟨w.heap.size, 2, none⟩) (by simp) (.string (bstr mn))).setCell (a := ⟨w.heap.size, 3, none⟩) (by simp) (.slice q4 ms.length c4)).set 0 .nilIface).later b9
    have hB := (below_box (below_box (below_box (below_box (below_box HBz.out (Nat.le_refl _) 0 (.int .i64 mk)) (Nat.le_refl _) 1 (.string (bstr mv))) (Nat.le_refl _) 2 (.string (bstr mn))) (Nat.le_refl _) 3 (.slice q4 ms.length c4)) (g := w.heap.size + 1) (Nat.le_succ _) 0 .nilIface)
    have hB9 := hB.trans (b9.mono hB.size)
    have hkv := (((((Kp.of (pb := w.heap.size) (Below.refl w7.heap.size w7)).set 0 (.int .i64 mk)).set 1 (.string (bstr mv))).set 2 (.string (bstr mn))).set 3 (.slice q4 ms.length c4))
    have hV := ((HVz.out.kp hkv (HLT5.out)).kp ((Kp.of (pb := w.heap.size + 1) (Below.refl _ _)).set 0 .nilIface) (HLT6.out)).later b9
    simp only [List.set_cons_zero, List.set_cons_succ] at hA
    simp only [List.set_cons_zero] at hC
    have c0 := hA.cell 0
    have c1 := hA.cell 1
    have c2 := hA.cell 2
    have c3 := hA.cell 3
    have d0 := hC.cell 0
    simp only [List.getElem?_cons_zero, List.getElem?_cons_succ] at c0 c1 c2 c3 d0
    clear hA hC hB hkv b9
    refine ⟨.tuple #[.agg #[.int .i64 mk, .string (bstr mv), .string (bstr mn), .slice q4 ms.length c4], .nilIface], ?_, hB9, .inl ⟨_, _, HRE.out, rfl, hV.low (Nat.le_trans (Nat.le_succ _) (Nat.le_of_lt HLT6.out))⟩⟩
    simp [results, Tryd.results19, go_sem, c0, c1, c2, c3, d0]
   ·have h3' : (kd == 3) = false := by simp [h3]
    have HRE := Lib.hid (readF_more HE0.out HE6.out (by rw [← hkd]; exact h3))
    clear h3 hkd
    go_wp2_with fail
    refine (need_f HPz.out HS6.out 6).mono ?_
    rintro r w8 ⟨rfl, b8⟩
    have HA8 := Lib.hid (HAz.out.later b8)
    have HC8 := Lib.hid (HCz.out.later b8)
    have HB8 := Lib.hid (HBz.out.trans (b8.mono HBz.out.size))
    clear b8 h3'
    obtain ⟨hcz, hfz⟩ := HC8.out.all1
    refine leaves_cons (f := 39) (args := #[.pointer (some ⟨w.heap.size + 1, 0, none⟩)]) (by simp) (by simp [go_sem]) ?_
    refine (catchE ⟨w.heap.size + 1, 0, none⟩ _ 6 (offs (tokS l).1 s6.i) [] w8 hcz hfz).mono ?_
    rintro e u' w'' ⟨rfl, rfl, rfl⟩
    have hb9 : Below w8.heap.size w8 (w8.alloc (.cells #[.int .i64 (6 : Nat), .int .i64 (offs (tokS l).1 s6.i)] 98)) := (Below.refl _ _).alloc (Nat.le_refl _) _
    have hA := (HA8.out.later hb9).setCell (a := ⟨w.heap.size + 1, 0, none⟩) (by simp) (flt 6 (offs (tokS l).1 s6.i))
    have hC := (HC8.out.later hb9).set 0 (flt 6 (offs (tokS l).1 s6.i))
    have hB := below_box (HB8.out.trans (hb9.mono HB8.out.size)) (g := w.heap.size + 1) (Nat.le_succ _) 0 (flt 6 (offs (tokS l).1 s6.i))
    simp only [List.set_cons_zero] at hC
    generalize (w8.alloc (.cells #[.int .i64 (6 : Nat), .int .i64 (offs (tokS l).1 s6.i)] 98)).setCell ⟨w.heap.size + 1, 0, none⟩ (flt 6 (offs (tokS l).1 s6.i)) = w9 at hA hC hB ⊢
    rw [flt_fault] at hC
    have c0 := hA.cell 0
    have c1 := hA.cell 1
    have c2 := hA.cell 2
    have c3 := hA.cell 3
    have d0 := hC.cell 0
    simp only [List.getElem?_cons_zero, List.getElem?_cons_succ] at c0 c1 c2 c3 d0
    clear hA hC hcz hfz hb9
    refine ⟨.tuple #[.agg #[.int .i64 0, .string ⟨#[]⟩, .string ⟨#[]⟩, .slice none 0 0], faultN 6 (offT (tokS l).1 s6.i)], ?_, hB, .inr ⟨6, offT (tokS l).1 s6.i, by decide, HRE.out, rfl⟩⟩
    simp [results, Tryd.results19, go_sem, c0, c1, c2, c3, d0]
  ·have HRE := Lib.hid (readF_bad HE0.out e6)
   have HKN := Lib.hid (HCD.out _ _ _ e6)
   have HB6 := Lib.hid (HB5.out.trans (k6.below (B := w.heap.size) (by have := HLP.out; omega) HB5.out.size))
   have HA6 := Lib.hid (k6.arr HA5.out (by have := HLP.out; omega))
   have HC6 := Lib.hid (k6.arr HC5.out (by have := HLP.out; omega))
   clear e6 k6 HRU
   obtain ⟨hcz, hfz⟩ := HC6.out.all1
   refine leaves_cons (f := 39) (args := #[.pointer (some ⟨w.heap.size + 1, 0, none⟩)]) (by simp) (by simp [go_sem]) ?_
   refine (catchE ⟨w.heap.size + 1, 0, none⟩ _ k (offs (tokS l).1 i) [] w6 hcz hfz).mono ?_
   rintro e u' w'' ⟨rfl, rfl, rfl⟩
   have hb9 : Below w6.heap.size w6 (w6.alloc (.cells #[.int .i64 (k : Nat), .int .i64 (offs (tokS l).1 i)] 98)) := (Below.refl _ _).alloc (Nat.le_refl _) _
   have hA := (HA6.out.later hb9).setCell (a := ⟨w.heap.size + 1, 0, none⟩) (by simp) (flt k (offs (tokS l).1 i))
   have hC := (HC6.out.later hb9).set 0 (flt k (offs (tokS l).1 i))
   have hB := below_box (HB6.out.trans (hb9.mono HB6.out.size)) (g := w.heap.size + 1) (Nat.le_succ _) 0 (flt k (offs (tokS l).1 i))
   simp only [List.set_cons_zero] at hC
   generalize (w6.alloc (.cells #[.int .i64 (k : Nat), .int .i64 (offs (tokS l).1 i)] 98)).setCell ⟨w.heap.size + 1, 0, none⟩ (flt k (offs (tokS l).1 i)) = w9 at hA hC hB ⊢
   rw [flt_fault] at hC
   have c0 := hA.cell 0
   have c1 := hA.cell 1
   have c2 := hA.cell 2
   have c3 := hA.cell 3
   have d0 := hC.cell 0
   simp only [List.getElem?_cons_zero, List.getElem?_cons_succ] at c0 c1 c2 c3 d0
   clear hA hC hcz hfz hb9
   refine ⟨.tuple #[.agg #[.int .i64 0, .string ⟨#[]⟩, .string ⟨#[]⟩, .slice none 0 0], faultN k (offT (tokS l).1 i)], ?_, hB, .inr ⟨k, offT (tokS l).1 i, HKN.out, HRE.out, rfl⟩⟩
   simp [results, Tryd.results19, go_sem, c0, c1, c2, c3, d0]
 ·have h0' := h0
  have HEF : Hid (errF (tokS l).2.1 (tokS l).2.2 = faultN (tokS l).2.1 (tokS l).2.2) := by show _ = _; unfold errF; rw [if_neg h0]
  have HRE := Lib.hid (readF_lex (rule := exprF) h0)
  rw [HEF.out]
  unfold faultN
  obtain ⟨x0, y0, x1, y1, x2, y2, x3, y3⟩ := HA3.out.all4
  go_upto_region 3 with (fail)
  clear e0 g0 x0 y0 x1 y1 x2 y2 x3 y3
  have HA4 : Hid (Arr (w3.setCell ⟨w.heap.size + 1, 0, none⟩ (.iface 98 (.agg #[.int .i64 ((tokS l).2.1 : Nat), .int .i64 ((tokS l).2.2 : Nat)]))) 25 w.heap.size [.int .i64 0, .string ⟨#[]⟩, .string ⟨#[]⟩, .slice none 0 0]) := HA3.out.setCell (a := ⟨w.heap.size + 1, 0, none⟩) (by simp) _
  have HC4 : Hid (Arr (w3.setCell ⟨w.heap.size + 1, 0, none⟩ (.iface 98 (.agg #[.int .i64 ((tokS l).2.1 : Nat), .int .i64 ((tokS l).2.2 : Nat)]))) 27 (w.heap.size + 1) [.iface 98 (.agg #[.int .i64 ((tokS l).2.1 : Nat), .int .i64 ((tokS l).2.2 : Nat)])]) := HC3.out.set 0 _
  have HB4 := Lib.hid (below_box HB3.out (g := w.heap.size + 1) (Nat.le_succ _) 0 (.iface 98 (.agg #[.int .i64 ((tokS l).2.1 : Nat), .int .i64 ((tokS l).2.2 : Nat)])))
  generalize w3.setCell ⟨w.heap.size + 1, 0, none⟩ (.iface 98 (.agg #[.int .i64 ((tokS l).2.1 : Nat), .int .i64 ((tokS l).2.2 : Nat)])) = w4 at HA4 HC4 HB4 ⊢
  clear HA3 HC3 HB3 HS3 HR3
  refine wp_region_noPanic ?_
  refine wp_region_held_drew (S := fun W' => Arr W' 25 w.heap.size [.int .i64 0, .string ⟨#[]⟩, .string ⟨#[]⟩, .slice none 0 0] ∧ Arr W' 27 (w.heap.size + 1) [.iface 98 (.agg #[.int .i64 ((tokS l).2.1 : Nat), .int .i64 ((tokS l).2.2 : Nat)])] ∧ Below w.heap.size w W') (by kernel_rfl) ⟨HA4.out.drew, HC4.out.drew, HB4.out.drew⟩ (fun hHeld => ?_)
  try simp only [Act.put]
  generalize w4.drew = w5 at hHeld ⊢
  clear HA4 HC4 HB4
  refine wpAnyH_take (i := 0) (oi := ⟨some 16, _, _, _, _, _⟩) (v := .agg #[.int .i64 0, .string ⟨#[]⟩, .string ⟨#[]⟩, .slice none 0 0]) rfl (by kernel_rfl) (by kernel_rfl) (by kernel_rfl) (fun _ _ _ h => h) (.inl ⟨by rfl, fun w' hSw => ?_⟩) hHeld ?_
  focus (have q := hSw.1; have q0 := q.cell 0; have q1 := q.cell 1; have q2 := q.cell 2; have q3 := q.cell 3; simp only [List.getElem?_cons_zero, List.getElem?_cons_succ] at q0 q1 q2 q3; clear hHeld; go_simp)
  try simp only [Act.put, List.setIfInBounds_toArray, List.set_cons_zero, List.set_cons_succ]
  refine wpAnyH_take (i := 1) (oi := ⟨some 17, _, _, _, _, _⟩) (v := .iface 98 (.agg #[.int .i64 ((tokS l).2.1 : Nat), .int .i64 ((tokS l).2.2 : Nat)])) rfl (by kernel_rfl) (by kernel_rfl) (by kernel_rfl) (fun _ _ _ h => h) (.inl ⟨by rfl, fun w' hSw => ?_⟩) hHeld ?_
  focus (have q := hSw.2.1.cell 0; simp only [List.getElem?_cons_zero] at q; clear hHeld; go_simp)
  try simp only [Act.put, List.setIfInBounds_toArray, List.set_cons_zero, List.set_cons_succ]
  refine wpAnyH_ready (rs := [2]) (by kernel_rfl) (by simp) ?_
  refine AllReadyH.cons (o := ⟨none, _, _, _, _, _⟩) rfl (fun K' hK' => ?_) AllReadyH.nil
  have hA := hHeld.1
  have x0 := hA.cell 0
  have y0 := hA.free 0
  have x1 := hA.cell 1
  have y1 := hA.free 1
  have x2 := hA.cell 2
  have y2 := hA.free 2
  have x3 := hA.cell 3
  have y3 := hA.free 3
  simp only [List.getElem?_cons_zero, List.getElem?_cons_succ] at x0 x1 x2 x3
  have hkn := And.intro ((((hHeld.1.set 0 (.int .i64 0)).set 1 (.string ⟨#[]⟩)).set 2 (.string ⟨#[]⟩)).set 3 (.slice none 0 0)) (And.intro ((((hHeld.2.1.setCell (a := ⟨w.heap.size, 0, none⟩) (by simp) (.int .i64 0)).setCell (a := ⟨w.heap.size, 1, none⟩) (by simp) (.string ⟨#[]⟩)).setCell (a := ⟨w.heap.size, 2, none⟩) (by simp) (.string ⟨#[]⟩)).setCell (a := ⟨w.heap.size, 3, none⟩) (by simp) (.slice none 0 0)) (below_box (below_box (below_box (below_box hHeld.2.2 (Nat.le_refl _) 0 (.int .i64 0)) (Nat.le_refl _) 1 (.string ⟨#[]⟩)) (Nat.le_refl _) 2 (.string ⟨#[]⟩)) (Nat.le_refl _) 3 (.slice none 0 0)))
  simp only [List.set_cons_zero, List.set_cons_succ] at hkn
  clear hHeld hA
  go_simp
  clear x0 y0 x1 y1 x2 y2 x3 y3
  refine hK'.out _ _ hkn (fun hHeld => ?_)
  clear hK' K' hkn
  try simp only [Act.put, List.setIfInBounds_toArray, List.set_cons_zero, List.set_cons_succ]
  generalize (((((w5.setCell ⟨w.heap.size, 0, none⟩ (.int .i64 0)).setCell ⟨w.heap.size, 1, none⟩ (.string ⟨#[]⟩)).setCell ⟨w.heap.size, 2, none⟩ (.string ⟨#[]⟩)).setCell ⟨w.heap.size, 3, none⟩ (.slice none 0 0))) = w6 at hHeld ⊢
  refine wpAnyH_ready (rs := [3]) (by kernel_rfl) (by simp) ?_
  refine AllReadyH.cons (o := ⟨none, _, _, _, _, _⟩) rfl (fun K' hK' => ?_) AllReadyH.nil
  have x0 := hHeld.2.1.cell 0
  have y0 := hHeld.2.1.free 0
  simp only [List.getElem?_cons_zero] at x0
  have hkn := And.intro (hHeld.1.setCell (a := ⟨w.heap.size + 1, 0, none⟩) (by simp) (.iface 98 (.agg #[.int .i64 ((tokS l).2.1 : Nat), .int .i64 ((tokS l).2.2 : Nat)]))) (And.intro (hHeld.2.1.set 0 (.iface 98 (.agg #[.int .i64 ((tokS l).2.1 : Nat), .int .i64 ((tokS l).2.2 : Nat)]))) (below_box hHeld.2.2 (g := w.heap.size + 1) (Nat.le_succ _) 0 (.iface 98 (.agg #[.int .i64 ((tokS l).2.1 : Nat), .int .i64 ((tokS l).2.2 : Nat)]))))
  simp only [List.set_cons_zero] at hkn
  clear hHeld
  go_simp
  clear x0 y0
  refine hK'.out _ _ hkn (fun hHeld => ?_)
  clear hK' K' hkn
  try simp only [Act.put, List.setIfInBounds_toArray, List.set_cons_zero, List.set_cons_succ]
  generalize w6.setCell ⟨w.heap.size + 1, 0, none⟩ (.iface 98 (.agg #[.int .i64 ((tokS l).2.1 : Nat), .int .i64 ((tokS l).2.2 : Nat)])) = w7 at hHeld ⊢
  refine wpAnyH_done (by kernel_rfl) ?_ _
  refine NoPanic.normal ?_
  obtain ⟨hA, hC, hB⟩ := hHeld
  go_wp2_with fail
  have c0 := hA.cell 0
  have c1 := hA.cell 1
  have c2 := hA.cell 2
  have c3 := hA.cell 3
  have d0 := hC.cell 0
  simp only [List.getElem?_cons_zero, List.getElem?_cons_succ] at c0 c1 c2 c3 d0
  clear hA hC
  refine ⟨.tuple #[.agg #[.int .i64 0, .string ⟨#[]⟩, .string ⟨#[]⟩, .slice none 0 0], faultN (tokS l).2.1 (tokS l).2.2], ?_, hB, .inr ⟨(tokS l).2.1, (tokS l).2.2, h0, HRE.out, rfl⟩⟩
  simp [results, Tryd.results19, go_sem, c0, c1, c2, c3, d0, faultN]
set_option maxRecDepth 100000 in
set_option maxHeartbeats 4000000 in
theorem readS_any (s : ByteArray) (hs : s.size ≤ 65536) (w : World) (hr : ResT w) (hcode : ∀ (ts : List Tok) k i, schemaR ts ps0 = .bad k i → k ≠ 0) : Calls Tryd.prog 32 #[.string s, .func (.func 33) #[] #[]] w (ReadPost VS (.agg #[.slice none 0 0]) w (readF schemaR s.data.toList)) := by
 have hmf : ∀ (fn : Fn) (first cap : Array Value) (w : World), (Instr.makeFunc fn first cap).run Tryd.prog w = .ok (.func fn first cap) w := fun _ _ _ _ => rfl
 have hB2 : Below w.heap.size w ((w.alloc (.cells #[.slice none 0 0] 49)).alloc (.cells #[.nilIface] 27)) := ((Below.refl _ _).alloc (Nat.le_refl _) _).alloc (by simp) _
 have HA2 : Hid (Arr ((w.alloc (.cells #[.slice none 0 0] 49)).alloc (.cells #[.nilIface] 27)) 49 w.heap.size [.slice none 0 0]) := (Arr.new' _ _ _ _ rfl).alloc _
 have HC2 : Hid (Arr ((w.alloc (.cells #[.slice none 0 0] 49)).alloc (.cells #[.nilIface] 27)) 27 (w.heap.size + 1) [.nilIface]) := Arr.new2 _ _ _ _ _ rfl
 have HR2 : Hid (ResT ((w.alloc (.cells #[.slice none 0 0] 49)).alloc (.cells #[.nilIface] 27))) := hr.below hB2 hr.lt
 have HGR : Hid (0 < w.heap.size) := hr.lt
 have HLX := Lib.hid (lex_any s hs _ HR2.out)
 have HB2 := Lib.hid hB2
 have HCD := Lib.hid hcode
 obtain ⟨l, hl⟩ : ∃ l, l = s.data.toList := ⟨_, rfl⟩
 have HLS : Hid (l.length ≤ 65536) := by show _ ≤ _; rw [hl, Array.length_toList]; exact hs
 rw [← hl] at HLX ⊢
 clear hr hB2 hcode hl hs
 go_enter_defers Tryd.func32, Tryd.ntmps32
 go_wp2_with fail
 refine HLX.out.mono ?_
 rintro r w3 ⟨v, rfl, r3, b3⟩
 obtain ⟨q, c, rfl, hc⟩ := r3.form
 have HR3 : Hid (TokRow (w.heap.size + 2) 104 w3 (.slice q (tokS l).1.length c) (tokS l).1) := by
  have h := r3
  rw [show ((w.alloc (.cells #[.slice none 0 0] 49)).alloc (.cells #[.nilIface] 27)).heap.size = w.heap.size + 2 from by simp] at h
  exact h
 have HB3 := Lib.hid (HB2.out.trans (b3.mono HB2.out.size))
 have HA3 := Lib.hid (HA2.out.later b3)
 have HC3 := Lib.hid (HC2.out.later b3)
 have HS3 : Hid (ResT w3) := HR2.out.below b3 HR2.out.lt
 clear r3 b3 HA2 HC2 HR2 HB2 hc
 obtain ⟨e0, g0⟩ := HC3.out.all1
 by_cases h0 : (tokS l).2.1 = 0
 ·have HE0 := Lib.hid h0
  have HEF : Hid (errF (tokS l).2.1 (tokS l).2.2 = .nilIface) := by show _ = _; unfold errF; rw [if_pos h0]
  rw [HEF.out]
  have HOK : Hid (OkTs (tokS l).1) := tokF_ok _ _ _ (Nat.lt_succ_self _) h0
  have hb4 : Below w.heap.size w3 (w3.setCell ⟨w.heap.size + 1, 0, none⟩ .nilIface) := (Below.refl _ _).setCell (p := ⟨w.heap.size + 1, 0, none⟩) (Nat.le_succ _) _
  obtain ⟨tb, rfl, hpp⟩ := pp_new HOK.out (Nat.le_trans (tokS_len l) (by have := HLS.out; omega)) (HR3.out.box (g := w.heap.size + 1) (by omega) 0 .nilIface) (HS3.out.below hb4 HGR.out)
  rw [show (w3.setCell ⟨w.heap.size + 1, 0, none⟩ .nilIface).heap.size = w3.heap.size from by simp [World.setCell]] at hpp
  have HP5 := Lib.hid hpp
  have hb5 : Below (w3.setCell ⟨w.heap.size + 1, 0, none⟩ .nilIface).heap.size (w3.setCell ⟨w.heap.size + 1, 0, none⟩ .nilIface) ((w3.setCell ⟨w.heap.size + 1, 0, none⟩ .nilIface).alloc (.cells #[.slice (some ⟨tb, 0, none⟩) (tokS l).1.length c, .int .i64 0, .int .i64 0, .int .i64 0] 101)) := (Below.refl _ _).alloc (Nat.le_refl _) _
  have HB5 : Hid (Below w.heap.size w ((w3.setCell ⟨w.heap.size + 1, 0, none⟩ .nilIface).alloc (.cells #[.slice (some ⟨tb, 0, none⟩) (tokS l).1.length c, .int .i64 0, .int .i64 0, .int .i64 0] 101))) := (below_box HB3.out (Nat.le_succ _) 0 .nilIface).alloc (by simpa [World.setCell] using HB3.out.size) _
  have HA5 := Lib.hid ((HA3.out.setCell (a := ⟨w.heap.size + 1, 0, none⟩) (by simp) .nilIface).later hb5)
  have HC5 : Hid (Arr ((w3.setCell ⟨w.heap.size + 1, 0, none⟩ .nilIface).alloc (.cells #[.slice (some ⟨tb, 0, none⟩) (tokS l).1.length c, .int .i64 0, .int .i64 0, .int .i64 0] 101)) 27 (w.heap.size + 1) [.nilIface]) := (HC3.out.set 0 .nilIface).later hb5
  have HLP : Hid (w.heap.size + 2 ≤ w3.heap.size) := HC3.out.lt
  have HRU := Lib.hid (schema_any HOK.out HP5.out (okTs_pos HOK.out))
  clear h0 hb4 hb5 hpp HA3 HC3 HS3 HR3 HB3
  go_wp2_with fail
  clear e0 g0
  generalize ((w3.setCell ⟨w.heap.size + 1, 0, none⟩ .nilIface).alloc (.cells #[.slice (some ⟨tb, 0, none⟩) (tokS l).1.length c, .int .i64 0, .int .i64 0, .int .i64 0] 101)) = w5 at HP5 HB5 HA5 HC5 HRU ⊢
  have HL5 : Hid (w3.heap.size < w5.heap.size) := HP5.out.1.lt
  refine HRU.out.mono ?_
  rintro r w6 (⟨x, s6, v, e6, rfl, r6, p6, k6⟩ | ⟨k, i, e6, rfl, k6⟩)
  ·have HE6 := Lib.hid e6
   have LE56 : Hid (w5.heap.size ≤ w6.heap.size) := k6.2.2.2.1
   have HB6 := Lib.hid (HB5.out.trans (k6.below (B := w.heap.size) (by have := HLP.out; omega) HB5.out.size))
   have HA6 := Lib.hid (k6.arr HA5.out (by have := HLP.out; omega))
   have HC6 := Lib.hid (k6.arr HC5.out (by have := HLP.out; omega))
   have HP6 := Lib.hid p6
   have HS6 : Hid (s6.i < (tokS l).1.length) := (keeps_defs HOK.out _ _ _ _ _ (okTs_pos HOK.out) e6)
   obtain ⟨q4, c4, rfl, r6b⟩ := VS.form r6
   have HV6 : Hid (VS w5.heap.size x w6 (.agg #[.slice q4 x.length c4])) := ⟨_, rfl, r6b⟩
   clear r6b
   have hb7 : Below w6.heap.size w6 (w6.alloc (.cells #[.slice q4 x.length c4] 49)) := (Below.refl _ _).alloc (Nat.le_refl _) _
   have HP7 := Lib.hid (HP6.out.later hb7)
   have HA7 := Lib.hid (HA6.out.later hb7)
   have HC7 := Lib.hid (HC6.out.later hb7)
   have HB7 := Lib.hid (HB6.out.trans (hb7.mono HB6.out.size))
   have HV7 := Lib.hid (HV6.out.later hb7)
   have HX7 : Hid (Arr (w6.alloc (.cells #[.slice q4 x.length c4] 49)) 49 w6.heap.size [.slice q4 x.length c4]) := Arr.new' _ _ _ _ rfl
   have HNX := Lib.hid (next_any HP7.out HS6.out)
   have hfl := fieldT0
   obtain ⟨kd, hkd⟩ : ∃ kd, kd = ((tokS l).1.getD s6.i tok0).1 := ⟨_, rfl⟩
   rw [← hkd] at HNX
   clear e6 p6 k6 r6 hb7 HRU HP6 HA6 HC6 HB6 HV6
   go_wp2_with fail
   refine HNX.out.mono ?_
   rintro r w7 ⟨rfl, b7⟩
   have HPz := Lib.hid (HP7.out.later b7)
   have HAz := Lib.hid (HA7.out.later b7)
   have HCz := Lib.hid (HC7.out.later b7)
   have HBz := Lib.hid (HB7.out.trans (b7.mono HB7.out.size))
   have HVz := Lib.hid (HV7.out.later b7)
   have HXz := Lib.hid (HX7.out.later b7)
   have HLX : Hid (w.heap.size + 2 ≤ w6.heap.size) := by have := HC5.out.lt; have := HLP.out; have := HL5.out; show _ ≤ _; exact Nat.le_trans (by omega) LE56.out
   clear b7 HNX HP7 HA7 HC7 HB7 HV7 HX7
   by_cases h3 : kd = 3
   ·subst h3
    have HRE := Lib.hid (readF_ok HE0.out HE6.out hkd.symm)
    have HLT5 : Hid (w.heap.size < w5.heap.size) := by have := HLP.out; have := HL5.out; show _ < _; omega
    have HLT6 : Hid (w.heap.size + 1 < w5.heap.size) := by have := HLP.out; have := HL5.out; show _ < _; omega
    clear hkd
    obtain ⟨p0, z0⟩ := HXz.out.all1
    obtain ⟨x0, y0⟩ := HAz.out.all1
    obtain ⟨r0, t0⟩ := HCz.out.all1
    go_wp2_with fail
    refine (need_t 6).mono ?_
    rintro r w7 ⟨rfl, rfl⟩
    go_wp2_with fail
    clear p0 z0
    clear x0 y0
    clear r0 t0
    refine leaves_cons (f := 54) (args := #[.pointer (some ⟨w.heap.size + 1, 0, none⟩)]) (by simp) (by simp [go_sem]) ?_
    refine (idleS ⟨w.heap.size + 1, 0, none⟩ _).mono ?_
    rintro e u' w9 ⟨rfl, rfl, b9⟩
    have hA := ((HAz.out.set 0 (.slice q4 x.length c4)).setCell (a := ⟨w.heap.size + 1, 0, none⟩) (by simp) .nilIface).later b9
    have hC := ((HCz.out.setCell (a := ⟨w.heap.size, 0, none⟩) (by simp) (.slice q4 x.length c4)).set 0 .nilIface).later b9
    have hB := (below_box (below_box HBz.out (Nat.le_refl _) 0 (.slice q4 x.length c4)) (g := w.heap.size + 1) (Nat.le_succ _) 0 .nilIface)
    have hB9 := hB.trans (b9.mono hB.size)
    have hkv := ((Kp.of (pb := w.heap.size) (Below.refl w7.heap.size w7)).set 0 (.slice q4 x.length c4))
    have hV := ((HVz.out.kp hkv (HLT5.out)).kp ((Kp.of (pb := w.heap.size + 1) (Below.refl _ _)).set 0 .nilIface) (HLT6.out)).later b9
    simp only [List.set_cons_zero] at hA
    simp only [List.set_cons_zero] at hC
    have c0 := hA.cell 0
    have d0 := hC.cell 0
    simp only [List.getElem?_cons_zero] at c0 d0
    clear hA hC hB hkv b9
    refine ⟨.tuple #[.agg #[.slice q4 x.length c4], .nilIface], ?_, hB9, .inl ⟨_, _, HRE.out, rfl, hV.low (Nat.le_trans (Nat.le_succ _) (Nat.le_of_lt HLT6.out))⟩⟩
    simp [results, Tryd.results32, go_sem, c0, d0]
   ·have h3' : (kd == 3) = false := by simp [h3]
    have HRE := Lib.hid (readF_more HE0.out HE6.out (by rw [← hkd]; exact h3))
    clear h3 hkd
    go_wp2_with fail
    refine (need_f HPz.out HS6.out 6).mono ?_
    rintro r w8 ⟨rfl, b8⟩
    have HA8 := Lib.hid (HAz.out.later b8)
    have HC8 := Lib.hid (HCz.out.later b8)
    have HB8 := Lib.hid (HBz.out.trans (b8.mono HBz.out.size))
    clear b8 h3'
    obtain ⟨hcz, hfz⟩ := HC8.out.all1
    refine leaves_cons (f := 54) (args := #[.pointer (some ⟨w.heap.size + 1, 0, none⟩)]) (by simp) (by simp [go_sem]) ?_
    refine (catchS ⟨w.heap.size + 1, 0, none⟩ _ 6 (offs (tokS l).1 s6.i) [] w8 hcz hfz).mono ?_
    rintro e u' w'' ⟨rfl, rfl, rfl⟩
    have hb9 : Below w8.heap.size w8 (w8.alloc (.cells #[.int .i64 (6 : Nat), .int .i64 (offs (tokS l).1 s6.i)] 98)) := (Below.refl _ _).alloc (Nat.le_refl _) _
    have hA := (HA8.out.later hb9).setCell (a := ⟨w.heap.size + 1, 0, none⟩) (by simp) (flt 6 (offs (tokS l).1 s6.i))
    have hC := (HC8.out.later hb9).set 0 (flt 6 (offs (tokS l).1 s6.i))
    have hB := below_box (HB8.out.trans (hb9.mono HB8.out.size)) (g := w.heap.size + 1) (Nat.le_succ _) 0 (flt 6 (offs (tokS l).1 s6.i))
    simp only [List.set_cons_zero] at hC
    generalize (w8.alloc (.cells #[.int .i64 (6 : Nat), .int .i64 (offs (tokS l).1 s6.i)] 98)).setCell ⟨w.heap.size + 1, 0, none⟩ (flt 6 (offs (tokS l).1 s6.i)) = w9 at hA hC hB ⊢
    rw [flt_fault] at hC
    have c0 := hA.cell 0
    have d0 := hC.cell 0
    simp only [List.getElem?_cons_zero] at c0 d0
    clear hA hC hcz hfz hb9
    refine ⟨.tuple #[.agg #[.slice none 0 0], faultN 6 (offT (tokS l).1 s6.i)], ?_, hB, .inr ⟨6, offT (tokS l).1 s6.i, by decide, HRE.out, rfl⟩⟩
    simp [results, Tryd.results32, go_sem, c0, d0]
  ·have HRE := Lib.hid (readF_bad HE0.out e6)
   have HKN := Lib.hid (HCD.out _ _ _ e6)
   have HB6 := Lib.hid (HB5.out.trans (k6.below (B := w.heap.size) (by have := HLP.out; omega) HB5.out.size))
   have HA6 := Lib.hid (k6.arr HA5.out (by have := HLP.out; omega))
   have HC6 := Lib.hid (k6.arr HC5.out (by have := HLP.out; omega))
   clear e6 k6 HRU
   obtain ⟨hcz, hfz⟩ := HC6.out.all1
   refine leaves_cons (f := 54) (args := #[.pointer (some ⟨w.heap.size + 1, 0, none⟩)]) (by simp) (by simp [go_sem]) ?_
   refine (catchS ⟨w.heap.size + 1, 0, none⟩ _ k (offs (tokS l).1 i) [] w6 hcz hfz).mono ?_
   rintro e u' w'' ⟨rfl, rfl, rfl⟩
   have hb9 : Below w6.heap.size w6 (w6.alloc (.cells #[.int .i64 (k : Nat), .int .i64 (offs (tokS l).1 i)] 98)) := (Below.refl _ _).alloc (Nat.le_refl _) _
   have hA := (HA6.out.later hb9).setCell (a := ⟨w.heap.size + 1, 0, none⟩) (by simp) (flt k (offs (tokS l).1 i))
   have hC := (HC6.out.later hb9).set 0 (flt k (offs (tokS l).1 i))
   have hB := below_box (HB6.out.trans (hb9.mono HB6.out.size)) (g := w.heap.size + 1) (Nat.le_succ _) 0 (flt k (offs (tokS l).1 i))
   simp only [List.set_cons_zero] at hC
   generalize (w6.alloc (.cells #[.int .i64 (k : Nat), .int .i64 (offs (tokS l).1 i)] 98)).setCell ⟨w.heap.size + 1, 0, none⟩ (flt k (offs (tokS l).1 i)) = w9 at hA hC hB ⊢
   rw [flt_fault] at hC
   have c0 := hA.cell 0
   have d0 := hC.cell 0
   simp only [List.getElem?_cons_zero] at c0 d0
   clear hA hC hcz hfz hb9
   refine ⟨.tuple #[.agg #[.slice none 0 0], faultN k (offT (tokS l).1 i)], ?_, hB, .inr ⟨k, offT (tokS l).1 i, HKN.out, HRE.out, rfl⟩⟩
   simp [results, Tryd.results32, go_sem, c0, d0]
 ·have h0' := h0
  have HEF : Hid (errF (tokS l).2.1 (tokS l).2.2 = faultN (tokS l).2.1 (tokS l).2.2) := by show _ = _; unfold errF; rw [if_neg h0]
  have HRE := Lib.hid (readF_lex (rule := schemaR) h0)
  rw [HEF.out]
  unfold faultN
  obtain ⟨x0, y0⟩ := HA3.out.all1
  go_upto_region 3 with (fail)
  clear e0 g0 x0 y0
  have HA4 : Hid (Arr (w3.setCell ⟨w.heap.size + 1, 0, none⟩ (.iface 98 (.agg #[.int .i64 ((tokS l).2.1 : Nat), .int .i64 ((tokS l).2.2 : Nat)]))) 49 w.heap.size [.slice none 0 0]) := HA3.out.setCell (a := ⟨w.heap.size + 1, 0, none⟩) (by simp) _
  have HC4 : Hid (Arr (w3.setCell ⟨w.heap.size + 1, 0, none⟩ (.iface 98 (.agg #[.int .i64 ((tokS l).2.1 : Nat), .int .i64 ((tokS l).2.2 : Nat)]))) 27 (w.heap.size + 1) [.iface 98 (.agg #[.int .i64 ((tokS l).2.1 : Nat), .int .i64 ((tokS l).2.2 : Nat)])]) := HC3.out.set 0 _
  have HB4 := Lib.hid (below_box HB3.out (g := w.heap.size + 1) (Nat.le_succ _) 0 (.iface 98 (.agg #[.int .i64 ((tokS l).2.1 : Nat), .int .i64 ((tokS l).2.2 : Nat)])))
  generalize w3.setCell ⟨w.heap.size + 1, 0, none⟩ (.iface 98 (.agg #[.int .i64 ((tokS l).2.1 : Nat), .int .i64 ((tokS l).2.2 : Nat)])) = w4 at HA4 HC4 HB4 ⊢
  clear HA3 HC3 HB3 HS3 HR3
  refine wp_region_noPanic ?_
  refine wp_region_held_drew (S := fun W' => Arr W' 49 w.heap.size [.slice none 0 0] ∧ Arr W' 27 (w.heap.size + 1) [.iface 98 (.agg #[.int .i64 ((tokS l).2.1 : Nat), .int .i64 ((tokS l).2.2 : Nat)])] ∧ Below w.heap.size w W') (by kernel_rfl) ⟨HA4.out.drew, HC4.out.drew, HB4.out.drew⟩ (fun hHeld => ?_)
  try simp only [Act.put]
  generalize w4.drew = w5 at hHeld ⊢
  clear HA4 HC4 HB4
  refine wpAnyH_take (i := 0) (oi := ⟨some 16, _, _, _, _, _⟩) (v := .agg #[.slice none 0 0]) rfl (by kernel_rfl) (by kernel_rfl) (by kernel_rfl) (fun _ _ _ h => h) (.inl ⟨by rfl, fun w' hSw => ?_⟩) hHeld ?_
  focus (have q := hSw.1; have q0 := q.cell 0; simp only [List.getElem?_cons_zero] at q0; clear hHeld; go_simp)
  try simp only [Act.put, List.setIfInBounds_toArray, List.set_cons_zero, List.set_cons_succ]
  refine wpAnyH_take (i := 1) (oi := ⟨some 17, _, _, _, _, _⟩) (v := .iface 98 (.agg #[.int .i64 ((tokS l).2.1 : Nat), .int .i64 ((tokS l).2.2 : Nat)])) rfl (by kernel_rfl) (by kernel_rfl) (by kernel_rfl) (fun _ _ _ h => h) (.inl ⟨by rfl, fun w' hSw => ?_⟩) hHeld ?_
  focus (have q := hSw.2.1.cell 0; simp only [List.getElem?_cons_zero] at q; clear hHeld; go_simp)
  try simp only [Act.put, List.setIfInBounds_toArray, List.set_cons_zero, List.set_cons_succ]
  refine wpAnyH_ready (rs := [2]) (by kernel_rfl) (by simp) ?_
  refine AllReadyH.cons (o := ⟨none, _, _, _, _, _⟩) rfl (fun K' hK' => ?_) AllReadyH.nil
  have hA := hHeld.1
  have x0 := hA.cell 0
  have y0 := hA.free 0
  simp only [List.getElem?_cons_zero] at x0
  have hkn := And.intro (hHeld.1.set 0 (.slice none 0 0)) (And.intro (hHeld.2.1.setCell (a := ⟨w.heap.size, 0, none⟩) (by simp) (.slice none 0 0)) (below_box hHeld.2.2 (Nat.le_refl _) 0 (.slice none 0 0)))
  simp only [List.set_cons_zero] at hkn
  clear hHeld hA
  go_simp
  clear x0 y0
  refine hK'.out _ _ hkn (fun hHeld => ?_)
  clear hK' K' hkn
  try simp only [Act.put, List.setIfInBounds_toArray, List.set_cons_zero, List.set_cons_succ]
  generalize ((w5.setCell ⟨w.heap.size, 0, none⟩ (.slice none 0 0))) = w6 at hHeld ⊢
  refine wpAnyH_ready (rs := [3]) (by kernel_rfl) (by simp) ?_
  refine AllReadyH.cons (o := ⟨none, _, _, _, _, _⟩) rfl (fun K' hK' => ?_) AllReadyH.nil
  have x0 := hHeld.2.1.cell 0
  have y0 := hHeld.2.1.free 0
  simp only [List.getElem?_cons_zero] at x0
  have hkn := And.intro (hHeld.1.setCell (a := ⟨w.heap.size + 1, 0, none⟩) (by simp) (.iface 98 (.agg #[.int .i64 ((tokS l).2.1 : Nat), .int .i64 ((tokS l).2.2 : Nat)]))) (And.intro (hHeld.2.1.set 0 (.iface 98 (.agg #[.int .i64 ((tokS l).2.1 : Nat), .int .i64 ((tokS l).2.2 : Nat)]))) (below_box hHeld.2.2 (g := w.heap.size + 1) (Nat.le_succ _) 0 (.iface 98 (.agg #[.int .i64 ((tokS l).2.1 : Nat), .int .i64 ((tokS l).2.2 : Nat)]))))
  simp only [List.set_cons_zero] at hkn
  clear hHeld
  go_simp
  clear x0 y0
  refine hK'.out _ _ hkn (fun hHeld => ?_)
  clear hK' K' hkn
  try simp only [Act.put, List.setIfInBounds_toArray, List.set_cons_zero, List.set_cons_succ]
  generalize w6.setCell ⟨w.heap.size + 1, 0, none⟩ (.iface 98 (.agg #[.int .i64 ((tokS l).2.1 : Nat), .int .i64 ((tokS l).2.2 : Nat)])) = w7 at hHeld ⊢
  refine wpAnyH_done (by kernel_rfl) ?_ _
  refine NoPanic.normal ?_
  obtain ⟨hA, hC, hB⟩ := hHeld
  go_wp2_with fail
  have c0 := hA.cell 0
  have d0 := hC.cell 0
  simp only [List.getElem?_cons_zero] at c0 d0
  clear hA hC
  refine ⟨.tuple #[.agg #[.slice none 0 0], faultN (tokS l).2.1 (tokS l).2.2], ?_, hB, .inr ⟨(tokS l).2.1, (tokS l).2.2, h0, HRE.out, rfl⟩⟩
  simp [results, Tryd.results32, go_sem, c0, d0, faultN]
end Go.Proofs.YteieimchleioaaaDoor
/-
  parse's read of types.
-/
namespace Go.Proofs.YteieimchleioaaaDoor
open Go.ChangeShapes Go.WideShapes Go.ChangeAt Go.RowKit
set_option linter.unusedVariables false

set_option maxRecDepth 100000 in
set_option maxHeartbeats 4000000 in
theorem readA_any (s : ByteArray) (hs : s.size ≤ 65536) (w : World) (hr : ResT w) (hcode : ∀ (ts : List Tok) k i, typesR ts ps0 = .bad k i → k ≠ 0) : Calls Tryd.prog 29 #[.string s, .func (.func 30) #[] #[]] w (ReadPost VA (.slice none 0 0) w (readF typesR s.data.toList)) := by
 have hmf : ∀ (fn : Fn) (first cap : Array Value) (w : World), (Instr.makeFunc fn first cap).run Tryd.prog w = .ok (.func fn first cap) w := fun _ _ _ _ => rfl
 have hB2 : Below w.heap.size w (w.alloc (.cells #[.nilIface] 27)) := (Below.refl _ _).alloc (Nat.le_refl _) _
 have HC2 : Hid (Arr (w.alloc (.cells #[.nilIface] 27)) 27 w.heap.size [.nilIface]) := Arr.new' _ _ _ _ rfl
 have HR2 : Hid (ResT (w.alloc (.cells #[.nilIface] 27))) := hr.below hB2 hr.lt
 have HGR : Hid (0 < w.heap.size) := hr.lt
 have HLX := Lib.hid (lex_any s hs _ HR2.out)
 have HB2 := Lib.hid hB2
 have HCD := Lib.hid hcode
 obtain ⟨l, hl⟩ : ∃ l, l = s.data.toList := ⟨_, rfl⟩
 have HLS : Hid (l.length ≤ 65536) := by show _ ≤ _; rw [hl, Array.length_toList]; exact hs
 rw [← hl] at HLX ⊢
 clear hr hB2 hcode hl hs
 go_enter_defers Tryd.func29, Tryd.ntmps29
 go_wp2_with fail
 refine HLX.out.mono ?_
 rintro r w3 ⟨v, rfl, r3, b3⟩
 obtain ⟨q, c, rfl, hc⟩ := r3.form
 have HR3 : Hid (TokRow (w.heap.size + 1) 104 w3 (.slice q (tokS l).1.length c) (tokS l).1) := by
  have h := r3
  rw [show (w.alloc (.cells #[.nilIface] 27)).heap.size = w.heap.size + 1 from by simp] at h
  exact h
 have HB3 := Lib.hid (HB2.out.trans (b3.mono HB2.out.size))
 have HC3 := Lib.hid (HC2.out.later b3)
 have HS3 : Hid (ResT w3) := HR2.out.below b3 HR2.out.lt
 clear r3 b3 HC2 HR2 HB2 hc
 obtain ⟨e0, g0⟩ := HC3.out.all1
 by_cases h0 : (tokS l).2.1 = 0
 ·have HE0 := Lib.hid h0
  have HEF : Hid (errF (tokS l).2.1 (tokS l).2.2 = .nilIface) := by show _ = _; unfold errF; rw [if_pos h0]
  rw [HEF.out]
  have HOK : Hid (OkTs (tokS l).1) := tokF_ok _ _ _ (Nat.lt_succ_self _) h0
  have hb4 : Below w.heap.size w3 (w3.setCell ⟨w.heap.size, 0, none⟩ .nilIface) := (Below.refl _ _).setCell (p := ⟨w.heap.size, 0, none⟩) (Nat.le_refl _) _
  obtain ⟨tb, rfl, hpp⟩ := pp_new HOK.out (Nat.le_trans (tokS_len l) (by have := HLS.out; omega)) (HR3.out.box (g := w.heap.size) (by omega) 0 .nilIface) (HS3.out.below hb4 HGR.out)
  rw [show (w3.setCell ⟨w.heap.size, 0, none⟩ .nilIface).heap.size = w3.heap.size from by simp [World.setCell]] at hpp
  have HP5 := Lib.hid hpp
  have hb5 : Below (w3.setCell ⟨w.heap.size, 0, none⟩ .nilIface).heap.size (w3.setCell ⟨w.heap.size, 0, none⟩ .nilIface) ((w3.setCell ⟨w.heap.size, 0, none⟩ .nilIface).alloc (.cells #[.slice (some ⟨tb, 0, none⟩) (tokS l).1.length c, .int .i64 0, .int .i64 0, .int .i64 0] 101)) := (Below.refl _ _).alloc (Nat.le_refl _) _
  have HB5 : Hid (Below w.heap.size w ((w3.setCell ⟨w.heap.size, 0, none⟩ .nilIface).alloc (.cells #[.slice (some ⟨tb, 0, none⟩) (tokS l).1.length c, .int .i64 0, .int .i64 0, .int .i64 0] 101))) := (below_box HB3.out (Nat.le_refl _) 0 .nilIface).alloc (by simpa [World.setCell] using HB3.out.size) _
  have HC5 : Hid (Arr ((w3.setCell ⟨w.heap.size, 0, none⟩ .nilIface).alloc (.cells #[.slice (some ⟨tb, 0, none⟩) (tokS l).1.length c, .int .i64 0, .int .i64 0, .int .i64 0] 101)) 27 w.heap.size [.nilIface]) := (HC3.out.set 0 .nilIface).later hb5
  have HLP : Hid (w.heap.size + 1 ≤ w3.heap.size) := HC3.out.lt
  have HRU := Lib.hid (types_any HOK.out HP5.out (okTs_pos HOK.out))
  clear h0 hb4 hb5 hpp HC3 HS3 HR3 HB3
  go_wp2_with fail
  clear e0 g0
  generalize ((w3.setCell ⟨w.heap.size, 0, none⟩ .nilIface).alloc (.cells #[.slice (some ⟨tb, 0, none⟩) (tokS l).1.length c, .int .i64 0, .int .i64 0, .int .i64 0] 101)) = w5 at HP5 HB5 HC5 HRU ⊢
  have HL5 : Hid (w3.heap.size < w5.heap.size) := HP5.out.1.lt
  refine HRU.out.mono ?_
  rintro r w6 (⟨x, s6, v, e6, rfl, r6, p6, k6⟩ | ⟨k, i, e6, rfl, k6⟩)
  ·have HE6 := Lib.hid e6
   have HB6 := Lib.hid (HB5.out.trans (k6.below (B := w.heap.size) (by have := HLP.out; omega) HB5.out.size))
   have HC6 := Lib.hid (k6.arr HC5.out (by have := HLP.out; omega))
   have HP6 := Lib.hid p6
   have HS6 : Hid (s6.i < (tokS l).1.length) := (keeps_types HOK.out _ _ _ _ _ (okTs_pos HOK.out) e6).1
   have HV6 : Hid (VA w5.heap.size x w6 v) := AlRow.rd r6
   obtain ⟨q4, c4, rfl⟩ := r6.form
   have HNX := Lib.hid (next_any HP6.out HS6.out)
   have hfl := fieldT0
   obtain ⟨kd, hkd⟩ : ∃ kd, kd = ((tokS l).1.getD s6.i tok0).1 := ⟨_, rfl⟩
   rw [← hkd] at HNX
   clear e6 p6 k6 r6 HRU
   go_wp2_with fail
   refine HNX.out.mono ?_
   rintro r w7 ⟨rfl, b7⟩
   have HPz := Lib.hid (HP6.out.later b7)
   have HCz := Lib.hid (HC6.out.later b7)
   have HBz := Lib.hid (HB6.out.trans (b7.mono HB6.out.size))
   have HVz := Lib.hid (HV6.out.later b7)
   clear b7 HNX HP6 HC6 HB6 HV6
   by_cases h3 : kd = 3
   ·subst h3
    have HRE := Lib.hid (readF_ok HE0.out HE6.out hkd.symm)
    have HLT5 : Hid (w.heap.size < w5.heap.size) := by have := HLP.out; have := HL5.out; show _ < _; omega
    clear hkd
    obtain ⟨r0, t0⟩ := HCz.out.all1
    go_wp2_with fail
    refine (need_t 6).mono ?_
    rintro r w7 ⟨rfl, rfl⟩
    go_wp2_with fail
    clear r0 t0
    refine leaves_cons (f := 50) (args := #[.pointer (some ⟨w.heap.size, 0, none⟩)]) (by simp) (by simp [go_sem]) ?_
    refine (idleA ⟨w.heap.size, 0, none⟩ _).mono ?_
    rintro e u' w9 ⟨rfl, rfl, b9⟩
    have hC := (HCz.out.set 0 .nilIface).later b9
    have hB := (below_box HBz.out (g := w.heap.size) (Nat.le_refl _) 0 .nilIface)
    have hB9 := hB.trans (b9.mono hB.size)
    have hV := (HVz.out.kp ((Kp.of (pb := w.heap.size) (Below.refl _ _)).set 0 .nilIface) (HLT5.out)).later b9
    simp only [List.set_cons_zero] at hC
    have d0 := hC.cell 0
    simp only [List.getElem?_cons_zero] at d0
    clear hC hB b9
    refine ⟨.tuple #[.slice q4 x.length c4, .nilIface], ?_, hB9, .inl ⟨_, _, HRE.out, rfl, hV.low (Nat.le_of_lt HLT5.out)⟩⟩
    simp [results, Tryd.results29, go_sem, d0]
   ·have h3' : (kd == 3) = false := by simp [h3]
    have HRE := Lib.hid (readF_more HE0.out HE6.out (by rw [← hkd]; exact h3))
    clear h3 hkd
    go_wp2_with fail
    refine (need_f HPz.out HS6.out 6).mono ?_
    rintro r w8 ⟨rfl, b8⟩
    have HC8 := Lib.hid (HCz.out.later b8)
    have HB8 := Lib.hid (HBz.out.trans (b8.mono HBz.out.size))
    clear b8 h3'
    obtain ⟨hcz, hfz⟩ := HC8.out.all1
    refine leaves_cons (f := 50) (args := #[.pointer (some ⟨w.heap.size, 0, none⟩)]) (by simp) (by simp [go_sem]) ?_
    refine (catchA ⟨w.heap.size, 0, none⟩ _ 6 (offs (tokS l).1 s6.i) [] w8 hcz hfz).mono ?_
    rintro e u' w'' ⟨rfl, rfl, rfl⟩
    have hb9 : Below w8.heap.size w8 (w8.alloc (.cells #[.int .i64 (6 : Nat), .int .i64 (offs (tokS l).1 s6.i)] 98)) := (Below.refl _ _).alloc (Nat.le_refl _) _
    have hC := (HC8.out.later hb9).set 0 (flt 6 (offs (tokS l).1 s6.i))
    have hB := below_box (HB8.out.trans (hb9.mono HB8.out.size)) (g := w.heap.size) (Nat.le_refl _) 0 (flt 6 (offs (tokS l).1 s6.i))
    simp only [List.set_cons_zero] at hC
    generalize (w8.alloc (.cells #[.int .i64 (6 : Nat), .int .i64 (offs (tokS l).1 s6.i)] 98)).setCell ⟨w.heap.size, 0, none⟩ (flt 6 (offs (tokS l).1 s6.i)) = w9 at hC hB ⊢
    rw [flt_fault] at hC
    have d0 := hC.cell 0
    simp only [List.getElem?_cons_zero] at d0
    clear hC hcz hfz hb9
    refine ⟨.tuple #[.slice none 0 0, faultN 6 (offT (tokS l).1 s6.i)], ?_, hB, .inr ⟨6, offT (tokS l).1 s6.i, by decide, HRE.out, rfl⟩⟩
    simp [results, Tryd.results29, go_sem, d0]
  ·have HRE := Lib.hid (readF_bad HE0.out e6)
   have HKN := Lib.hid (HCD.out _ _ _ e6)
   have HB6 := Lib.hid (HB5.out.trans (k6.below (B := w.heap.size) (by have := HLP.out; omega) HB5.out.size))
   have HC6 := Lib.hid (k6.arr HC5.out (by have := HLP.out; omega))
   clear e6 k6 HRU
   obtain ⟨hcz, hfz⟩ := HC6.out.all1
   refine leaves_cons (f := 50) (args := #[.pointer (some ⟨w.heap.size, 0, none⟩)]) (by simp) (by simp [go_sem]) ?_
   refine (catchA ⟨w.heap.size, 0, none⟩ _ k (offs (tokS l).1 i) [] w6 hcz hfz).mono ?_
   rintro e u' w'' ⟨rfl, rfl, rfl⟩
   have hb9 : Below w6.heap.size w6 (w6.alloc (.cells #[.int .i64 (k : Nat), .int .i64 (offs (tokS l).1 i)] 98)) := (Below.refl _ _).alloc (Nat.le_refl _) _
   have hC := (HC6.out.later hb9).set 0 (flt k (offs (tokS l).1 i))
   have hB := below_box (HB6.out.trans (hb9.mono HB6.out.size)) (g := w.heap.size) (Nat.le_refl _) 0 (flt k (offs (tokS l).1 i))
   simp only [List.set_cons_zero] at hC
   generalize (w6.alloc (.cells #[.int .i64 (k : Nat), .int .i64 (offs (tokS l).1 i)] 98)).setCell ⟨w.heap.size, 0, none⟩ (flt k (offs (tokS l).1 i)) = w9 at hC hB ⊢
   rw [flt_fault] at hC
   have d0 := hC.cell 0
   simp only [List.getElem?_cons_zero] at d0
   clear hC hcz hfz hb9
   refine ⟨.tuple #[.slice none 0 0, faultN k (offT (tokS l).1 i)], ?_, hB, .inr ⟨k, offT (tokS l).1 i, HKN.out, HRE.out, rfl⟩⟩
   simp [results, Tryd.results29, go_sem, d0]
 ·have HEF : Hid (errF (tokS l).2.1 (tokS l).2.2 = faultN (tokS l).2.1 (tokS l).2.2) := by show _ = _; unfold errF; rw [if_neg h0]
  have HRE := Lib.hid (readF_lex (rule := typesR) h0)
  rw [HEF.out]
  unfold faultN
  go_upto_region 3 with (fail)
  clear e0 g0
  have HC4 : Hid (Arr (w3.setCell ⟨w.heap.size, 0, none⟩ (.iface 98 (.agg #[.int .i64 ((tokS l).2.1 : Nat), .int .i64 ((tokS l).2.2 : Nat)]))) 27 w.heap.size [.iface 98 (.agg #[.int .i64 ((tokS l).2.1 : Nat), .int .i64 ((tokS l).2.2 : Nat)])]) := HC3.out.set 0 _
  have HB4 := Lib.hid (below_box HB3.out (g := w.heap.size) (Nat.le_refl _) 0 (.iface 98 (.agg #[.int .i64 ((tokS l).2.1 : Nat), .int .i64 ((tokS l).2.2 : Nat)])))
  generalize w3.setCell ⟨w.heap.size, 0, none⟩ (.iface 98 (.agg #[.int .i64 ((tokS l).2.1 : Nat), .int .i64 ((tokS l).2.2 : Nat)])) = w4 at HC4 HB4 ⊢
  clear HC3 HB3 HS3 HR3
  refine wp_region_noPanic ?_
  refine wp_region_held_drew (S := fun W' => Arr W' 27 w.heap.size [.iface 98 (.agg #[.int .i64 ((tokS l).2.1 : Nat), .int .i64 ((tokS l).2.2 : Nat)])] ∧ Below w.heap.size w W') (by kernel_rfl) ⟨HC4.out.drew, HB4.out.drew⟩ (fun hHeld => ?_)
  try simp only [Act.put]
  generalize w4.drew = w5 at hHeld ⊢
  clear HC4 HB4
  refine wpAnyH_take (i := 0) (oi := ⟨some 16, _, _, _, _, _⟩) (v := .slice none 0 0) rfl (by kernel_rfl) (by kernel_rfl) (by kernel_rfl) (fun _ _ _ h => h) (.inl ⟨by rfl, fun w' hSw => ?_⟩) hHeld ?_
  focus (skip; clear hHeld; go_simp)
  try simp only [Act.put, List.setIfInBounds_toArray, List.set_cons_zero, List.set_cons_succ]
  refine wpAnyH_take (i := 1) (oi := ⟨some 17, _, _, _, _, _⟩) (v := .iface 98 (.agg #[.int .i64 ((tokS l).2.1 : Nat), .int .i64 ((tokS l).2.2 : Nat)])) rfl (by kernel_rfl) (by kernel_rfl) (by kernel_rfl) (fun _ _ _ h => h) (.inl ⟨by rfl, fun w' hSw => ?_⟩) hHeld ?_
  focus (have q := hSw.1.cell 0; simp only [List.getElem?_cons_zero] at q; clear hHeld; go_simp)
  try simp only [Act.put, List.setIfInBounds_toArray, List.set_cons_zero, List.set_cons_succ]
  refine wpAnyH_take (i := 2) (oi := ⟨some 4, _, _, _, _, _⟩) (v := .slice none 0 0) rfl (by kernel_rfl) (by kernel_rfl) (by kernel_rfl) (fun _ _ _ h => h) (.inl ⟨by rfl, fun w' hSw => ?_⟩) hHeld ?_
  focus (skip; clear hHeld; go_simp)
  try simp only [Act.put, List.setIfInBounds_toArray, List.set_cons_zero, List.set_cons_succ]
  refine wpAnyH_ready (rs := [3]) (by kernel_rfl) (by simp) ?_
  refine AllReadyH.cons (o := ⟨none, _, _, _, _, _⟩) rfl (fun K' hK' => ?_) AllReadyH.nil
  have x0 := hHeld.1.cell 0
  have y0 := hHeld.1.free 0
  simp only [List.getElem?_cons_zero] at x0
  have hkn := And.intro (hHeld.1.set 0 (.iface 98 (.agg #[.int .i64 ((tokS l).2.1 : Nat), .int .i64 ((tokS l).2.2 : Nat)]))) (below_box hHeld.2 (g := w.heap.size) (Nat.le_refl _) 0 (.iface 98 (.agg #[.int .i64 ((tokS l).2.1 : Nat), .int .i64 ((tokS l).2.2 : Nat)])))
  simp only [List.set_cons_zero] at hkn
  clear hHeld
  go_simp
  clear x0 y0
  refine hK'.out _ _ hkn (fun hHeld => ?_)
  clear hK' K' hkn
  try simp only [Act.put, List.setIfInBounds_toArray, List.set_cons_zero, List.set_cons_succ]
  generalize w5.setCell ⟨w.heap.size, 0, none⟩ (.iface 98 (.agg #[.int .i64 ((tokS l).2.1 : Nat), .int .i64 ((tokS l).2.2 : Nat)])) = w7 at hHeld ⊢
  refine wpAnyH_done (by kernel_rfl) ?_ _
  refine NoPanic.normal ?_
  obtain ⟨hC, hB⟩ := hHeld
  go_wp2_with fail
  have d0 := hC.cell 0
  simp only [List.getElem?_cons_zero] at d0
  clear hC
  refine ⟨.tuple #[.slice none 0 0, faultN (tokS l).2.1 (tokS l).2.2], ?_, hB, .inr ⟨(tokS l).2.1, (tokS l).2.2, h0, HRE.out, rfl⟩⟩
  simp [results, Tryd.results29, go_sem, d0, faultN]
/-! ### the codes of the rules -/
theorem name_code {ts : List Tok} {s : PS} {k i : Nat} (h : nameF ts s = .bad k i) : k ≠ 0 := by
 unfold nameF at h
 split at h
 ·cases h
 ·cases h; decide
theorem want_code {ts : List Tok} {t : List UInt8} {s : PS} {k i : Nat} (h : wantF ts t s = .bad k i) : k ≠ 0 := by
 unfold wantF at h
 split at h
 ·cases h
 ·cases h; decide
theorem then_code {α β : Type} {r : PR α} {f : α → PS → PR β} {k i : Nat} (h : r.then f = .bad k i) (h1 : ∀ k i, r = .bad k i → k ≠ 0) (h2 : ∀ x s k i, r = .ok x s → f x s = .bad k i → k ≠ 0) : k ≠ 0 := by
 cases r with
 | ok x s => exact h2 x s k i rfl h
 | bad k' i' =>
  rw [PR.then_bad] at h
  cases h
  exact h1 k i rfl
theorem allowed_code {ts : List Tok} {s : PS} {k i : Nat} (h : allowedF ts s = .bad k i) : k ≠ 0 := by
 unfold allowedF at h
 refine then_code h (fun k i e => name_code e) fun x s1 k i _ h => ?_
 split at h
 ·exact then_code h (fun k i e => name_code e) fun x s2 k i _ h => by cases h
 ·cases h
theorem types_code {ts : List Tok} : ∀ (n : Nat) (acc : List AlB) (s : PS) (k i : Nat), typesF ts n acc s = .bad k i → k ≠ 0
 | 0, acc, s, k, i, h => by unfold typesF at h; cases h
 | n + 1, acc, s, k, i, h => by
  unfold typesF at h
  split at h
  ·cases h; decide
  ·cases he : allowedF ts s with
   | ok x s1 =>
    rw [he, PR.then_ok] at h
    split at h
    ·exact types_code n _ _ k i h
    ·cases h
   | bad k1 i1 =>
    rw [he, PR.then_bad] at h
    cases h
    exact allowed_code he
theorem typesR_code (ts : List Tok) (k i : Nat) (h : typesR ts ps0 = .bad k i) : k ≠ 0 := types_code 33 [] ps0 k i h
theorem unitW_code {ts : List Tok} {U : Option (PS → PR Ex)} (hU : ∀ u, U = some u → ∀ s k i, u s = .bad k i → k ≠ 0) (s : PS) (k i : Nat) (h : unitW ts U s = .bad k i) : k ≠ 0 := by
 unfold unitW at h
 split at h
 ·cases U with
  | none => cases h; decide
  | some u => exact then_code h (hU u rfl _) fun x s1 k i _ h => then_code h (fun k i e => want_code e) fun y s2 k i _ h => by cases h
 ·split at h
  ·split at h
   ·split at h
    ·exact then_code h (fun k i e => name_code e) fun x s1 k i _ h => by cases h
    ·cases h
   ·cases h; decide
  ·cases h; decide
theorem loopW_code {ts : List Tok} {U : PS → PR Ex} (hU : ∀ s k i, U s = .bad k i → k ≠ 0) (sg : List UInt8) : ∀ (n : Nat) (acc : List Ex) (s : PS) (k i : Nat), loopW ts U sg n acc s = .bad k i → k ≠ 0
 | 0, acc, s, k, i, h => by unfold loopW at h; cases h
 | n + 1, acc, s, k, i, h => by
  unfold loopW at h
  split at h
  ·refine then_code h (hU _) fun x s1 k i _ h => ?_
   split at h
   ·cases h
   ·exact loopW_code hU sg n _ _ k i h
  ·cases h
theorem unitsW_code {ts : List Tok} {U : PS → PR Ex} (hU : ∀ s k i, U s = .bad k i → k ≠ 0) (s : PS) (k i : Nat) (h : unitsW ts U s = .bad k i) : k ≠ 0 := by
 unfold unitsW at h
 refine then_code h (hU _) fun x s1 k i _ h => ?_
 split at h
 ·cases h
 ·exact then_code h (loopW_code hU _ _ _ _) fun x s2 k i _ h => by cases h
theorem units_code {ts : List Tok} : ∀ (d : Nat) (s : PS) (k i : Nat), unitsF ts d s = .bad k i → k ≠ 0
 | 0, s, k, i, h => unitsW_code (unitW_code fun u e => by cases e) s k i h
 | d + 1, s, k, i, h => unitsW_code (unitW_code fun u e => by cases e; exact units_code d) s k i h
theorem expr_code (ts : List Tok) (s : PS) (k i : Nat) (h : exprF ts s = .bad k i) : k ≠ 0 := units_code 14 _ k i h
theorem member_code {ts : List Tok} {s : PS} {k i : Nat} (h : memberF ts s = .bad k i) : k ≠ 0 := by
 by_cases hr : txt ts s.i = wRelB
 ·rw [memberF_rel hr] at h
  exact then_code h (fun k i e => name_code e) fun _ _ k i _ h => then_code h (fun k i e => want_code e) fun _ _ k i _ h => then_code h (fun k i e => types_code _ _ _ _ _ e) fun _ _ k i _ h => then_code h (fun k i e => want_code e) fun _ _ k i _ h => by cases h
 ·rw [memberF_perm hr] at h
  exact then_code h (fun k i e => want_code e) fun _ _ k i _ h => then_code h (fun k i e => name_code e) fun _ _ k i _ h => then_code h (fun k i e => want_code e) fun _ _ k i _ h => then_code h (fun k i e => expr_code _ _ _ _ e) fun _ _ k i _ h => then_code h (fun k i e => want_code e) fun _ _ k i _ h => by cases h
theorem members_code {ts : List Tok} : ∀ (n : Nat) (acc : List MemB) (s : PS) (k i : Nat), membersF ts n acc s = .bad k i → k ≠ 0
 | 0, acc, s, k, i, h => by rw [membersF] at h; cases h
 | n + 1, acc, s, k, i, h => by
  rw [membersF] at h
  split at h
  ·split at h
   ·exact then_code h (fun k i e => member_code e) fun _ _ k i _ h => members_code n _ _ k i h
   ·cases h; decide
  ·cases h
theorem def_code {ts : List Tok} {s : PS} {k i : Nat} (h : defF ts s = .bad k i) : k ≠ 0 := by
 unfold defF at h
 exact then_code h (fun k i e => want_code e) fun _ _ k i _ h => then_code h (fun k i e => name_code e) fun _ _ k i _ h => then_code h (fun k i e => want_code e) fun _ _ k i _ h => then_code h (fun k i e => members_code _ _ _ _ _ e) fun _ _ k i _ h => then_code h (fun k i e => want_code e) fun _ _ k i _ h => by cases h
theorem defs_code {ts : List Tok} : ∀ (n : Nat) (acc : List DefB) (s : PS) (k i : Nat), defsF ts n acc s = .bad k i → k ≠ 0
 | 0, acc, s, k, i, h => by rw [defsF] at h; cases h
 | n + 1, acc, s, k, i, h => by
  rw [defsF] at h
  split at h
  ·split at h
   ·exact then_code h (fun k i e => def_code e) fun _ _ k i _ h => defs_code n _ _ k i h
   ·cases h; decide
  ·cases h
theorem schemaR_code (ts : List Tok) (k i : Nat) (h : schemaR ts ps0 = .bad k i) : k ≠ 0 := defs_code 65 [] ps0 k i h
set_option maxRecDepth 100000 in
set_option maxHeartbeats 2000000 in
theorem parseE_any (s : ByteArray) (hs : s.size ≤ 65536) (w : World) (hr : ResT w) : Calls Tryd.prog 8 #[.string s] w (ReadPost VE (.agg #[.int .i64 0, .string ⟨#[]⟩, .string ⟨#[]⟩, .slice none 0 0]) w (readF exprF s.data.toList)) := by
 have hb1 : Below w.heap.size w (w.alloc (.cells #[.int .i64 0, .string ⟨#[]⟩, .string ⟨#[]⟩, .slice none 0 0] 25)) := (Below.refl _ _).alloc (Nat.le_refl _) _
 have HA1 : Hid (Arr (w.alloc (.cells #[.int .i64 0, .string ⟨#[]⟩, .string ⟨#[]⟩, .slice none 0 0] 25)) 25 w.heap.size [.int .i64 0, .string ⟨#[]⟩, .string ⟨#[]⟩, .slice none 0 0]) := Arr.new' _ _ _ _ rfl
 have HR := Lib.hid (readE_any s hs (w.alloc (.cells #[.int .i64 0, .string ⟨#[]⟩, .string ⟨#[]⟩, .slice none 0 0] 25)) (hr.below hb1 hr.lt) (fun ts k i h => expr_code ts ps0 k i h))
 have HB1 := Lib.hid hb1
 have HSZ : Hid ((w.alloc (.cells #[.int .i64 0, .string ⟨#[]⟩, .string ⟨#[]⟩, .slice none 0 0] 25)).heap.size = w.heap.size + 1) := by show _ = _; simp
 clear hr hb1 hs
 go_enter Tryd.func8, Tryd.ntmps8
 go_wp2_with fail
 refine HR.out.mono ?_
 rintro r w2 ⟨b2, (⟨x, v, e, rfl, hv⟩ | ⟨k, i, hk, e, rfl⟩)⟩
 ·have HE := Lib.hid e
  have HA2 := Lib.hid (HA1.out.later b2)
  have HB2 := Lib.hid (HB1.out.trans (b2.mono HB1.out.size))
  obtain ⟨mk, mv, mn, ms⟩ := x
  have HV : Hid (VE (w.heap.size + 1) (.mk mk mv mn ms) w2 v) := HSZ.out ▸ hv
  obtain ⟨q4, c4, rfl⟩ := VE.form hv
  clear hv
  clear e b2 HR
  obtain ⟨x0, y0, x1, y1, x2, y2, x3, y3⟩ := HA2.out.all4
  go_wp2_with fail
  have hA := ((((HA2.out.set 0 (.int .i64 mk)).set 1 (.string (bstr mv))).set 2 (.string (bstr mn))).set 3 (.slice q4 ms.length c4))
  simp only [List.set_cons_zero, List.set_cons_succ] at hA
  have hkp := (((((Kp.of (pb := w.heap.size) (Below.refl w2.heap.size w2)).set 0 (.int .i64 mk)).set 1 (.string (bstr mv))).set 2 (.string (bstr mn))).set 3 (.slice q4 ms.length c4))
  have hB := (below_box (below_box (below_box (below_box HB2.out (Nat.le_refl _) 0 (.int .i64 mk)) (Nat.le_refl _) 1 (.string (bstr mv))) (Nat.le_refl _) 2 (.string (bstr mn))) (Nat.le_refl _) 3 (.slice q4 ms.length c4))
  have c0 := hA.cell 0
  have c1 := hA.cell 1
  have c2 := hA.cell 2
  have c3 := hA.cell 3
  simp only [List.getElem?_cons_zero, List.getElem?_cons_succ] at c0 c1 c2 c3
  refine bodyPost_ret (v := .tuple #[.agg #[.int .i64 mk, .string (bstr mv), .string (bstr mn), .slice q4 ms.length c4], .nilIface]) ?_ rfl ⟨hB, .inl ⟨_, _, HE.out, rfl, (HV.out.kp hkp (Nat.lt_succ_self _)).low (Nat.le_succ _)⟩⟩
  simp [results, Tryd.results8, go_sem, c0, c1, c2, c3]
 ·have HE := Lib.hid e
  have HK := Lib.hid hk
  have HA2 := Lib.hid (HA1.out.later b2)
  have HB2 := Lib.hid (HB1.out.trans (b2.mono HB1.out.size))
  clear e b2 HR hk
  obtain ⟨x0, y0, x1, y1, x2, y2, x3, y3⟩ := HA2.out.all4
  go_wp2_with fail
  have hA := ((((HA2.out.set 0 (.int .i64 0)).set 1 (.string ⟨#[]⟩)).set 2 (.string ⟨#[]⟩)).set 3 (.slice none 0 0))
  simp only [List.set_cons_zero, List.set_cons_succ] at hA
  have hkp := (((((Kp.of (pb := w.heap.size) (Below.refl w2.heap.size w2)).set 0 (.int .i64 0)).set 1 (.string ⟨#[]⟩)).set 2 (.string ⟨#[]⟩)).set 3 (.slice none 0 0))
  have hB := (below_box (below_box (below_box (below_box HB2.out (Nat.le_refl _) 0 (.int .i64 0)) (Nat.le_refl _) 1 (.string ⟨#[]⟩)) (Nat.le_refl _) 2 (.string ⟨#[]⟩)) (Nat.le_refl _) 3 (.slice none 0 0))
  have c0 := hA.cell 0
  have c1 := hA.cell 1
  have c2 := hA.cell 2
  have c3 := hA.cell 3
  simp only [List.getElem?_cons_zero, List.getElem?_cons_succ] at c0 c1 c2 c3
  refine bodyPost_ret (v := .tuple #[.agg #[.int .i64 0, .string ⟨#[]⟩, .string ⟨#[]⟩, .slice none 0 0], faultN k i]) ?_ rfl ⟨hB, .inr ⟨k, i, HK.out, HE.out, rfl⟩⟩
  simp [results, Tryd.results8, go_sem, c0, c1, c2, c3]
set_option maxRecDepth 100000 in
set_option maxHeartbeats 2000000 in
theorem parseA_any (s : ByteArray) (hs : s.size ≤ 65536) (w : World) (hr : ResT w) : Calls Tryd.prog 13 #[.string s] w (ReadPost VA (.slice none 0 0) w (readF typesR s.data.toList)) := by
 have HR := Lib.hid (readA_any s hs w hr typesR_code)
 clear hr hs
 go_enter Tryd.func13, Tryd.ntmps13
 go_wp2_with fail
 refine HR.out.mono ?_
 rintro r w2 ⟨b2, h⟩
 have HB2 := Lib.hid b2
 rcases h with (⟨x, v, e, rfl, hv⟩ | ⟨k, i, hk, e, rfl⟩)
 ·have HE := Lib.hid e
  have HV := Lib.hid hv
  clear e hv b2 HR
  go_wp2_with fail
  exact bodyPost_ret (results_tmp2 rfl _ _ _) rfl ⟨HB2.out, .inl ⟨_, _, HE.out, rfl, HV.out⟩⟩
 ·have HE := Lib.hid e
  have HK := Lib.hid hk
  clear e hk b2 HR
  go_wp2_with fail
  exact bodyPost_ret (results_tmp2 rfl _ _ _) rfl ⟨HB2.out, .inr ⟨k, i, HK.out, HE.out, rfl⟩⟩
set_option maxRecDepth 100000 in
set_option maxHeartbeats 2000000 in
theorem parseS_any (s : ByteArray) (hs : s.size ≤ 65536) (w : World) (hr : ResT w) : Calls Tryd.prog 16 #[.string s] w (ReadPost VS (.agg #[.slice none 0 0]) w (readF schemaR s.data.toList)) := by
 have hb1 : Below w.heap.size w (w.alloc (.cells #[.slice none 0 0] 49)) := (Below.refl _ _).alloc (Nat.le_refl _) _
 have HA1 : Hid (Arr (w.alloc (.cells #[.slice none 0 0] 49)) 49 w.heap.size [.slice none 0 0]) := Arr.new' _ _ _ _ rfl
 have HR := Lib.hid (readS_any s hs (w.alloc (.cells #[.slice none 0 0] 49)) (hr.below hb1 hr.lt) schemaR_code)
 have HB1 := Lib.hid hb1
 have HSZ : Hid ((w.alloc (.cells #[.slice none 0 0] 49)).heap.size = w.heap.size + 1) := by show _ = _; simp
 clear hr hb1 hs
 go_enter Tryd.func16, Tryd.ntmps16
 go_wp2_with fail
 refine HR.out.mono ?_
 rintro r w2 ⟨b2, (⟨x, v, e, rfl, hv⟩ | ⟨k, i, hk, e, rfl⟩)⟩
 ·have HE := Lib.hid e
  have HA2 := Lib.hid (HA1.out.later b2)
  have HB2 := Lib.hid (HB1.out.trans (b2.mono HB1.out.size))
  have HV : Hid (VS (w.heap.size + 1) x w2 v) := HSZ.out ▸ hv
  obtain ⟨q4, c4, rfl, _⟩ := VS.form hv
  clear hv
  clear e b2 HR
  obtain ⟨x0, y0⟩ := HA2.out.all1
  go_wp2_with fail
  have hA := (HA2.out.set 0 (.slice q4 x.length c4))
  simp only [List.set_cons_zero] at hA
  have hkp := ((Kp.of (pb := w.heap.size) (Below.refl w2.heap.size w2)).set 0 (.slice q4 x.length c4))
  have hB := (below_box HB2.out (Nat.le_refl _) 0 (.slice q4 x.length c4))
  have c0 := hA.cell 0
  simp only [List.getElem?_cons_zero] at c0
  refine bodyPost_ret (v := .tuple #[.agg #[.slice q4 x.length c4], .nilIface]) ?_ rfl ⟨hB, .inl ⟨_, _, HE.out, rfl, (HV.out.kp hkp (Nat.lt_succ_self _)).low (Nat.le_succ _)⟩⟩
  simp [results, Tryd.results16, go_sem, c0]
 ·have HE := Lib.hid e
  have HK := Lib.hid hk
  have HA2 := Lib.hid (HA1.out.later b2)
  have HB2 := Lib.hid (HB1.out.trans (b2.mono HB1.out.size))
  clear e b2 HR hk
  obtain ⟨x0, y0⟩ := HA2.out.all1
  go_wp2_with fail
  have hA := (HA2.out.set 0 (.slice none 0 0))
  simp only [List.set_cons_zero] at hA
  have hkp := ((Kp.of (pb := w.heap.size) (Below.refl w2.heap.size w2)).set 0 (.slice none 0 0))
  have hB := (below_box HB2.out (Nat.le_refl _) 0 (.slice none 0 0))
  have c0 := hA.cell 0
  simp only [List.getElem?_cons_zero] at c0
  refine bodyPost_ret (v := .tuple #[.agg #[.slice none 0 0], faultN k i]) ?_ rfl ⟨hB, .inr ⟨k, i, HK.out, HE.out, rfl⟩⟩
  simp [results, Tryd.results16, go_sem, c0]
end Go.Proofs.YteieimchleioaaaDoor
/-
  expr.Compare, Same.
-/
namespace Go.Proofs.YteieimchleioaaaDoor
open Go.ChangeShapes Go.WideShapes Go.ChangeAt Go.RowKit
set_option linter.unusedVariables false

theorem orL4 (a b c d : Int) : orL [a, b, c, d] = if orL [a, b, c] = 0 then d else orL [a, b, c] := by
 by_cases ha : a = 0
 ·by_cases hb : b = 0
  ·by_cases hc : c = 0
   ·by_cases hd : d = 0 <;> simp [orL, ha, hb, hc, hd]
   ·simp [orL, ha, hb, hc]
  ·simp [orL, ha, hb]
 ·simp [orL, ha]
end Go.Proofs.YteieimchleioaaaDoor
/-
  The order of strings; vestryref08.Order.
-/
namespace Go.Proofs.YteieimchleioaaaDoor
open Go.ChangeShapes Go.WideShapes Go.ChangeAt Go.RowKit
set_option linter.unusedVariables false

theorem cb_flip : ∀ (a b : List UInt8), Lib.compareBytes b a = - Lib.compareBytes a b
 | [], [] => rfl
 | [], _ :: _ => rfl
 | _ :: _, [] => rfl
 | a :: xs, b :: bs => by
  unfold Lib.compareBytes
  by_cases h : a < b
  ·have h2 : ¬ b < a := by rw [UInt8.lt_iff_toNat_lt] at *; omega
   rw [if_pos h, if_neg h2, if_pos h]; rfl
  ·by_cases h2 : b < a
   ·rw [if_pos h2, if_neg h, if_pos h2]
   ·rw [if_neg h, if_neg h2, if_neg h2, if_neg h]; exact cb_flip xs bs
theorem cb_eq : ∀ (a b : List UInt8), Lib.compareBytes a b = 0 → a = b
 | [], [], _ => rfl
 | [], _ :: _, h => by simp [Lib.compareBytes] at h
 | _ :: _, [], h => by simp [Lib.compareBytes] at h
 | a :: xs, b :: bs, h => by
  unfold Lib.compareBytes at h
  by_cases h1 : a < b
  ·rw [if_pos h1] at h; cases h
  ·by_cases h2 : b < a
   ·rw [if_neg h1, if_pos h2] at h; cases h
   ·rw [if_neg h1, if_neg h2] at h
    have e : a = b := by
     apply UInt8.toNat_inj.1
     rw [UInt8.lt_iff_toNat_lt] at *; omega
    rw [e, cb_eq xs bs h]
theorem cb_self : ∀ (a : List UInt8), Lib.compareBytes a a = 0
 | [] => rfl
 | a :: xs => by
  unfold Lib.compareBytes
  have h2 : ¬ a < a := by rw [UInt8.lt_iff_toNat_lt]; omega
  rw [if_neg h2, if_neg h2]; exact cb_self xs
theorem cb_three : ∀ (a b : List UInt8), Lib.compareBytes a b = -1 ∨ Lib.compareBytes a b = 0 ∨ Lib.compareBytes a b = 1
 | [], [] => .inr (.inl rfl)
 | [], _ :: _ => .inl rfl
 | _ :: _, [] => .inr (.inr rfl)
 | a :: xs, b :: bs => by
  unfold Lib.compareBytes
  by_cases h1 : a < b
  ·rw [if_pos h1]; exact .inl rfl
  ·by_cases h2 : b < a
   ·rw [if_neg h1, if_pos h2]; exact .inr (.inr rfl)
   ·rw [if_neg h1, if_neg h2]; exact cb_three xs bs
/-- Going up twice goes up. -/
theorem cb_up : ∀ (a b c : List UInt8), Lib.compareBytes a b < 0 → Lib.compareBytes b c < 0 → Lib.compareBytes a c < 0
 | _, [], [], _, h => by simp [Lib.compareBytes] at h
 | [], [], _ :: _, h, _ => by simp [Lib.compareBytes] at h
 | _ :: _, [], _ :: _, h, _ => by simp [Lib.compareBytes] at h
 | _, _ :: _, [], _, h => by simp [Lib.compareBytes] at h
 | [], _ :: _, _ :: _, _, _ => by simp [Lib.compareBytes]
 | a :: xs, b :: bs, c :: cs, h1, h2 => by
  unfold Lib.compareBytes at h1 h2 ⊢
  by_cases x1 : a < b
  ·by_cases x2 : b < c
   ·rw [if_pos (by rw [UInt8.lt_iff_toNat_lt] at *; omega)]; decide
   ·by_cases x3 : c < b
    ·rw [if_neg x2, if_pos x3] at h2; exact absurd h2 (by decide)
    ·rw [if_pos (by rw [UInt8.lt_iff_toNat_lt] at *; omega)]; decide
  ·by_cases y1 : b < a
   ·rw [if_neg x1, if_pos y1] at h1; exact absurd h1 (by decide)
   ·rw [if_neg x1, if_neg y1] at h1
    by_cases x2 : b < c
    ·rw [if_pos (by rw [UInt8.lt_iff_toNat_lt] at *; omega)]; decide
    ·by_cases x3 : c < b
     ·rw [if_neg x2, if_pos x3] at h2; exact absurd h2 (by decide)
     ·rw [if_neg x2, if_neg x3] at h2
      have e1 : ¬ a < c := by rw [UInt8.lt_iff_toNat_lt] at *; omega
      have e2 : ¬ c < a := by rw [UInt8.lt_iff_toNat_lt] at *; omega
      rw [if_neg e1, if_neg e2]
      exact cb_up xs bs cs h1 h2

def ord (a b : ByteArray) : Int := Lib.compareBytes a.data.toList b.data.toList
def ord2 (t r u q : ByteArray) : Int := if ord t u = 0 then ord r q else ord t u
theorem ord_three (a b : ByteArray) : ord a b = -1 ∨ ord a b = 0 ∨ ord a b = 1 := cb_three _ _
theorem ord_flip (a b : ByteArray) : ord b a = - ord a b := cb_flip _ _
theorem ord_eq {a b : ByteArray} (h : ord a b = 0) : a = b := bytes_inj (cb_eq _ _ h)
theorem ord_self (a : ByteArray) : ord a a = 0 := cb_self _
theorem ord2_three (t r u q : ByteArray) : ord2 t r u q = -1 ∨ ord2 t r u q = 0 ∨ ord2 t r u q = 1 := by
 unfold ord2; split
 ·exact ord_three _ _
 ·exact ord_three _ _
theorem ord2_flip (t r u q : ByteArray) : ord2 u q t r = - ord2 t r u q := by
 unfold ord2
 rw [ord_flip t u, ord_flip r q]
 by_cases h : ord t u = 0
 ·rw [if_pos h, if_pos (by omega)]
 ·rw [if_neg h, if_neg (by omega)]
theorem ord2_zero (t r u q : ByteArray) : ord2 t r u q = 0 ↔ t = u ∧ r = q := by
 unfold ord2
 constructor
 ·intro h
  by_cases h1 : ord t u = 0
  ·rw [if_pos h1] at h; exact ⟨ord_eq h1, ord_eq h⟩
  ·rw [if_neg h1] at h; exact absurd h h1
 ·rintro ⟨rfl, rfl⟩
  rw [if_pos (ord_self _)]; exact ord_self _
theorem ord_up {a b c : ByteArray} (h1 : ord a b < 0) (h2 : ord b c < 0) : ord a c < 0 := cb_up _ _ _ h1 h2
theorem ord2_le (t r u q v p : ByteArray) (h1 : ¬ 0 < ord2 t r u q) (h2 : ¬ 0 < ord2 u q v p) : ord2 t r v p ≤ 0 := by
 unfold ord2 at *
 by_cases x : ord t u = 0
 ·rw [if_pos x] at h1
  obtain rfl := ord_eq x
  by_cases y : ord t v = 0
  ·rw [if_pos y] at h2 ⊢
   by_cases z : ord r q = 0
   ·obtain rfl := ord_eq z; omega
   ·by_cases z2 : ord q p = 0
    ·obtain rfl := ord_eq z2; omega
    ·have := ord_up (a := r) (b := q) (c := p) (by omega) (by omega); omega
  ·rw [if_neg y] at h2 ⊢; omega
 ·rw [if_neg x] at h1
  by_cases y : ord u v = 0
  ·obtain rfl := ord_eq y
   rw [if_neg x]; omega
  ·rw [if_neg y] at h2
   have := ord_up (a := t) (b := u) (c := v) (by omega) (by omega)
   rw [if_neg (by omega)]; omega

theorem cb_drop (a b : List UInt8) : ∀ (k : Nat), k ≤ a.length → k ≤ b.length → (∀ j, (h1 : j < a.length) → (h2 : j < b.length) → j < k → a[j] = b[j]) → Lib.compareBytes a b = Lib.compareBytes (a.drop k) (b.drop k)
 | 0, _, _, _ => by simp
 | k + 1, h1, h2, h => by
  rw [cb_drop a b k (by omega) (by omega) (fun j x y z => h j x y (by omega))]
  rw [List.drop_eq_getElem_cons (i := k) (l := a) (by omega), List.drop_eq_getElem_cons (i := k) (l := b) (by omega)]
  have e := h k (by omega) (by omega) (by omega)
  rw [e, Lib.compareBytes]
  have h2 : ¬ b[k] < b[k] := by rw [UInt8.lt_iff_toNat_lt]; omega
  rw [if_neg h2, if_neg h2]
theorem ord_lt {a b : ByteArray} {k : Nat} (h : ∀ j, (h1 : j < a.size) → (h2 : j < b.size) → j < k → a[j] = b[j]) (ha : k < a.size) (hb : k < b.size) (hl : a[k] < b[k]) : ord a b = -1 := by
 have la : a.data.toList.length = a.size := by rw [Array.length_toList]; rfl
 have lb : b.data.toList.length = b.size := by rw [Array.length_toList]; rfl
 unfold ord
 rw [cb_drop _ _ k (by omega) (by omega) (fun j x y z => h j (by omega) (by omega) z)]
 rw [List.drop_eq_getElem_cons (i := k) (l := a.data.toList) (by omega), List.drop_eq_getElem_cons (i := k) (l := b.data.toList) (by omega), Lib.compareBytes]
 exact if_pos hl
theorem ord_gt {a b : ByteArray} {k : Nat} (h : ∀ j, (h1 : j < a.size) → (h2 : j < b.size) → j < k → a[j] = b[j]) (ha : k < a.size) (hb : k < b.size) (hl : b[k] < a[k]) : ord a b = 1 := by
 have h' := ord_lt (a := b) (b := a) (k := k) (fun j x y z => (h j y x z).symm) hb ha hl
 have := ord_flip a b; omega
theorem ord_end {a b : ByteArray} {k : Nat} (h : ∀ j, (h1 : j < a.size) → (h2 : j < b.size) → j < k → a[j] = b[j]) (ha : k ≤ a.size) (hb : k ≤ b.size) (he : ¬ (k < a.size ∧ k < b.size)) : ord a b = if a.size < b.size then -1 else if b.size < a.size then 1 else 0 := by
 have la : a.data.toList.length = a.size := by rw [Array.length_toList]; rfl
 have lb : b.data.toList.length = b.size := by rw [Array.length_toList]; rfl
 unfold ord
 rw [cb_drop _ _ k (by omega) (by omega) (fun j x y z => h j (by omega) (by omega) z)]
 by_cases h1 : k < a.size
 ·have h2 : b.size = k := by omega
  rw [List.drop_eq_getElem_cons (i := k) (l := a.data.toList) (by omega), show b.data.toList.drop k = [] from List.drop_eq_nil_of_le (by omega)]
  rw [if_neg (by omega), if_pos (by omega)]; rfl
 ·rw [show a.data.toList.drop k = [] from List.drop_eq_nil_of_le (by omega)]
  by_cases h2 : k < b.size
  ·rw [List.drop_eq_getElem_cons (i := k) (l := b.data.toList) (by omega), if_pos (by omega)]; rfl
  ·rw [show b.data.toList.drop k = [] from List.drop_eq_nil_of_le (by omega), if_neg (by omega), if_neg (by omega)]; rfl

theorem below_dr {B : Nat} {w w' : World} (h : Below B w w') (n : Nat) : Below B w (w'.drewN n) := ⟨h.os, h.tape, h.output, h.size, h.block⟩
def Same (a b : ByteArray) (k : Nat) : Prop := ∀ j, (h1 : j < a.size) → (h2 : j < b.size) → j < k → a[j] = b[j]
def ends (a b : ByteArray) : Int := if a.size < b.size then -1 else if b.size < a.size then 1 else 0

set_option maxRecDepth 100000 in
set_option maxHeartbeats 1000000 in
theorem order_any (a b : ByteArray) (ha : a.size ≤ 1000000) (hb : b.size ≤ 1000000) (w : World) : Calls Tryd.prog 24 #[.string a, .string b] w fun e w' => e = .returned (.int .i64 (ord a b)) ∧ Below w.heap.size w w' := by
 have ha' : (a.size : Int) ≤ 1000000 := by omega
 have hb' : (b.size : Int) ≤ 1000000 := by omega
 go_enter Tryd.func24, Tryd.ntmps24
 go_wp2_with fail
 go_loopw [5] (fun iv wr => ∃ k : Nat, k ≤ a.size ∧ k ≤ b.size ∧ iv = .int .i64 k ∧ Hid (Same a b k) ∧ Hid (Below w.heap.size w wr)) (fun iv _ => a.size - (intOf iv).toNat)
 case atStart => exact ⟨0, Nat.zero_le _, Nat.zero_le _, rfl, fun j _ _ hj => by omega, Below.refl _ _⟩
 case round =>
  obtain ⟨k, hk, hkb, rfl, HP, HB⟩ := hrel
  have HEND := Lib.hid (fun h => ord_end HP.out hk hkb h)
  have HLT := Lib.hid (fun h1 h2 h3 => ord_lt HP.out (k := k) h1 h2 h3)
  have HGT := Lib.hid (fun h1 h2 h3 => ord_gt HP.out (k := k) h1 h2 h3)
  have hk0 : (0 : Int) ≤ k := by omega
  by_cases hl1 : k < a.size
  ·by_cases hl2 : k < b.size
   ·have g1 : (k : Int) < a.size := by omega
    have g2 : (k : Int) < b.size := by omega
    have NX : Hid (a[k] = b[k] → Same a b (k + 1)) := fun h j x y hlt => by
     by_cases e : j = k
     ·subst e; exact h
     ·exact HP.out j x y (by omega)
    clear HEND
    by_cases c1 : a[k].toNat < b[k].toNat
    ·have HR : Hid (ord a b = -1) := HLT.out hl1 hl2 (by rw [UInt8.lt_iff_toNat_lt]; exact c1)
     have d1 : (a[k].toNat : Int) < b[k].toNat := by omega
     clear HLT HGT NX HP
     go_wp2_with fail
     go_region
     go_wp2_with fail
     go_ret
     exact ⟨by rw [HR.out]; rfl, below_dr HB.out _⟩
    ·by_cases c2 : b[k].toNat < a[k].toNat
     ·have HR : Hid (ord a b = 1) := HGT.out hl1 hl2 (by rw [UInt8.lt_iff_toNat_lt]; exact c2)
      have d1 : ¬ (a[k].toNat : Int) < b[k].toNat := by omega
      have d2 : (b[k].toNat : Int) < a[k].toNat := by omega
      clear HLT HGT NX HP
      go_wp2_with fail
      go_region
      go_wp2_with fail
      go_region
      go_wp2_with fail
      go_ret
      exact ⟨by rw [HR.out]; rfl, below_dr (below_dr HB.out 1) 1⟩
     ·have HX := Lib.hid (NX.out (UInt8.toNat_inj.1 (by omega)))
      have d1 : ¬ (a[k].toNat : Int) < b[k].toNat := by omega
      have d2 : ¬ (b[k].toNat : Int) < a[k].toNat := by omega
      clear HLT HGT NX HP
      go_wp2_with fail
      go_region
      go_wp2_with fail
      go_region
      go_wp2_with fail
      go_roundw
      case rel => exact ⟨k + 1, by omega, by omega, by go_num, HX.out, below_dr (below_dr HB.out 1) 1⟩
      case measure => simp [intOf]; omega
   ·obtain rfl : k = b.size := by omega
    have HR : Hid (ord a b = 1) := by
     show _ = _
     rw [HEND.out (by omega), if_neg (by omega), if_pos (by omega)]
    have g1 : (b.size : Int) < a.size := by omega
    have g2 : ¬ (a.size : Int) < b.size := by omega
    clear HLT HGT HP HEND
    go_wp2_with fail
    go_ret
    exact ⟨by rw [HR.out]; rfl, HB.out⟩
  ·obtain rfl : k = a.size := by omega
   by_cases hl2 : a.size < b.size
   ·have HR : Hid (ord a b = -1) := by
     show _ = _
     rw [HEND.out (by omega), if_pos (by omega)]
    have g1 : (a.size : Int) < b.size := by omega
    clear HLT HGT HP HEND
    go_wp2_with fail
    go_ret
    exact ⟨by rw [HR.out]; rfl, HB.out⟩
   ·have HR : Hid (ord a b = 0) := by
     show _ = _
     rw [HEND.out (by omega), if_neg (by omega), if_neg (by omega)]
    have g1 : ¬ (a.size : Int) < b.size := by omega
    have g2 : ¬ (b.size : Int) < a.size := by omega
    clear HLT HGT HP HEND
    go_wp2_with fail
    go_ret
    exact ⟨by rw [HR.out]; rfl, HB.out⟩
end Go.Proofs.YteieimchleioaaaDoor
