/-
  parse's read: what any text is read as.
-/
import Derived.Test.YtkildckeikedhaaGreatDoorMr6
import Derived.Test.YtkildckeikedhaaGreatDoorMr2
import Derived.Deep.CutBlock
import Derived.Test.YtkildckeikedhaaGreatDoorMr0
import Derived.RegionTactic
import Derived.BigRegion
import Derived.StillTailTactics
import Derived.Test.YtkildckeikedhaaGreatDoorMr4
import Derived.Test.YtkildckeikedhaaGreatDoorMr5
namespace Go.Proofs.YtkildckeikedhaaGreatDoor
open Go.ChangeShapes Go.WideShapes Go.ChangeAt Go.RowKit
set_option linter.unusedVariables false

open errAs (ErrT)
def ReadPost {α : Type} (val : Nat → α → World → Value → Prop) (zero : Value) (w : World) (r : RR α) (e : Ending) (w' : World) : Prop :=
 Below w.heap.size w w' ∧ ((∃ x v, r = .ok x ∧ e = .returned (.tuple #[v, .nilIface]) ∧ val w.heap.size x w' v) ∨ (∃ c i, c ≠ 0 ∧ r = .bad c i ∧ e = .returned (.tuple #[zero, faultN c i])))
theorem readF_lex {α : Type} {rule : List Tok → PS → PR α} {l : List UInt8} (h : ¬ (tokS l).2.1 = 0) : readF rule l = .bad (tokS l).2.1 (tokS l).2.2 := if_neg h
theorem readF_ok {α : Type} {rule : List Tok → PS → PR α} {l : List UInt8} {x : α} {s : PS} (h : (tokS l).2.1 = 0) (hr : rule (tokS l).1 ps0 = .ok x s) (he : ((tokS l).1.getD s.i tok0).1 = 3) : readF rule l = .ok x := by
 unfold readF
 rw [if_pos h, hr]
 unfold endF
 rw [PR.then_ok, if_pos he]
 rfl
theorem readF_more {α : Type} {rule : List Tok → PS → PR α} {l : List UInt8} {x : α} {s : PS} (h : (tokS l).2.1 = 0) (hr : rule (tokS l).1 ps0 = .ok x s) (he : ¬ ((tokS l).1.getD s.i tok0).1 = 3) : readF rule l = .bad 6 (offT (tokS l).1 s.i) := by
 unfold readF
 rw [if_pos h, hr]
 unfold endF
 rw [PR.then_ok, if_neg he]
 rfl
theorem readF_bad {α : Type} {rule : List Tok → PS → PR α} {l : List UInt8} {k i : Nat} (h : (tokS l).2.1 = 0) (hr : rule (tokS l).1 ps0 = .bad k i) : readF rule l = .bad k (offT (tokS l).1 i) := by
 unfold readF
 rw [if_pos h, hr]
 rfl
theorem flt_fault (l : List UInt8) (k i : Nat) : flt k (offs (tokS l).1 i) = faultN k (offT (tokS l).1 i) := by
 unfold flt faultN
 rw [tokS_offs]
theorem okTs_pos {ts : List Tok} (h : OkTs ts) : 0 < ts.length := by
 obtain ⟨us, e, rfl, _⟩ := h
 simp
theorem pp_new {w : World} {base : Nat} {q : Option Addr} {c : Nat} {ts : List Tok} (ho : OkTs ts) (hl : ts.length ≤ 100000) (hr : TokRow base 110 w (.slice q ts.length c) ts) (hres : ResT w) :
  ∃ tb, q = some ⟨tb, 0, none⟩ ∧ PP (w.alloc (.cells #[.slice q ts.length c, .int .i64 0, .int .i64 0, .int .i64 0] 108)) w.heap.size tb c ts ps0 := by
 have hp := okTs_pos ho
 have h1 := hr.1
 rcases hr.2 with ⟨h, hn⟩ | ⟨g, cap, cur, hv, h0, hg, hcap, _, hcz, htk⟩
 ·omega
 ·simp only [Value.slice.injEq] at hv
  obtain ⟨rfl, _, rfl⟩ := hv
  have hgl := (Array.getElem?_eq_some_iff.1 hg).1
  refine ⟨g, rfl, Arr.new' _ _ _ _ rfl, hgl, fun i hi j hj => ?_, hl, ?_, ?_⟩
  ·rw [World.cell?_alloc_lt _ _ _ hgl, cell_of_row w g _ cur _ (0, 0) hg, ← Array.getElem?_toList]
   have h2 := tks_at ts i j hi hj
   rw [show (0, [], 0) = tok0 from rfl] at h2
   rw [← h2, ← htk, List.getElem?_take, if_pos (by omega), Nat.mul_comm]
  ·exact hres.below ((Below.refl _ _).alloc (Nat.le_refl _) _) hres.lt
  ·exact hres.lt
def VA (B : Nat) (l : List AlB) (w : World) (v : Value) : Prop := RdA (Bt B w.heap.size) w l v
theorem TokRow.box {base : Nat} {e : TypeId} {w : World} {v : Value} {ts : List Tok} (h : TokRow base e w v ts) {g : Nat} (hg : g < base) (i : Nat) (x : Value) : TokRow base e (w.setCell ⟨g, i, none⟩ x) v ts := by
 refine ⟨h.1, ?_⟩
 rcases h.2 with h | ⟨k, cap, cur, rfl, h0, h1, r⟩
 ·exact .inl h
 ·exact .inr ⟨k, cap, cur, rfl, h0, (Below.heap_setCell w ⟨g, i, none⟩ x k (fun e => by have e' : k = g := e; omega)).trans h1, r⟩
theorem VE.form {B : Nat} {mk : Int} {mv mn : List UInt8} {ms : List Ex} {w : World} {v : Value} (h : VE B (.mk mk mv mn ms) w v) : ∃ q4 c4, v = .agg #[.int .i64 mk, .string (bstr mv), .string (bstr mn), .slice q4 ms.length c4] := by
 obtain ⟨q, c, h, _⟩ := RdE.form h
 exact ⟨q, c, h⟩
theorem VA.kp {B g : Nat} {l : List AlB} {w w' : World} {v : Value} (h : VA B l w v) (hk : Kp g w w') (hg : g < B) : VA B l w' v := RdA.kp h hk hg
theorem VA.low {B B' : Nat} {l : List AlB} {w : World} {v : Value} (h : VA B l w v) (hb : B' ≤ B) : VA B' l w v := RdA.low h hb
theorem VA.later {B : Nat} {l : List AlB} {w w' : World} {v : Value} (h : VA B l w v) (hb : Below w.heap.size w w') : VA B l w' v := (RdA.keep (fun b hb' n => hb.cell (p := ⟨b, n, none⟩) hb'.2) h).imp fun b hb' => ⟨hb'.1, Nat.lt_of_lt_of_le hb'.2 hb.size⟩
theorem VS.later {B : Nat} {l : List DefB} {w w' : World} {v : Value} (h : VS B l w v) (hb : Below w.heap.size w w') : VS B l w' v := by
 obtain ⟨u, h1, h2⟩ := h
 exact ⟨u, h1, (h2.keep fun b hb' n => hb.cell (p := ⟨b, n, none⟩) hb'.2).imp fun b hb' => ⟨hb'.1, Nat.lt_of_lt_of_le hb'.2 hb.size⟩⟩
theorem below_box {w0 w : World} (h : Below w0.heap.size w0 w) {g : Nat} (hg : w0.heap.size ≤ g) (i : Nat) (v : Value) : Below w0.heap.size w0 (w.setCell ⟨g, i, none⟩ v) := h.setCell (p := ⟨g, i, none⟩) hg v
set_option maxRecDepth 100000 in
set_option maxHeartbeats 4000000 in
theorem readS_any (s : ByteArray) (hs : s.size ≤ 65536) (w : World) (hr : ResT w) (hcode : ∀ (ts : List Tok) k i, schemaR ts ps0 = .bad k i → k ≠ 0) : Calls Tryz.prog 26 #[.string s, .func (.func 27) #[] #[]] w (ReadPost VS (.agg #[.slice none 0 0]) w (readF schemaR s.data.toList)) := by
 have hmf : ∀ (fn : Fn) (first cap : Array Value) (w : World), (Instr.makeFunc fn first cap).run Tryz.prog w = .ok (.func fn first cap) w := fun _ _ _ _ => rfl
 have hB2 : Below w.heap.size w ((w.alloc (.cells #[.slice none 0 0] 29)).alloc (.cells #[.nilIface] 24)) := ((Below.refl _ _).alloc (Nat.le_refl _) _).alloc (by simp) _
 have HA2 : Hid (Arr ((w.alloc (.cells #[.slice none 0 0] 29)).alloc (.cells #[.nilIface] 24)) 29 w.heap.size [.slice none 0 0]) := (Arr.new' _ _ _ _ rfl).alloc _
 have HC2 : Hid (Arr ((w.alloc (.cells #[.slice none 0 0] 29)).alloc (.cells #[.nilIface] 24)) 24 (w.heap.size + 1) [.nilIface]) := Arr.new2 _ _ _ _ _ rfl
 have HR2 : Hid (ResT ((w.alloc (.cells #[.slice none 0 0] 29)).alloc (.cells #[.nilIface] 24))) := hr.below hB2 hr.lt
 have HGR : Hid (1 < w.heap.size) := hr.lt
 have HLX := hiD (lex_any s hs _ HR2.out)
 have HB2 := hiD hB2
 have HCD := hiD hcode
 obtain ⟨l, hl⟩ : ∃ l, l = s.data.toList := ⟨_, rfl⟩
 have HLS : Hid (l.length ≤ 65536) := by show _ ≤ _; rw [hl, Array.length_toList]; exact hs
 rw [← hl] at HLX ⊢
 clear hr hB2 hcode hl hs
 go_enter_defers Tryz.func26, Tryz.ntmps26
 go_wp2_with fail
 refine HLX.out.mono ?_
 rintro r w3 ⟨v, rfl, r3, b3⟩
 obtain ⟨q, c, rfl, hc⟩ := r3.form
 have HR3 : Hid (TokRow (w.heap.size + 2) 110 w3 (.slice q (tokS l).1.length c) (tokS l).1) := by
  have h := r3
  rw [show ((w.alloc (.cells #[.slice none 0 0] 29)).alloc (.cells #[.nilIface] 24)).heap.size = w.heap.size + 2 from by simp] at h
  exact h
 have HB3 := hiD (HB2.out.trans (b3.mono HB2.out.size))
 have HA3 := hiD (HA2.out.later b3)
 have HC3 := hiD (HC2.out.later b3)
 have HS3 : Hid (ResT w3) := HR2.out.below b3 HR2.out.lt
 clear r3 b3 HA2 HC2 HR2 HB2 hc
 obtain ⟨e0, g0⟩ := HC3.out.all1
 by_cases h0 : (tokS l).2.1 = 0
 ·have HE0 := hiD h0
  have HEF : Hid (errF (tokS l).2.1 (tokS l).2.2 = .nilIface) := by show _ = _; unfold errF; rw [if_pos h0]
  rw [HEF.out]
  have HOK : Hid (OkTs (tokS l).1) := tokF_ok _ _ _ (Nat.lt_succ_self _) h0
  have hb4 : Below w.heap.size w3 (w3.setCell ⟨w.heap.size + 1, 0, none⟩ .nilIface) := (Below.refl _ _).setCell (p := ⟨w.heap.size + 1, 0, none⟩) (Nat.le_succ _) _
  obtain ⟨tb, rfl, hpp⟩ := pp_new HOK.out (Nat.le_trans (tokS_len l) (by have := HLS.out; omega)) (HR3.out.box (g := w.heap.size + 1) (by omega) 0 .nilIface) (HS3.out.below hb4 HGR.out)
  rw [show (w3.setCell ⟨w.heap.size + 1, 0, none⟩ .nilIface).heap.size = w3.heap.size from by simp [World.setCell]] at hpp
  have HP5 := hiD hpp
  have hb5 : Below (w3.setCell ⟨w.heap.size + 1, 0, none⟩ .nilIface).heap.size (w3.setCell ⟨w.heap.size + 1, 0, none⟩ .nilIface) ((w3.setCell ⟨w.heap.size + 1, 0, none⟩ .nilIface).alloc (.cells #[.slice (some ⟨tb, 0, none⟩) (tokS l).1.length c, .int .i64 0, .int .i64 0, .int .i64 0] 108)) := (Below.refl _ _).alloc (Nat.le_refl _) _
  have HB5 : Hid (Below w.heap.size w ((w3.setCell ⟨w.heap.size + 1, 0, none⟩ .nilIface).alloc (.cells #[.slice (some ⟨tb, 0, none⟩) (tokS l).1.length c, .int .i64 0, .int .i64 0, .int .i64 0] 108))) := (below_box HB3.out (Nat.le_succ _) 0 .nilIface).alloc (by simpa [World.setCell] using HB3.out.size) _
  have HA5 := hiD ((HA3.out.setCell (a := ⟨w.heap.size + 1, 0, none⟩) (by simp) .nilIface).later hb5)
  have HC5 : Hid (Arr ((w3.setCell ⟨w.heap.size + 1, 0, none⟩ .nilIface).alloc (.cells #[.slice (some ⟨tb, 0, none⟩) (tokS l).1.length c, .int .i64 0, .int .i64 0, .int .i64 0] 108)) 24 (w.heap.size + 1) [.nilIface]) := (HC3.out.set 0 .nilIface).later hb5
  have HLP : Hid (w.heap.size + 2 ≤ w3.heap.size) := HC3.out.lt
  have HRU := hiD (schema_any HOK.out HP5.out (okTs_pos HOK.out))
  clear h0 hb4 hb5 hpp HA3 HC3 HS3 HR3 HB3
  go_wp2_with fail
  clear e0 g0
  generalize ((w3.setCell ⟨w.heap.size + 1, 0, none⟩ .nilIface).alloc (.cells #[.slice (some ⟨tb, 0, none⟩) (tokS l).1.length c, .int .i64 0, .int .i64 0, .int .i64 0] 108)) = w5 at HP5 HB5 HA5 HC5 HRU ⊢
  have HL5 : Hid (w3.heap.size < w5.heap.size) := HP5.out.1.lt
  refine HRU.out.mono ?_
  rintro r w6 (⟨x, s6, v, e6, rfl, r6, p6, k6⟩ | ⟨k, i, e6, rfl, k6⟩)
  ·have HE6 := hiD e6
   have LE56 : Hid (w5.heap.size ≤ w6.heap.size) := k6.2.2.2.1
   have HB6 := hiD (HB5.out.trans (k6.below (B := w.heap.size) (by have := HLP.out; omega) HB5.out.size))
   have HA6 := hiD (k6.arr HA5.out (by have := HLP.out; omega))
   have HC6 := hiD (k6.arr HC5.out (by have := HLP.out; omega))
   have HP6 := hiD p6
   have HS6 : Hid (s6.i < (tokS l).1.length) := (keeps_defs HOK.out _ _ _ _ _ (okTs_pos HOK.out) e6)
   obtain ⟨q4, c4, rfl, r6b⟩ := VS.form r6
   have HV6 : Hid (VS w5.heap.size x w6 (.agg #[.slice q4 x.length c4])) := ⟨_, rfl, r6b⟩
   clear r6b
   have hb7 : Below w6.heap.size w6 (w6.alloc (.cells #[.slice q4 x.length c4] 29)) := (Below.refl _ _).alloc (Nat.le_refl _) _
   have HP7 := hiD (HP6.out.later hb7)
   have HA7 := hiD (HA6.out.later hb7)
   have HC7 := hiD (HC6.out.later hb7)
   have HB7 := hiD (HB6.out.trans (hb7.mono HB6.out.size))
   have HV7 := hiD (HV6.out.later hb7)
   have HX7 : Hid (Arr (w6.alloc (.cells #[.slice q4 x.length c4] 29)) 29 w6.heap.size [.slice q4 x.length c4]) := Arr.new' _ _ _ _ rfl
   have HNX := hiD (next_any HP7.out HS6.out)
   have hfl := fieldT0
   obtain ⟨kd, hkd⟩ : ∃ kd, kd = ((tokS l).1.getD s6.i tok0).1 := ⟨_, rfl⟩
   rw [← hkd] at HNX
   clear e6 p6 k6 r6 hb7 HRU HP6 HA6 HC6 HB6 HV6
   go_wp2_with fail
   refine HNX.out.mono ?_
   rintro r w7 ⟨rfl, b7⟩
   have HPz := hiD (HP7.out.later b7)
   have HAz := hiD (HA7.out.later b7)
   have HCz := hiD (HC7.out.later b7)
   have HBz := hiD (HB7.out.trans (b7.mono HB7.out.size))
   have HVz := hiD (HV7.out.later b7)
   have HXz := hiD (HX7.out.later b7)
   have HLX : Hid (w.heap.size + 2 ≤ w6.heap.size) := by have := HC5.out.lt; have := HLP.out; have := HL5.out; show _ ≤ _; exact Nat.le_trans (by omega) LE56.out
   clear b7 HNX HP7 HA7 HC7 HB7 HV7 HX7
   by_cases h3 : kd = 3
   ·subst h3
    have HRE := hiD (readF_ok HE0.out HE6.out hkd.symm)
    have HLT5 : Hid (w.heap.size < w5.heap.size) := by have := HLP.out; have := HL5.out; show _ < _; omega
    have HLT6 : Hid (w.heap.size + 1 < w5.heap.size) := by have := HLP.out; have := HL5.out; show _ < _; omega
    clear hkd
    obtain ⟨p0, z0⟩ := HXz.out.all1
    obtain ⟨x0, y0⟩ := HAz.out.all1
    obtain ⟨r0, t0⟩ := HCz.out.all1
    go_wp2_with fail
    refine (need_t 6).mono ?_
    rintro r w7 ⟨rfl, rfl⟩
    go_wp2_with fail
    clear p0 z0
    clear x0 y0
    clear r0 t0
    refine leaves_cons (f := 46) (args := #[.pointer (some ⟨w.heap.size + 1, 0, none⟩)]) (by simp) (by simp [go_sem]) ?_
    refine (idleS ⟨w.heap.size + 1, 0, none⟩ _).mono ?_
    rintro e u' w9 ⟨rfl, rfl, b9⟩
    have hA := ((HAz.out.set 0 (.slice q4 x.length c4)).setCell (a := ⟨w.heap.size + 1, 0, none⟩) (by simp) .nilIface).later b9
    have hC := ((HCz.out.setCell (a := ⟨w.heap.size, 0, none⟩) (by simp) (.slice q4 x.length c4)).set 0 .nilIface).later b9
    have hB := (below_box (below_box HBz.out (Nat.le_refl _) 0 (.slice q4 x.length c4)) (g := w.heap.size + 1) (Nat.le_succ _) 0 .nilIface)
    have hB9 := hB.trans (b9.mono hB.size)
    have hkv := ((Kp.of (pb := w.heap.size) (Below.refl w7.heap.size w7)).set 0 (.slice q4 x.length c4))
    have hV := ((HVz.out.kp hkv (HLT5.out)).kp ((Kp.of (pb := w.heap.size + 1) (Below.refl _ _)).set 0 .nilIface) (HLT6.out)).later b9
    simp only [List.set_cons_zero] at hA
    simp only [List.set_cons_zero] at hC
    have c0 := hA.cell 0
    have d0 := hC.cell 0
    simp only [List.getElem?_cons_zero] at c0 d0
    clear hA hC hB hkv b9
    refine ⟨.tuple #[.agg #[.slice q4 x.length c4], .nilIface], ?_, hB9, .inl ⟨_, _, HRE.out, rfl, hV.low (Nat.le_trans (Nat.le_succ _) (Nat.le_of_lt HLT6.out))⟩⟩
    simp [results, Tryz.results26, go_sem, c0, d0]
   ·have h3' : (kd == 3) = false := by simp [h3]
    have HRE := hiD (readF_more HE0.out HE6.out (by rw [← hkd]; exact h3))
    clear h3 hkd
    go_wp2_with fail
    refine (need_f HPz.out HS6.out 6).mono ?_
    rintro r w8 ⟨rfl, b8⟩
    have HA8 := hiD (HAz.out.later b8)
    have HC8 := hiD (HCz.out.later b8)
    have HB8 := hiD (HBz.out.trans (b8.mono HBz.out.size))
    clear b8 h3'
    obtain ⟨hcz, hfz⟩ := HC8.out.all1
    refine leaves_cons (f := 46) (args := #[.pointer (some ⟨w.heap.size + 1, 0, none⟩)]) (by simp) (by simp [go_sem]) ?_
    refine (catchS ⟨w.heap.size + 1, 0, none⟩ _ 6 (offs (tokS l).1 s6.i) [] w8 hcz hfz).mono ?_
    rintro e u' w'' ⟨rfl, rfl, rfl⟩
    have hb9 : Below w8.heap.size w8 (w8.alloc (.cells #[.int .i64 (6 : Nat), .int .i64 (offs (tokS l).1 s6.i)] 94)) := (Below.refl _ _).alloc (Nat.le_refl _) _
    have hA := (HA8.out.later hb9).setCell (a := ⟨w.heap.size + 1, 0, none⟩) (by simp) (flt 6 (offs (tokS l).1 s6.i))
    have hC := (HC8.out.later hb9).set 0 (flt 6 (offs (tokS l).1 s6.i))
    have hB := below_box (HB8.out.trans (hb9.mono HB8.out.size)) (g := w.heap.size + 1) (Nat.le_succ _) 0 (flt 6 (offs (tokS l).1 s6.i))
    simp only [List.set_cons_zero] at hC
    generalize (w8.alloc (.cells #[.int .i64 (6 : Nat), .int .i64 (offs (tokS l).1 s6.i)] 94)).setCell ⟨w.heap.size + 1, 0, none⟩ (flt 6 (offs (tokS l).1 s6.i)) = w9 at hA hC hB ⊢
    rw [flt_fault] at hC
    have c0 := hA.cell 0
    have d0 := hC.cell 0
    simp only [List.getElem?_cons_zero] at c0 d0
    clear hA hC hcz hfz hb9
    refine ⟨.tuple #[.agg #[.slice none 0 0], faultN 6 (offT (tokS l).1 s6.i)], ?_, hB, .inr ⟨6, offT (tokS l).1 s6.i, by decide, HRE.out, rfl⟩⟩
    simp [results, Tryz.results26, go_sem, c0, d0]
  ·have HRE := hiD (readF_bad HE0.out e6)
   have HKN := hiD (HCD.out _ _ _ e6)
   have HB6 := hiD (HB5.out.trans (k6.below (B := w.heap.size) (by have := HLP.out; omega) HB5.out.size))
   have HA6 := hiD (k6.arr HA5.out (by have := HLP.out; omega))
   have HC6 := hiD (k6.arr HC5.out (by have := HLP.out; omega))
   clear e6 k6 HRU
   obtain ⟨hcz, hfz⟩ := HC6.out.all1
   refine leaves_cons (f := 46) (args := #[.pointer (some ⟨w.heap.size + 1, 0, none⟩)]) (by simp) (by simp [go_sem]) ?_
   refine (catchS ⟨w.heap.size + 1, 0, none⟩ _ k (offs (tokS l).1 i) [] w6 hcz hfz).mono ?_
   rintro e u' w'' ⟨rfl, rfl, rfl⟩
   have hb9 : Below w6.heap.size w6 (w6.alloc (.cells #[.int .i64 (k : Nat), .int .i64 (offs (tokS l).1 i)] 94)) := (Below.refl _ _).alloc (Nat.le_refl _) _
   have hA := (HA6.out.later hb9).setCell (a := ⟨w.heap.size + 1, 0, none⟩) (by simp) (flt k (offs (tokS l).1 i))
   have hC := (HC6.out.later hb9).set 0 (flt k (offs (tokS l).1 i))
   have hB := below_box (HB6.out.trans (hb9.mono HB6.out.size)) (g := w.heap.size + 1) (Nat.le_succ _) 0 (flt k (offs (tokS l).1 i))
   simp only [List.set_cons_zero] at hC
   generalize (w6.alloc (.cells #[.int .i64 (k : Nat), .int .i64 (offs (tokS l).1 i)] 94)).setCell ⟨w.heap.size + 1, 0, none⟩ (flt k (offs (tokS l).1 i)) = w9 at hA hC hB ⊢
   rw [flt_fault] at hC
   have c0 := hA.cell 0
   have d0 := hC.cell 0
   simp only [List.getElem?_cons_zero] at c0 d0
   clear hA hC hcz hfz hb9
   refine ⟨.tuple #[.agg #[.slice none 0 0], faultN k (offT (tokS l).1 i)], ?_, hB, .inr ⟨k, offT (tokS l).1 i, HKN.out, HRE.out, rfl⟩⟩
   simp [results, Tryz.results26, go_sem, c0, d0]
 ·have h0' := h0
  have HEF : Hid (errF (tokS l).2.1 (tokS l).2.2 = faultN (tokS l).2.1 (tokS l).2.2) := by show _ = _; unfold errF; rw [if_neg h0]
  have HRE := hiD (readF_lex (rule := schemaR) h0)
  rw [HEF.out]
  unfold faultN
  obtain ⟨x0, y0⟩ := HA3.out.all1
  go_upto_region 3 with (fail)
  clear e0 g0 x0 y0
  have HA4 : Hid (Arr (w3.setCell ⟨w.heap.size + 1, 0, none⟩ (.iface 94 (.agg #[.int .i64 ((tokS l).2.1 : Nat), .int .i64 ((tokS l).2.2 : Nat)]))) 29 w.heap.size [.slice none 0 0]) := HA3.out.setCell (a := ⟨w.heap.size + 1, 0, none⟩) (by simp) _
  have HC4 : Hid (Arr (w3.setCell ⟨w.heap.size + 1, 0, none⟩ (.iface 94 (.agg #[.int .i64 ((tokS l).2.1 : Nat), .int .i64 ((tokS l).2.2 : Nat)]))) 24 (w.heap.size + 1) [.iface 94 (.agg #[.int .i64 ((tokS l).2.1 : Nat), .int .i64 ((tokS l).2.2 : Nat)])]) := HC3.out.set 0 _
  have HB4 := hiD (below_box HB3.out (g := w.heap.size + 1) (Nat.le_succ _) 0 (.iface 94 (.agg #[.int .i64 ((tokS l).2.1 : Nat), .int .i64 ((tokS l).2.2 : Nat)])))
  generalize w3.setCell ⟨w.heap.size + 1, 0, none⟩ (.iface 94 (.agg #[.int .i64 ((tokS l).2.1 : Nat), .int .i64 ((tokS l).2.2 : Nat)])) = w4 at HA4 HC4 HB4 ⊢
  clear HA3 HC3 HB3 HS3 HR3
  refine wp_region_noPanic ?_
  refine wp_region_held_drew (S := fun W' => Arr W' 29 w.heap.size [.slice none 0 0] ∧ Arr W' 24 (w.heap.size + 1) [.iface 94 (.agg #[.int .i64 ((tokS l).2.1 : Nat), .int .i64 ((tokS l).2.2 : Nat)])] ∧ Below w.heap.size w W') (by kernel_rfl) ⟨HA4.out.drew, HC4.out.drew, HB4.out.drew⟩ (fun hHeld => ?_)
  try simp only [Act.put]
  generalize w4.drew = w5 at hHeld ⊢
  clear HA4 HC4 HB4
  refine wpAnyH_take (i := 0) (oi := ⟨some 16, _, _, _, _, _⟩) (v := .agg #[.slice none 0 0]) rfl (by kernel_rfl) (by kernel_rfl) (by kernel_rfl) (fun _ _ _ h => h) (.inl ⟨by rfl, fun w' hSw => ?_⟩) hHeld ?_
  focus (obtain ⟨q0, _⟩ := hSw.1.all1; clear hHeld; go_simp)
  try simp only [Act.put, pz0, pz1, pz2]
  refine wpAnyH_take (i := 1) (oi := ⟨some 17, _, _, _, _, _⟩) (v := .iface 94 (.agg #[.int .i64 ((tokS l).2.1 : Nat), .int .i64 ((tokS l).2.2 : Nat)])) rfl (by kernel_rfl) (by kernel_rfl) (by kernel_rfl) (fun _ _ _ h => h) (.inl ⟨by rfl, fun w' hSw => ?_⟩) hHeld ?_
  focus (have q := hSw.2.1.cell 0; simp only [List.getElem?_cons_zero] at q; clear hHeld; go_simp)
  try simp only [Act.put, pz0, pz1, pz2]
  refine wpAnyH_ready (rs := [2]) (by kernel_rfl) (by simp) ?_
  refine AllReadyH.cons (o := ⟨none, _, _, _, _, _⟩) rfl (fun K' hK' => ?_) AllReadyH.nil
  have hA := hHeld.1
  have x0 := hA.cell 0
  have y0 := hA.free 0
  simp only [List.getElem?_cons_zero] at x0
  have hkn := And.intro (hHeld.1.set 0 (.slice none 0 0)) (And.intro (hHeld.2.1.setCell (a := ⟨w.heap.size, 0, none⟩) (by simp) (.slice none 0 0)) (below_box hHeld.2.2 (Nat.le_refl _) 0 (.slice none 0 0)))
  simp only [List.set_cons_zero] at hkn
  clear hHeld hA
  go_simp
  clear x0 y0
  refine hK'.out _ _ hkn (fun hHeld => ?_)
  clear hK' K' hkn
  try simp only [Act.put, pz0, pz1, pz2]
  generalize ((w5.setCell ⟨w.heap.size, 0, none⟩ (.slice none 0 0))) = w6 at hHeld ⊢
  refine wpAnyH_ready (rs := [3]) (by kernel_rfl) (by simp) ?_
  refine AllReadyH.cons (o := ⟨none, _, _, _, _, _⟩) rfl (fun K' hK' => ?_) AllReadyH.nil
  have x0 := hHeld.2.1.cell 0
  have y0 := hHeld.2.1.free 0
  simp only [List.getElem?_cons_zero] at x0
  have hkn := And.intro (hHeld.1.setCell (a := ⟨w.heap.size + 1, 0, none⟩) (by simp) (.iface 94 (.agg #[.int .i64 ((tokS l).2.1 : Nat), .int .i64 ((tokS l).2.2 : Nat)]))) (And.intro (hHeld.2.1.set 0 (.iface 94 (.agg #[.int .i64 ((tokS l).2.1 : Nat), .int .i64 ((tokS l).2.2 : Nat)]))) (below_box hHeld.2.2 (g := w.heap.size + 1) (Nat.le_succ _) 0 (.iface 94 (.agg #[.int .i64 ((tokS l).2.1 : Nat), .int .i64 ((tokS l).2.2 : Nat)]))))
  simp only [List.set_cons_zero] at hkn
  clear hHeld
  go_simp
  clear x0 y0
  refine hK'.out _ _ hkn (fun hHeld => ?_)
  clear hK' K' hkn
  try simp only [Act.put, pz0, pz1, pz2]
  generalize w6.setCell ⟨w.heap.size + 1, 0, none⟩ (.iface 94 (.agg #[.int .i64 ((tokS l).2.1 : Nat), .int .i64 ((tokS l).2.2 : Nat)])) = w7 at hHeld ⊢
  refine wpAnyH_done (by kernel_rfl) ?_ _
  refine NoPanic.normal ?_
  obtain ⟨hA, hC, hB⟩ := hHeld
  go_wp2_with fail
  have c0 := hA.cell 0
  have d0 := hC.cell 0
  simp only [List.getElem?_cons_zero] at c0 d0
  clear hA hC
  refine ⟨.tuple #[.agg #[.slice none 0 0], faultN (tokS l).2.1 (tokS l).2.2], ?_, hB, .inr ⟨(tokS l).2.1, (tokS l).2.2, h0, HRE.out, rfl⟩⟩
  simp [results, Tryz.results26, go_sem, c0, d0, faultN]
/-! ### the codes of the rules -/
theorem name_code {ts : List Tok} {s : PS} {k i : Nat} (h : nameF ts s = .bad k i) : k ≠ 0 := by
 unfold nameF at h
 split at h
 ·cases h
 ·cases h; decide
theorem want_code {ts : List Tok} {t : List UInt8} {s : PS} {k i : Nat} (h : wantF ts t s = .bad k i) : k ≠ 0 := by
 unfold wantF at h
 split at h
 ·cases h
 ·cases h; decide
theorem then_code {α β : Type} {r : PR α} {f : α → PS → PR β} {k i : Nat} (h : r.then f = .bad k i) (h1 : ∀ k i, r = .bad k i → k ≠ 0) (h2 : ∀ x s k i, r = .ok x s → f x s = .bad k i → k ≠ 0) : k ≠ 0 := by
 cases r with
 | ok x s => exact h2 x s k i rfl h
 | bad k' i' =>
  rw [PR.then_bad] at h
  cases h
  exact h1 k i rfl
theorem allowed_code {ts : List Tok} {s : PS} {k i : Nat} (h : allowedF ts s = .bad k i) : k ≠ 0 := by
 unfold allowedF at h
 refine then_code h (fun k i e => name_code e) fun x s1 k i _ h => ?_
 split at h
 ·exact then_code h (fun k i e => name_code e) fun x s2 k i _ h => by cases h
 ·cases h
theorem types_code {ts : List Tok} : ∀ (n : Nat) (acc : List AlB) (s : PS) (k i : Nat), typesF ts n acc s = .bad k i → k ≠ 0
 | 0, acc, s, k, i, h => by unfold typesF at h; cases h
 | n + 1, acc, s, k, i, h => by
  unfold typesF at h
  split at h
  ·cases h; decide
  ·cases he : allowedF ts s with
   | ok x s1 =>
    rw [he, PR.then_ok] at h
    split at h
    ·exact types_code n _ _ k i h
    ·cases h
   | bad k1 i1 =>
    rw [he, PR.then_bad] at h
    cases h
    exact allowed_code he
theorem typesR_code (ts : List Tok) (k i : Nat) (h : typesR ts ps0 = .bad k i) : k ≠ 0 := types_code 33 [] ps0 k i h
theorem unitW_code {ts : List Tok} {U : Option (PS → PR Ex)} (hU : ∀ u, U = some u → ∀ s k i, u s = .bad k i → k ≠ 0) (s : PS) (k i : Nat) (h : unitW ts U s = .bad k i) : k ≠ 0 := by
 unfold unitW at h
 split at h
 ·cases U with
  | none => cases h; decide
  | some u => exact then_code h (hU u rfl _) fun x s1 k i _ h => then_code h (fun k i e => want_code e) fun y s2 k i _ h => by cases h
 ·split at h
  ·split at h
   ·split at h
    ·exact then_code h (fun k i e => name_code e) fun x s1 k i _ h => by cases h
    ·cases h
   ·cases h; decide
  ·cases h; decide
theorem loopW_code {ts : List Tok} {U : PS → PR Ex} (hU : ∀ s k i, U s = .bad k i → k ≠ 0) (sg : List UInt8) : ∀ (n : Nat) (acc : List Ex) (s : PS) (k i : Nat), loopW ts U sg n acc s = .bad k i → k ≠ 0
 | 0, acc, s, k, i, h => by unfold loopW at h; cases h
 | n + 1, acc, s, k, i, h => by
  unfold loopW at h
  split at h
  ·refine then_code h (hU _) fun x s1 k i _ h => ?_
   split at h
   ·cases h
   ·exact loopW_code hU sg n _ _ k i h
  ·cases h
theorem unitsW_code {ts : List Tok} {U : PS → PR Ex} (hU : ∀ s k i, U s = .bad k i → k ≠ 0) (s : PS) (k i : Nat) (h : unitsW ts U s = .bad k i) : k ≠ 0 := by
 unfold unitsW at h
 refine then_code h (hU _) fun x s1 k i _ h => ?_
 split at h
 ·cases h
 ·exact then_code h (loopW_code hU _ _ _ _) fun x s2 k i _ h => by cases h
theorem units_code {ts : List Tok} : ∀ (d : Nat) (s : PS) (k i : Nat), unitsF ts d s = .bad k i → k ≠ 0
 | 0, s, k, i, h => unitsW_code (unitW_code fun u e => by cases e) s k i h
 | d + 1, s, k, i, h => unitsW_code (unitW_code fun u e => by cases e; exact units_code d) s k i h
theorem expr_code (ts : List Tok) (s : PS) (k i : Nat) (h : exprF ts s = .bad k i) : k ≠ 0 := units_code 14 _ k i h
theorem member_code {ts : List Tok} {s : PS} {k i : Nat} (h : memberF ts s = .bad k i) : k ≠ 0 := by
 by_cases hr : txt ts s.i = wRelB
 ·rw [memberF_rel hr] at h
  exact then_code h (fun k i e => name_code e) fun _ _ k i _ h => then_code h (fun k i e => want_code e) fun _ _ k i _ h => then_code h (fun k i e => types_code _ _ _ _ _ e) fun _ _ k i _ h => then_code h (fun k i e => want_code e) fun _ _ k i _ h => by cases h
 ·rw [memberF_perm hr] at h
  exact then_code h (fun k i e => want_code e) fun _ _ k i _ h => then_code h (fun k i e => name_code e) fun _ _ k i _ h => then_code h (fun k i e => want_code e) fun _ _ k i _ h => then_code h (fun k i e => expr_code _ _ _ _ e) fun _ _ k i _ h => then_code h (fun k i e => want_code e) fun _ _ k i _ h => by cases h
theorem members_code {ts : List Tok} : ∀ (n : Nat) (acc : List MemB) (s : PS) (k i : Nat), membersF ts n acc s = .bad k i → k ≠ 0
 | 0, acc, s, k, i, h => by rw [membersF] at h; cases h
 | n + 1, acc, s, k, i, h => by
  rw [membersF] at h
  split at h
  ·split at h
   ·exact then_code h (fun k i e => member_code e) fun _ _ k i _ h => members_code n _ _ k i h
   ·cases h; decide
  ·cases h
theorem def_code {ts : List Tok} {s : PS} {k i : Nat} (h : defF ts s = .bad k i) : k ≠ 0 := by
 unfold defF at h
 exact then_code h (fun k i e => want_code e) fun _ _ k i _ h => then_code h (fun k i e => name_code e) fun _ _ k i _ h => then_code h (fun k i e => want_code e) fun _ _ k i _ h => then_code h (fun k i e => members_code _ _ _ _ _ e) fun _ _ k i _ h => then_code h (fun k i e => want_code e) fun _ _ k i _ h => by cases h
theorem defs_code {ts : List Tok} : ∀ (n : Nat) (acc : List DefB) (s : PS) (k i : Nat), defsF ts n acc s = .bad k i → k ≠ 0
 | 0, acc, s, k, i, h => by rw [defsF] at h; cases h
 | n + 1, acc, s, k, i, h => by
  rw [defsF] at h
  split at h
  ·split at h
   ·exact then_code h (fun k i e => def_code e) fun _ _ k i _ h => defs_code n _ _ k i h
   ·cases h; decide
  ·cases h
theorem schemaR_code (ts : List Tok) (k i : Nat) (h : schemaR ts ps0 = .bad k i) : k ≠ 0 := defs_code 65 [] ps0 k i h
set_option maxRecDepth 100000 in
set_option maxHeartbeats 2000000 in
theorem parseS_any (s : ByteArray) (hs : s.size ≤ 65536) (w : World) (hr : ResT w) : Calls Tryz.prog 12 #[.string s] w (ReadPost VS (.agg #[.slice none 0 0]) w (readF schemaR s.data.toList)) := by
 have hb1 : Below w.heap.size w (w.alloc (.cells #[.slice none 0 0] 29)) := (Below.refl _ _).alloc (Nat.le_refl _) _
 have HA1 : Hid (Arr (w.alloc (.cells #[.slice none 0 0] 29)) 29 w.heap.size [.slice none 0 0]) := Arr.new' _ _ _ _ rfl
 have HR := hiD (readS_any s hs (w.alloc (.cells #[.slice none 0 0] 29)) (hr.below hb1 hr.lt) schemaR_code)
 have HB1 := hiD hb1
 have HSZ : Hid ((w.alloc (.cells #[.slice none 0 0] 29)).heap.size = w.heap.size + 1) := by show _ = _; simp
 clear hr hb1 hs
 go_enter Tryz.func12, Tryz.ntmps12
 go_wp2_with fail
 refine HR.out.mono ?_
 rintro r w2 ⟨b2, (⟨x, v, e, rfl, hv⟩ | ⟨k, i, hk, e, rfl⟩)⟩
 ·have HE := hiD e
  have HA2 := hiD (HA1.out.later b2)
  have HB2 := hiD (HB1.out.trans (b2.mono HB1.out.size))
  have HV : Hid (VS (w.heap.size + 1) x w2 v) := HSZ.out ▸ hv
  obtain ⟨q4, c4, rfl, _⟩ := VS.form hv
  clear hv
  clear e b2 HR
  obtain ⟨x0, y0⟩ := HA2.out.all1
  go_wp2_with fail
  have hA := (HA2.out.set 0 (.slice q4 x.length c4))
  simp only [List.set_cons_zero] at hA
  have hkp := ((Kp.of (pb := w.heap.size) (Below.refl w2.heap.size w2)).set 0 (.slice q4 x.length c4))
  have hB := (below_box HB2.out (Nat.le_refl _) 0 (.slice q4 x.length c4))
  have c0 := hA.cell 0
  simp only [List.getElem?_cons_zero] at c0
  refine bodyPost_ret (v := .tuple #[.agg #[.slice q4 x.length c4], .nilIface]) ?_ rfl ⟨hB, .inl ⟨_, _, HE.out, rfl, (HV.out.kp hkp (Nat.lt_succ_self _)).low (Nat.le_succ _)⟩⟩
  simp [results, Tryz.results12, go_sem, c0]
 ·have HE := hiD e
  have HK := hiD hk
  have HA2 := hiD (HA1.out.later b2)
  have HB2 := hiD (HB1.out.trans (b2.mono HB1.out.size))
  clear e b2 HR hk
  obtain ⟨x0, y0⟩ := HA2.out.all1
  go_wp2_with fail
  have hA := (HA2.out.set 0 (.slice none 0 0))
  simp only [List.set_cons_zero] at hA
  have hkp := ((Kp.of (pb := w.heap.size) (Below.refl w2.heap.size w2)).set 0 (.slice none 0 0))
  have hB := (below_box HB2.out (Nat.le_refl _) 0 (.slice none 0 0))
  have c0 := hA.cell 0
  simp only [List.getElem?_cons_zero] at c0
  refine bodyPost_ret (v := .tuple #[.agg #[.slice none 0 0], faultN k i]) ?_ rfl ⟨hB, .inr ⟨k, i, HK.out, HE.out, rfl⟩⟩
  simp [results, Tryz.results12, go_sem, c0]
theorem orL4 (a b c d : Int) : orL [a, b, c, d] = if orL [a, b, c] = 0 then d else orL [a, b, c] := by
  by_cases ha : a = 0
  · by_cases hb : b = 0
    · by_cases hc : c = 0
      · by_cases hd : d = 0 <;> simp [orL, ha, hb, hc, hd]
      · simp [orL, ha, hb, hc]
    · simp [orL, ha, hb]
  · simp [orL, ha]
set_option maxRecDepth 100000 in
set_option maxHeartbeats 4000000 in
theorem ecompare_any : ∀ (n : Nat), n ≤ 900000 → ∀ (x y : Ex) (vx vy : Value) (P Q : Nat → Prop) (w : World), sizeE x ≤ n → sizeE y ≤ 900000 → RdE P w x vx → RdE Q w y vy → (∀ b, P b → b < w.heap.size) → (∀ b, Q b → b < w.heap.size) → Calls Tryz.prog 110 #[vx, vy] w fun r w' => r = .returned (.int .i64 (cmpE x y)) ∧ Below w.heap.size w w' := by
  intro n
  induction n with
  | zero => intro _ x y vx vy P Q w h; have := sizeE_pos x; omega
  | succ n ih =>
    intro hn x y vx vy P Q w hx hy h1 h2 hP hQ
    obtain ⟨q, c, rfl, _, hk⟩ := h1.form
    obtain ⟨q2, c2, rfl, _, hl⟩ := h2.form
    obtain ⟨k, xv, xn, ks⟩ := x
    obtain ⟨k2, yv, yn, ls⟩ := y
    unfold exv
    show Calls _ _ #[.agg #[.int .i64 k, .string (bstr xv), .string (bstr xn), .slice q ks.length c], .agg #[.int .i64 k2, .string (bstr yv), .string (bstr yn), .slice q2 ls.length c2]] _ _
    have hks : sizeL ks ≤ n := by unfold sizeE at hx; omega
    have hls : sizeL ls ≤ 900000 := by unfold sizeE at hy; omega
    have hb : Below w.heap.size w ((w.alloc (.cells #[.int .i64 k, .string (bstr xv), .string (bstr xn), .slice q ks.length c] 46)).alloc (.cells #[.int .i64 k2, .string (bstr yv), .string (bstr yn), .slice q2 ls.length c2] 46)) := ((Below.refl _ _).alloc (Nat.le_refl _) _).alloc (by simp) _
    have ha1 : Arr ((w.alloc (.cells #[.int .i64 k, .string (bstr xv), .string (bstr xn), .slice q ks.length c] 46)).alloc (.cells #[.int .i64 k2, .string (bstr yv), .string (bstr yn), .slice q2 ls.length c2] 46)) 46 w.heap.size [.int .i64 k, .string (bstr xv), .string (bstr xn), .slice q ks.length c] := (Arr.new' w _ _ _ rfl).alloc _
    have ha2 : Arr ((w.alloc (.cells #[.int .i64 k, .string (bstr xv), .string (bstr xn), .slice q ks.length c] 46)).alloc (.cells #[.int .i64 k2, .string (bstr yv), .string (bstr yn), .slice q2 ls.length c2] 46)) 46 (w.heap.size + 1) [.int .i64 k2, .string (bstr yv), .string (bstr yn), .slice q2 ls.length c2] := Arr.new2 w _ _ _ _ rfl
    obtain ⟨w0, hw0⟩ : ∃ w0, w0 = ((w.alloc (.cells #[.int .i64 k, .string (bstr xv), .string (bstr xn), .slice q ks.length c] 46)).alloc (.cells #[.int .i64 k2, .string (bstr yv), .string (bstr yn), .slice q2 ls.length c2] 46)) := ⟨_, rfl⟩
    rw [← hw0] at hb ha1 ha2
    have HW := hiD hw0
    have HB := hiD hb
    have HA1 := hiD ha1
    have HA2 := hiD ha2
    have HIH : Hid (∀ (x y : Ex) (vx vy : Value) (P Q : Nat → Prop) (W : World), sizeE x ≤ n → sizeE y ≤ 900000 → RdE P W x vx → RdE Q W y vy → (∀ b, P b → b < W.heap.size) → (∀ b, Q b → b < W.heap.size) → Calls Tryz.prog 110 #[vx, vy] W fun r w' => r = .returned (.int .i64 (cmpE x y)) ∧ Below W.heap.size W w') := ih (by omega)
    have HK : Hid (0 < ks.length → ∃ b o, q = some ⟨b, o, none⟩ ∧ P b ∧ RdL P w ks b o) := hk
    have HL : Hid (0 < ls.length → ∃ b o, q2 = some ⟨b, o, none⟩ ∧ Q b ∧ RdL Q w ls b o) := hl
    have H1 := hiD (Tryz.cmp_Compare_int k k2)
    have H2 := hiD (Tryz.strings_Compare (bstr xv) (bstr yv))
    have H3 := hiD (Tryz.strings_Compare (bstr xn) (bstr yn))
    have HN := hiD hn
    clear h1 h2 hk hl hx hy hb ha1 ha2 hw0 ih hn
    go_enter Tryz.func110, Tryz.ntmps110
    go_wp2_with fail
    rw [← HW.out]
    have a0 := HA1.out.cell 0
    have a1 := HA1.out.cell 1
    have a2 := HA1.out.cell 2
    have e0 := HA2.out.cell 0
    have e1 := HA2.out.cell 1
    have e2 := HA2.out.cell 2
    simp only [List.getElem?_cons_zero, List.getElem?_cons_succ] at a0 a1 a2 e0 e1 e2
    refine wp_region_still_tail 15 (by kernel_rfl) (by kernel_rfl) ?_
    simp only [List.take_succ_cons, List.take_zero, List.drop_succ_cons, List.drop_zero]
    repeat first | still_step | still_call (H1.out _) | still_call (H2.out _) | still_call (H3.out _)
    refine wpStill_nil ?_
    change wpList _ _ _ _ _ w0.drew
    have HBd : Hid (Below w0.heap.size w0 w0.drew) := (Below.refl _ _).drew
    have HB2 := hiD (HB.out.trans (HBd.out.mono HB.out.size))
    have HA12 := hiD (HA1.out.later HBd.out)
    have HA22 := hiD (HA2.out.later HBd.out)
    rw [bstr_data, bstr_data, bstr_data, bstr_data]
    obtain ⟨A, hA⟩ : ∃ A, A = Lib.compareInt k k2 := ⟨_, rfl⟩
    obtain ⟨B, hB⟩ : ∃ B, B = Lib.compareBytes xv yv := ⟨_, rfl⟩
    obtain ⟨C, hC⟩ : ∃ C, C = Lib.compareBytes xn yn := ⟨_, rfl⟩
    rw [← hA, ← hB, ← hC]
    have HE : Hid (cmpE (.mk k xv xn ks) (.mk k2 yv yn ls) = if orL [A, B, C] = 0 then cmpL ks ls else orL [A, B, C]) := by show _ = _; rw [← orL4, hA, hB, hC]; unfold cmpE; rfl
    clear hA hB hC a0 a1 a2 e0 e1 e2 HA1 HA2 HW H1 H2 H3
    generalize w0.drew = w2 at HB2 HA12 HA22 ⊢
    clear HBd HB
    have HOR : Hid (Calls Tryz.prog 119 #[.slice (some ⟨w2.heap.size, 0, none⟩) 3 3] (w2.alloc (.cells #[.int .i64 A, .int .i64 B, .int .i64 C] 3)) fun r w' => r = .returned (.int .i64 (orL [A, B, C])) ∧ w2.alloc (.cells #[.int .i64 A, .int .i64 B, .int .i64 C] 3) = w') := or_any [A, B, C] (by simp) w2.heap.size _ (Arr.new' _ _ _ _ rfl)
    have HB3 : Hid (Below w2.heap.size w2 (w2.alloc (.cells #[.int .i64 A, .int .i64 B, .int .i64 C] 3))) := (Below.refl _ _).alloc (Nat.le_refl _) _
    obtain ⟨O, hO⟩ : ∃ O, O = orL [A, B, C] := ⟨_, rfl⟩
    rw [← hO] at HE HOR
    clear hO
    go_wp2_with fail
    refine HOR.out.mono ?_
    rintro r w3 ⟨rfl, hw3⟩
    have HA13 := hiD (HA12.out.later HB3.out)
    have HA23 := hiD (HA22.out.later HB3.out)
    have HB4 := hiD (HB2.out.trans (HB3.out.mono HB2.out.size))
    rw [hw3] at HA13 HA23 HB4
    clear hw3 HB3 HOR HA12 HA22 HB2
    have a3 := HA13.out.cell 3
    have e3 := HA23.out.cell 3
    simp only [List.getElem?_cons_zero, List.getElem?_cons_succ] at a3 e3
    by_cases hz : O = 0
    · have bz : (O != 0) = false := by rw [hz]; rfl
      have HE2 : Hid (cmpE (.mk k xv xn ks) (.mk k2 yv yn ls) = cmpL ks ls) := by show _ = _; rw [HE.out, if_pos hz]
      have HCF := hiD (cmpf_any n HIH ks ls q q2 c c2 P Q w3 hks (by have := HN.out; omega) hls
        (fun h => by
          obtain ⟨b, o, g1, g2, g3⟩ := HK.out h
          exact ⟨b, o, g1, g2, g3.keep (cells_below HB4.out hP) g2⟩)
        (fun h => by
          obtain ⟨b, o, g1, g2, g3⟩ := HL.out h
          exact ⟨b, o, g1, g2, g3.keep (cells_below HB4.out hQ) g2⟩)
        (fun b hb => Nat.lt_of_lt_of_le (hP b hb) HB4.out.size) (fun b hb => Nat.lt_of_lt_of_le (hQ b hb) HB4.out.size))
      clear hz
      go_wp2_with fail
      refine HCF.out.mono ?_
      rintro r w5 ⟨rfl, b5⟩
      have HB5 := hiD (HB4.out.trans (b5.mono HB4.out.size))
      clear b5
      go_wp2_with fail
      go_ret
      exact ⟨by rw [HE2.out]; rfl, HB5.out⟩
    · have bz : (O != 0) = true := by rw [bne_iff_ne]; exact hz
      have HE2 : Hid (cmpE (.mk k xv xn ks) (.mk k2 yv yn ls) = O) := by show _ = _; rw [HE.out, if_neg hz]
      clear hz
      go_wp2_with fail
      go_ret
      exact ⟨by rw [HE2.out]; rfl, HB4.out⟩
set_option maxRecDepth 100000 in
set_option maxHeartbeats 1000000 in
theorem esame_any (x y : Ex) (vx vy : Value) (P Q : Nat → Prop) (w : World) (hx : sizeE x ≤ 900000) (hy : sizeE y ≤ 900000) (h1 : RdE P w x vx) (h2 : RdE Q w y vy) (hP : ∀ b, P b → b < w.heap.size) (hQ : ∀ b, Q b → b < w.heap.size) :
    Calls Tryz.prog 91 #[vx, vy] w fun r w' => r = .returned (.bool (cmpE x y == 0)) ∧ Below w.heap.size w w' := by
  have G1 := hiD h1
  have G2 := hiD h2
  obtain ⟨q, c, rfl, _, _⟩ := h1.form
  obtain ⟨q2, c2, rfl, _, _⟩ := h2.form
  obtain ⟨k, xv, xn, ks⟩ := x
  obtain ⟨k2, yv, yn, ls⟩ := y
  unfold exv
  show Calls _ _ #[.agg #[.int .i64 k, .string (bstr xv), .string (bstr xn), .slice q ks.length c], .agg #[.int .i64 k2, .string (bstr yv), .string (bstr yn), .slice q2 ls.length c2]] _ _
  have HB : Hid (Below w.heap.size w ((w.alloc (.cells #[.int .i64 k, .string (bstr xv), .string (bstr xn), .slice q ks.length c] 46)).alloc (.cells #[.int .i64 k2, .string (bstr yv), .string (bstr yn), .slice q2 ls.length c2] 46))) := ((Below.refl _ _).alloc (Nat.le_refl _) _).alloc (by simp) _
  have HC := ecompare_any 900000 (Nat.le_refl _) (.mk k xv xn ks) (.mk k2 yv yn ls) _ _ P Q ((w.alloc (.cells #[.int .i64 k, .string (bstr xv), .string (bstr xn), .slice q ks.length c] 46)).alloc (.cells #[.int .i64 k2, .string (bstr yv), .string (bstr yn), .slice q2 ls.length c2] 46)) hx hy (G1.out.below HB.out hP) (G2.out.below HB.out hQ) (fun b hb => Nat.lt_of_lt_of_le (hP b hb) HB.out.size) (fun b hb => Nat.lt_of_lt_of_le (hQ b hb) HB.out.size)
  obtain ⟨E, hE⟩ : ∃ E, E = cmpE (.mk k xv xn ks) (.mk k2 yv yn ls) := ⟨_, rfl⟩
  rw [← hE] at HC ⊢
  have HC := hiD HC
  clear h1 h2 hx hy hE G1 G2
  go_enter Tryz.func91, Tryz.ntmps91
  go_wp2_with fail
  refine HC.out.mono ?_
  rintro r w5 ⟨rfl, b5⟩
  have HB5 := hiD (HB.out.trans (b5.mono HB.out.size))
  clear b5
  go_wp2_with fail
  go_ret
  exact ⟨rfl, HB5.out⟩
theorem cb_flip : ∀ (a b : List UInt8), Lib.compareBytes b a = - Lib.compareBytes a b
 | [], [] => rfl
 | [], _ :: _ => rfl
 | _ :: _, [] => rfl
 | a :: xs, b :: bs => by
  unfold Lib.compareBytes
  by_cases h : a < b
  ·have h2 : ¬ b < a := by rw [UInt8.lt_iff_toNat_lt] at *; omega
   rw [if_pos h, if_neg h2, if_pos h]; rfl
  ·by_cases h2 : b < a
   ·rw [if_pos h2, if_neg h, if_pos h2]
   ·rw [if_neg h, if_neg h2, if_neg h2, if_neg h]; exact cb_flip xs bs
theorem cb_eq : ∀ (a b : List UInt8), Lib.compareBytes a b = 0 → a = b
 | [], [], _ => rfl
 | [], _ :: _, h => by simp [Lib.compareBytes] at h
 | _ :: _, [], h => by simp [Lib.compareBytes] at h
 | a :: xs, b :: bs, h => by
  unfold Lib.compareBytes at h
  by_cases h1 : a < b
  ·rw [if_pos h1] at h; cases h
  ·by_cases h2 : b < a
   ·rw [if_neg h1, if_pos h2] at h; cases h
   ·rw [if_neg h1, if_neg h2] at h
    have e : a = b := by
     apply UInt8.toNat_inj.1
     rw [UInt8.lt_iff_toNat_lt] at *; omega
    rw [e, cb_eq xs bs h]
theorem cb_self : ∀ (a : List UInt8), Lib.compareBytes a a = 0
 | [] => rfl
 | a :: xs => by
  unfold Lib.compareBytes
  have h2 : ¬ a < a := by rw [UInt8.lt_iff_toNat_lt]; omega
  rw [if_neg h2, if_neg h2]; exact cb_self xs
theorem cb_three : ∀ (a b : List UInt8), Lib.compareBytes a b = -1 ∨ Lib.compareBytes a b = 0 ∨ Lib.compareBytes a b = 1
 | [], [] => .inr (.inl rfl)
 | [], _ :: _ => .inl rfl
 | _ :: _, [] => .inr (.inr rfl)
 | a :: xs, b :: bs => by
  unfold Lib.compareBytes
  by_cases h1 : a < b
  ·rw [if_pos h1]; exact .inl rfl
  ·by_cases h2 : b < a
   ·rw [if_neg h1, if_pos h2]; exact .inr (.inr rfl)
   ·rw [if_neg h1, if_neg h2]; exact cb_three xs bs
theorem cb_up : ∀ (a b c : List UInt8), Lib.compareBytes a b < 0 → Lib.compareBytes b c < 0 → Lib.compareBytes a c < 0
 | _, [], [], _, h => by simp [Lib.compareBytes] at h
 | [], [], _ :: _, h, _ => by simp [Lib.compareBytes] at h
 | _ :: _, [], _ :: _, h, _ => by simp [Lib.compareBytes] at h
 | _, _ :: _, [], _, h => by simp [Lib.compareBytes] at h
 | [], _ :: _, _ :: _, _, _ => by simp [Lib.compareBytes]
 | a :: xs, b :: bs, c :: cs, h1, h2 => by
  unfold Lib.compareBytes at h1 h2 ⊢
  by_cases x1 : a < b
  ·by_cases x2 : b < c
   ·rw [if_pos (by rw [UInt8.lt_iff_toNat_lt] at *; omega)]; decide
   ·by_cases x3 : c < b
    ·rw [if_neg x2, if_pos x3] at h2; exact absurd h2 (by decide)
    ·rw [if_pos (by rw [UInt8.lt_iff_toNat_lt] at *; omega)]; decide
  ·by_cases y1 : b < a
   ·rw [if_neg x1, if_pos y1] at h1; exact absurd h1 (by decide)
   ·rw [if_neg x1, if_neg y1] at h1
    by_cases x2 : b < c
    ·rw [if_pos (by rw [UInt8.lt_iff_toNat_lt] at *; omega)]; decide
    ·by_cases x3 : c < b
     ·rw [if_neg x2, if_pos x3] at h2; exact absurd h2 (by decide)
     ·rw [if_neg x2, if_neg x3] at h2
      have e1 : ¬ a < c := by rw [UInt8.lt_iff_toNat_lt] at *; omega
      have e2 : ¬ c < a := by rw [UInt8.lt_iff_toNat_lt] at *; omega
      rw [if_neg e1, if_neg e2]
      exact cb_up xs bs cs h1 h2

def ord (a b : ByteArray) : Int := Lib.compareBytes a.data.toList b.data.toList
def ord2 (t r u q : ByteArray) : Int := if ord t u = 0 then ord r q else ord t u
theorem ord_three (a b : ByteArray) : ord a b = -1 ∨ ord a b = 0 ∨ ord a b = 1 := cb_three _ _
theorem ord_flip (a b : ByteArray) : ord b a = - ord a b := cb_flip _ _
theorem ord_eq {a b : ByteArray} (h : ord a b = 0) : a = b := bytes_inj (cb_eq _ _ h)
theorem ord_self (a : ByteArray) : ord a a = 0 := cb_self _
theorem ord2_three (t r u q : ByteArray) : ord2 t r u q = -1 ∨ ord2 t r u q = 0 ∨ ord2 t r u q = 1 := by
 unfold ord2; split
 ·exact ord_three _ _
 ·exact ord_three _ _
theorem ord2_flip (t r u q : ByteArray) : ord2 u q t r = - ord2 t r u q := by
 unfold ord2
 rw [ord_flip t u, ord_flip r q]
 by_cases h : ord t u = 0
 ·rw [if_pos h, if_pos (by omega)]
 ·rw [if_neg h, if_neg (by omega)]
theorem ord2_zero (t r u q : ByteArray) : ord2 t r u q = 0 ↔ t = u ∧ r = q := by
 unfold ord2
 constructor
 ·intro h
  by_cases h1 : ord t u = 0
  ·rw [if_pos h1] at h; exact ⟨ord_eq h1, ord_eq h⟩
  ·rw [if_neg h1] at h; exact absurd h h1
 ·rintro ⟨rfl, rfl⟩
  rw [if_pos (ord_self _)]; exact ord_self _
theorem ord_up {a b c : ByteArray} (h1 : ord a b < 0) (h2 : ord b c < 0) : ord a c < 0 := cb_up _ _ _ h1 h2
theorem ord2_le (t r u q v p : ByteArray) (h1 : ¬ 0 < ord2 t r u q) (h2 : ¬ 0 < ord2 u q v p) : ord2 t r v p ≤ 0 := by
 unfold ord2 at *
 by_cases x : ord t u = 0
 ·rw [if_pos x] at h1
  obtain rfl := ord_eq x
  by_cases y : ord t v = 0
  ·rw [if_pos y] at h2 ⊢
   by_cases z : ord r q = 0
   ·obtain rfl := ord_eq z; omega
   ·by_cases z2 : ord q p = 0
    ·obtain rfl := ord_eq z2; omega
    ·have := ord_up (a := r) (b := q) (c := p) (by omega) (by omega); omega
  ·rw [if_neg y] at h2 ⊢; omega
 ·rw [if_neg x] at h1
  by_cases y : ord u v = 0
  ·obtain rfl := ord_eq y
   rw [if_neg x]; omega
  ·rw [if_neg y] at h2
   have := ord_up (a := t) (b := u) (c := v) (by omega) (by omega)
   rw [if_neg (by omega)]; omega

theorem cb_drop (a b : List UInt8) : ∀ (k : Nat), k ≤ a.length → k ≤ b.length → (∀ j, (h1 : j < a.length) → (h2 : j < b.length) → j < k → a[j] = b[j]) → Lib.compareBytes a b = Lib.compareBytes (a.drop k) (b.drop k)
 | 0, _, _, _ => by simp
 | k + 1, h1, h2, h => by
  rw [cb_drop a b k (by omega) (by omega) (fun j x y z => h j x y (by omega))]
  rw [List.drop_eq_getElem_cons (i := k) (l := a) (by omega), List.drop_eq_getElem_cons (i := k) (l := b) (by omega)]
  have e := h k (by omega) (by omega) (by omega)
  rw [e, Lib.compareBytes]
  have h2 : ¬ b[k] < b[k] := by rw [UInt8.lt_iff_toNat_lt]; omega
  rw [if_neg h2, if_neg h2]
theorem ord_lt {a b : ByteArray} {k : Nat} (h : ∀ j, (h1 : j < a.size) → (h2 : j < b.size) → j < k → a[j] = b[j]) (ha : k < a.size) (hb : k < b.size) (hl : a[k] < b[k]) : ord a b = -1 := by
 have la : a.data.toList.length = a.size := by rw [Array.length_toList]; rfl
 have lb : b.data.toList.length = b.size := by rw [Array.length_toList]; rfl
 unfold ord
 rw [cb_drop _ _ k (by omega) (by omega) (fun j x y z => h j (by omega) (by omega) z)]
 rw [List.drop_eq_getElem_cons (i := k) (l := a.data.toList) (by omega), List.drop_eq_getElem_cons (i := k) (l := b.data.toList) (by omega), Lib.compareBytes]
 exact if_pos hl
theorem ord_gt {a b : ByteArray} {k : Nat} (h : ∀ j, (h1 : j < a.size) → (h2 : j < b.size) → j < k → a[j] = b[j]) (ha : k < a.size) (hb : k < b.size) (hl : b[k] < a[k]) : ord a b = 1 := by
 have h' := ord_lt (a := b) (b := a) (k := k) (fun j x y z => (h j y x z).symm) hb ha hl
 have := ord_flip a b; omega
theorem ord_end {a b : ByteArray} {k : Nat} (h : ∀ j, (h1 : j < a.size) → (h2 : j < b.size) → j < k → a[j] = b[j]) (ha : k ≤ a.size) (hb : k ≤ b.size) (he : ¬ (k < a.size ∧ k < b.size)) : ord a b = if a.size < b.size then -1 else if b.size < a.size then 1 else 0 := by
 have la : a.data.toList.length = a.size := by rw [Array.length_toList]; rfl
 have lb : b.data.toList.length = b.size := by rw [Array.length_toList]; rfl
 unfold ord
 rw [cb_drop _ _ k (by omega) (by omega) (fun j x y z => h j (by omega) (by omega) z)]
 by_cases h1 : k < a.size
 ·have h2 : b.size = k := by omega
  rw [List.drop_eq_getElem_cons (i := k) (l := a.data.toList) (by omega), show b.data.toList.drop k = [] from List.drop_eq_nil_of_le (by omega)]
  rw [if_neg (by omega), if_pos (by omega)]; rfl
 ·rw [show a.data.toList.drop k = [] from List.drop_eq_nil_of_le (by omega)]
  by_cases h2 : k < b.size
  ·rw [List.drop_eq_getElem_cons (i := k) (l := b.data.toList) (by omega), if_pos (by omega)]; rfl
  ·rw [show b.data.toList.drop k = [] from List.drop_eq_nil_of_le (by omega), if_neg (by omega), if_neg (by omega)]; rfl

theorem below_dr {B : Nat} {w w' : World} (h : Below B w w') (n : Nat) : Below B w (w'.drewN n) := ⟨h.os, h.tape, h.output, h.size, h.block⟩
def Same (a b : ByteArray) (k : Nat) : Prop := ∀ j, (h1 : j < a.size) → (h2 : j < b.size) → j < k → a[j] = b[j]
def ends (a b : ByteArray) : Int := if a.size < b.size then -1 else if b.size < a.size then 1 else 0
theorem cmpE_lt {k k2 : Int} {v n v2 n2 : List UInt8} {ks ls : List Ex} (h : k < k2) : cmpE (.mk k v n ks) (.mk k2 v2 n2 ls) = -1 := by
 unfold cmpE
 simp [orL, Ex.kind, Lib.compareInt, h]
theorem cmpE_gt {k k2 : Int} {v n v2 n2 : List UInt8} {ks ls : List Ex} (h : k2 < k) : cmpE (.mk k v n ks) (.mk k2 v2 n2 ls) = 1 := by
 unfold cmpE
 have h2 : ¬ k < k2 := by omega
 simp [orL, Ex.kind, Lib.compareInt, h, h2]
theorem cmpE_via {k : Int} {v n v2 n2 : List UInt8} {ks ls : List Ex} (h : Lib.compareBytes v v2 ≠ 0) : cmpE (.mk k v n ks) (.mk k v2 n2 ls) = Lib.compareBytes v v2 := by
 unfold cmpE
 simp [orL, Ex.kind, Ex.via, Lib.compareInt, h]
theorem cmpE_nm {k : Int} {v n v2 n2 : List UInt8} {ks ls : List Ex} (h1 : Lib.compareBytes v v2 = 0) (h : Lib.compareBytes n n2 ≠ 0) : cmpE (.mk k v n ks) (.mk k v2 n2 ls) = Lib.compareBytes n n2 := by
 unfold cmpE
 simp [orL, Ex.kind, Ex.via, Ex.nm, Lib.compareInt, h, h1]
theorem cmpE_kids {k : Int} {v n v2 n2 : List UInt8} {ks ls : List Ex} (h1 : Lib.compareBytes v v2 = 0) (h : Lib.compareBytes n n2 = 0) : cmpE (.mk k v n ks) (.mk k v2 n2 ls) = cmpL ks ls := by
 rw [cmpE, show Lib.compareInt k (Ex.mk k v2 n2 ls).kind = 0 by simp [Ex.kind, Lib.compareInt]]
 simp only [orL, Ex.via, Ex.nm, Ex.kids, h1, h, if_true]
 by_cases h3 : cmpL ks ls = 0 <;> simp [h3]
theorem cmpL_end {ks ls : List Ex} {i : Nat} (h1 : i ≤ ks.length) (h2 : i ≤ ls.length) (h : ¬ (i < ks.length ∧ i < ls.length)) : cmpL (ks.drop i) (ls.drop i) = if ks.length < ls.length then -1 else if ls.length < ks.length then 1 else 0 := by
 by_cases h3 : i < ks.length
 ·rw [List.drop_eq_getElem_cons h3, show ls.drop i = [] from List.drop_eq_nil_of_le (by omega), if_neg (by omega), if_pos (by omega)]
  unfold cmpL; rfl
 ·rw [show ks.drop i = [] from List.drop_eq_nil_of_le (by omega)]
  by_cases h4 : i < ls.length
  ·rw [List.drop_eq_getElem_cons h4, if_pos (by omega)]
   unfold cmpL; rfl
  ·rw [show ls.drop i = [] from List.drop_eq_nil_of_le (by omega), if_neg (by omega), if_neg (by omega)]
   unfold cmpL; rfl
open errAs (ErrT)
def Env (w : World) : Prop := ResT w ∧ ErrT w
theorem Env.below {w w' : World} (h : Env w) (hb : Below w.heap.size w w') : Env w' := ⟨h.1.below hb h.1.lt, errT_below h.2 hb⟩
theorem ReadPost.ok {α : Type} {val : Nat → α → World → Value → Prop} {zero : Value} {w : World} {r : RR α} {e : Ending} {w' : World} {x : α} (h : ReadPost val zero w r e w') (hr : r = .ok x) : ∃ v, e = .returned (.tuple #[v, .nilIface]) ∧ val w.heap.size x w' v ∧ Below w.heap.size w w' := by
 obtain ⟨h1, ⟨y, v, h2, h3, h4⟩ | ⟨c, i, _, h2, _⟩⟩ := h
 ·rw [hr] at h2; cases h2; exact ⟨v, h3, h4, h1⟩
 ·rw [hr] at h2; cases h2
theorem ReadPost.bad {α : Type} {val : Nat → α → World → Value → Prop} {zero : Value} {w : World} {r : RR α} {e : Ending} {w' : World} {c i : Nat} (h : ReadPost val zero w r e w') (hr : r = .bad c i) : e = .returned (.tuple #[zero, faultN c i]) ∧ c ≠ 0 ∧ Below w.heap.size w w' := by
 obtain ⟨h1, ⟨y, v, h2, _⟩ | ⟨c', i', h0, h2, h3⟩⟩ := h
 ·rw [hr] at h2; cases h2
 ·rw [hr] at h2; cases h2; exact ⟨h3, h0, h1⟩
theorem VS.at {B : Nat} {l : List DefB} {w : World} {q : Option Addr} {c : Nat} (h : RdK kdDef (Bt B w.heap.size) w l (.slice q l.length c)) {i : Nat} (hi : i < l.length) : ∃ b o q2 c2, q = some ⟨b, o, none⟩ ∧ b < w.heap.size ∧ w.cell? ⟨b, o + i * 2, none⟩ = some (.string (bstr (l.getD i ([], [])).1)) ∧ w.cell? ⟨b, o + i * 2 + 1, none⟩ = some (.slice q2 (l.getD i ([], [])).2.length c2) := by
 obtain ⟨q', c', e, _, h3⟩ := h
 simp only [Value.slice.injEq] at e
 obtain ⟨rfl, _, rfl⟩ := e
 obtain ⟨b, o, rfl, hb, cs, h6, h7⟩ := h3 (by omega)
 have key : ∀ (l : List DefB) (cs : List Value) (o i : Nat), CellsK kdDef (Bt B w.heap.size) w l cs → (∀ j u, cs[j]? = some u → w.cell? ⟨b, o + j, none⟩ = some u) → i < l.length → ∃ q2 c2, w.cell? ⟨b, o + i * 2, none⟩ = some (.string (bstr (l.getD i ([], [])).1)) ∧ w.cell? ⟨b, o + i * 2 + 1, none⟩ = some (.slice q2 (l.getD i ([], [])).2.length c2) := by
  intro l
  induction l with
  | nil => intro cs o i _ _ h; simp at h
  | cons d r ih =>
   intro cs o i hc hx hi
   obtain ⟨a, b', rfl, ⟨v, rfl, hv⟩, h2⟩ := hc
   cases i with
   | zero =>
    obtain ⟨q2, c2, rfl, _⟩ := hv
    exact ⟨q2, c2, hx 0 _ rfl, hx 1 _ rfl⟩
   | succ i =>
    have := ih b' (o + 2) i h2 (fun j u hj => by rw [show o + 2 + j = o + (j + 2) by omega]; exact hx (j + 2) u hj) (by simpa using hi)
    rw [show o + 2 + i * 2 = o + (i + 1) * 2 by omega] at this
    exact this
 obtain ⟨q2, c2, h8, h9⟩ := key l cs o i h6 h7 hi
 exact ⟨b, o, q2, c2, rfl, hb.2, h8, h9⟩
mutual
theorem okE_le {M N : Nat} (h : M ≤ N) : ∀ e : Ex, okE M e → okE N e
 | .mk k v n ks, he => by
  rw [okE] at he ⊢
  exact ⟨Nat.le_trans he.1 h, Nat.le_trans he.2.1 h, okL_le h ks he.2.2⟩
theorem okL_le {M N : Nat} (h : M ≤ N) : ∀ l : List Ex, okL M l → okL N l
 | [], he => by rw [okL]; trivial
 | e :: r, he => by
  rw [okL] at he ⊢
  exact ⟨okE_le h e he.1, okL_le h r he.2⟩
end
theorem readF_right {l : List UInt8} {e : Ex} (h : readF exprF l = .ok e) : rightE e = true ∧ okE 100000 e ∧ sizeE e ≤ 64 := by
 unfold readF at h
 split at h
 ·rename_i h0
  have ho : OkTs (tokS l).1 := tokF_ok _ _ _ (Nat.lt_succ_self _) h0
  cases hr : exprF (tokS l).1 ps0 with
  | ok x s =>
   rw [hr] at h
   unfold endF at h
   rw [PR.then_ok] at h
   split at h
   ·cases h
    have := expr_right ho (okTs_pos ho) hr
    exact ⟨this.1, okE_le (by decide) _ this.2.1, this.2.2⟩
   ·cases h
  | bad k i => rw [hr] at h; cases h
 ·cases h
theorem lit_arr1 (W : World) : Arr ((W.alloc (.cells #[.int .i64 1, .string ⟨#[]⟩, .string ⟨#[98]⟩, .slice none 0 0, .int .i64 1, .string ⟨#[]⟩, .string ⟨#[99]⟩, .slice none 0 0] 46)).alloc (.cells #[.int .i64 1, .string ⟨#[]⟩, .string ⟨#[97]⟩, .slice none 0 0, .int .i64 4, .string ⟨#[]⟩, .string ⟨#[]⟩, .slice (some ⟨W.heap.size, 0, none⟩) 2 2] 46)) 46 W.heap.size [.int .i64 1, .string ⟨#[]⟩, .string ⟨#[98]⟩, .slice none 0 0, .int .i64 1, .string ⟨#[]⟩, .string ⟨#[99]⟩, .slice none 0 0] := (Arr.new' _ _ _ _ rfl).alloc _
theorem lit_arr2 (W : World) : Arr ((W.alloc (.cells #[.int .i64 1, .string ⟨#[]⟩, .string ⟨#[98]⟩, .slice none 0 0, .int .i64 1, .string ⟨#[]⟩, .string ⟨#[99]⟩, .slice none 0 0] 46)).alloc (.cells #[.int .i64 1, .string ⟨#[]⟩, .string ⟨#[97]⟩, .slice none 0 0, .int .i64 4, .string ⟨#[]⟩, .string ⟨#[]⟩, .slice (some ⟨W.heap.size, 0, none⟩) 2 2] 46)) 46 (W.heap.size + 1) [.int .i64 1, .string ⟨#[]⟩, .string ⟨#[97]⟩, .slice none 0 0, .int .i64 4, .string ⟨#[]⟩, .string ⟨#[]⟩, .slice (some ⟨W.heap.size, 0, none⟩) 2 2] := Arr.new2 _ _ _ _ _ rfl
theorem lit_rd (W : World) : RdE (Bt W.heap.size (W.heap.size + 2)) ((W.alloc (.cells #[.int .i64 1, .string ⟨#[]⟩, .string ⟨#[98]⟩, .slice none 0 0, .int .i64 1, .string ⟨#[]⟩, .string ⟨#[99]⟩, .slice none 0 0] 46)).alloc (.cells #[.int .i64 1, .string ⟨#[]⟩, .string ⟨#[97]⟩, .slice none 0 0, .int .i64 4, .string ⟨#[]⟩, .string ⟨#[]⟩, .slice (some ⟨W.heap.size, 0, none⟩) 2 2] 46)) aw2E (.agg #[.int .i64 3, .string ⟨#[]⟩, .string ⟨#[]⟩, .slice (some ⟨W.heap.size + 1, 0, none⟩) 2 2]) := by
 have h1 := lit_arr1 W
 have h2 := lit_arr2 W
 generalize ((W.alloc (.cells #[.int .i64 1, .string ⟨#[]⟩, .string ⟨#[98]⟩, .slice none 0 0, .int .i64 1, .string ⟨#[]⟩, .string ⟨#[99]⟩, .slice none 0 0] 46)).alloc (.cells #[.int .i64 1, .string ⟨#[]⟩, .string ⟨#[97]⟩, .slice none 0 0, .int .i64 4, .string ⟨#[]⟩, .string ⟨#[]⟩, .slice (some ⟨W.heap.size, 0, none⟩) 2 2] 46)) = w at h1 h2 ⊢
 unfold aw2E RdE
 refine ⟨_, _, rfl, Nat.le_refl _, fun _ => ⟨W.heap.size + 1, 0, rfl, ⟨by omega, by omega⟩, ?_⟩⟩
 unfold RdL
 refine ⟨⟨_, _, _, _, h2.cell 0, h2.cell 1, h2.cell 2, h2.cell 3, ?_⟩, ?_⟩
 ·unfold RdE; exact ⟨none, 0, rfl, Nat.le_refl _, fun h => by simp at h⟩
 unfold RdL
 refine ⟨⟨_, _, _, _, h2.cell 4, h2.cell 5, h2.cell 6, h2.cell 7, ?_⟩, by unfold RdL; trivial⟩
 unfold RdE
 refine ⟨_, _, rfl, Nat.le_refl _, fun _ => ⟨W.heap.size, 0, rfl, ⟨by omega, by omega⟩, ?_⟩⟩
 unfold RdL
 refine ⟨⟨_, _, _, _, h1.cell 0, h1.cell 1, h1.cell 2, h1.cell 3, ?_⟩, ?_⟩
 ·unfold RdE; exact ⟨none, 0, rfl, Nat.le_refl _, fun h => by simp at h⟩
 unfold RdL
 refine ⟨⟨_, _, _, _, h1.cell 4, h1.cell 5, h1.cell 6, h1.cell 7, ?_⟩, by unfold RdL; trivial⟩
 unfold RdE; exact ⟨none, 0, rfl, Nat.le_refl _, fun h => by simp at h⟩
def GoodA (a : AlB) : Prop := isName (bstr a.1) = true ∧ (a.2 = [] ∨ isName (bstr a.2) = true)
def FineE (e : Ex) : Prop := rightE e = true ∧ okE 64 e ∧ sizeE e ≤ 64
def GoodM (m : MemB) : Prop := isName (bstr m.1) = true ∧ ((m.2.1 = 1 ∧ 1 ≤ m.2.2.1.length ∧ m.2.2.1.length ≤ 32 ∧ (∀ a ∈ m.2.2.1, GoodA a) ∧ m.2.2.2 = ex0) ∨ (m.2.1 = 2 ∧ m.2.2.1 = [] ∧ FineE m.2.2.2))
def GoodD (d : DefB) : Prop := isName (bstr d.1) = true ∧ d.2.length ≤ 64 ∧ ∀ m ∈ d.2, GoodM m
def GoodS (l : List DefB) : Prop := l.length ≤ 64 ∧ ∀ d ∈ l, GoodD d
theorem allowed_good {ts : List Tok} {s : PS} {a : AlB} {s' : PS} (h : allowedF ts s = .ok a s') : GoodA a := by
 unfold allowedF at h
 obtain ⟨x, s1, e1, e⟩ := then_some h
 split at e
 ·obtain ⟨y, s2, e2, e⟩ := then_some e
  cases e
  exact ⟨(name_some e1).1, .inr (name_some e2).1⟩
 ·cases e
  exact ⟨(name_some e1).1, .inl rfl⟩
theorem all_snoc {α : Type} {p : α → Prop} {l : List α} {x : α} (h : ∀ y ∈ l, p y) (hx : p x) : ∀ y ∈ l ++ [x], p y := by
 intro y hy
 rcases List.mem_append.1 hy with hy | hy
 ·exact h y hy
 ·rw [List.mem_singleton] at hy
  exact hy ▸ hx
theorem types_good {ts : List Tok} : ∀ (n : Nat) (acc : List AlB) (s : PS) (l : List AlB) (s' : PS), typesF ts n acc s = .ok l s' → acc.length + n = 33 → acc.length ≤ 32 → (∀ a ∈ acc, GoodA a) → 1 ≤ l.length ∧ l.length ≤ 32 ∧ ∀ a ∈ l, GoodA a
 | 0, acc, s, l, s', h, hn, ha, hg => by omega
 | n + 1, acc, s, l, s', h, hn, ha, hg => by
  unfold typesF at h
  split at h
  ·cases h
  ·rename_i h32
   obtain ⟨a, s1, e1, e2⟩ := then_some h
   split at e2
   ·exact types_good n _ _ _ _ e2 (by rw [List.length_append, List.length_singleton]; omega) (by rw [List.length_append, List.length_singleton]; omega) (all_snoc hg (allowed_good e1))
   ·cases e2
    exact ⟨by rw [List.length_append, List.length_singleton]; omega, by rw [List.length_append, List.length_singleton]; omega, all_snoc hg (allowed_good e1)⟩
theorem member_good {ts : List Tok} (h : OkTs ts) {s : PS} {m : MemB} {s' : PS} (hi : s.i < ts.length) (e : memberF ts s = .ok m s') : GoodM m := by
 by_cases hr : txt ts s.i = wRelB
 ·rw [memberF_rel hr] at e
  obtain ⟨n, s1, e1, e⟩ := then_some e
  obtain ⟨_, s2, e2, e⟩ := then_some e
  obtain ⟨l, s3, e3, e⟩ := then_some e
  obtain ⟨_, s4, e4, e⟩ := then_some e
  cases e
  have k := types_good 33 [] _ _ _ e3 rfl (by decide) (fun a ha => by cases ha)
  exact ⟨(name_some e1).1, .inl ⟨rfl, k.1, k.2.1, k.2.2, rfl⟩⟩
 ·rw [memberF_perm hr] at e
  obtain ⟨_, s0, e0, e⟩ := then_some e
  obtain ⟨n, s1, e1, e⟩ := then_some e
  obtain ⟨_, s2, e2, e⟩ := then_some e
  obtain ⟨x, s3, e3, e⟩ := then_some e
  obtain ⟨_, s4, e4, e⟩ := then_some e
  cases e
  have k0 := (keeps_want h (by decide) _ _ _ hi e0).1
  have k1 := (keeps_name h _ _ _ k0 e1).1
  have k2 := (keeps_want h (by decide) _ _ _ k1 e2).1
  exact ⟨(name_some e1).1, .inr ⟨rfl, rfl, expr_right h k2 e3⟩⟩
theorem members_good {ts : List Tok} (h : OkTs ts) : ∀ (n : Nat) (acc : List MemB) s l s', s.i < ts.length → membersF ts n acc s = .ok l s' → acc.length ≤ 64 → (∀ m ∈ acc, GoodM m) → l.length ≤ 64 ∧ ∀ m ∈ l, GoodM m
 | 0, acc, s, l, s', hi, e, ha, hg => by rw [membersF] at e; cases e; exact ⟨ha, hg⟩
 | n + 1, acc, s, l, s', hi, e, ha, hg => by
  rw [membersF] at e
  split at e
  ·split at e
   ·rename_i h64
    obtain ⟨m, s1, e1, e⟩ := then_some e
    exact members_good h n _ _ _ _ (keeps_member h _ _ _ hi e1) e (by rw [List.length_append, List.length_singleton]; omega) (all_snoc hg (member_good h hi e1))
   ·cases e
  ·cases e; exact ⟨ha, hg⟩
theorem def_good {ts : List Tok} (h : OkTs ts) {s : PS} {d : DefB} {s' : PS} (hi : s.i < ts.length) (e : defF ts s = .ok d s') : GoodD d := by
 unfold defF at e
 obtain ⟨_, s0, e0, e⟩ := then_some e
 obtain ⟨n, s1, e1, e⟩ := then_some e
 obtain ⟨_, s2, e2, e⟩ := then_some e
 obtain ⟨l, s3, e3, e⟩ := then_some e
 obtain ⟨_, s4, e4, e⟩ := then_some e
 cases e
 have k0 := (keeps_want h (by decide) _ _ _ hi e0).1
 have k1 := (keeps_name h _ _ _ k0 e1).1
 have k2 := (keeps_want h (by decide) _ _ _ k1 e2).1
 exact ⟨(name_some e1).1, members_good h _ _ _ _ _ k2 e3 (by decide) (fun m hm => by cases hm)⟩
theorem defs_good {ts : List Tok} (h : OkTs ts) : ∀ (n : Nat) (acc : List DefB) s l s', s.i < ts.length → defsF ts n acc s = .ok l s' → acc.length ≤ 64 → (∀ d ∈ acc, GoodD d) → GoodS l
 | 0, acc, s, l, s', hi, e, ha, hg => by rw [defsF] at e; cases e; exact ⟨ha, hg⟩
 | n + 1, acc, s, l, s', hi, e, ha, hg => by
  rw [defsF] at e
  split at e
  ·split at e
   ·rename_i h64
    obtain ⟨m, s1, e1, e⟩ := then_some e
    exact defs_good h n _ _ _ _ (keeps_def h _ _ _ hi e1) e (by rw [List.length_append, List.length_singleton]; omega) (all_snoc hg (def_good h hi e1))
   ·cases e
  ·cases e; exact ⟨ha, hg⟩
theorem readF_good {l : List UInt8} {d : List DefB} (h : readF schemaR l = .ok d) : GoodS d := by
 unfold readF at h
 split at h
 ·rename_i h0
  have ho : OkTs (tokS l).1 := tokF_ok _ _ _ (Nat.lt_succ_self _) h0
  cases hr : schemaR (tokS l).1 ps0 with
  | ok x s =>
   rw [hr] at h
   unfold endF at h
   rw [PR.then_ok] at h
   split at h
   ·cases h
    exact defs_good ho _ _ _ _ _ (okTs_pos ho) hr (by decide) (fun d hd => by cases hd)
   ·cases h
  | bad k i => rw [hr] at h; cases h
 ·cases h
theorem CellsK.at {α : Type} {K : Kd α} {P : Nat → Prop} {w : World} : ∀ {xs : List α} {cs : List Value} {i : Nat} {x : α}, CellsK K P w xs cs → xs[i]? = some x → ∃ a, K.rd P w x a ∧ ∀ j u, a[j]? = some u → cs[i * K.size + j]? = some u
 | [], _, i, x, _, hx => by simp at hx
 | y :: r, _, 0, x, ⟨a, b, rfl, h1, h2⟩, hx => by
  cases hx
  refine ⟨a, h1, fun j u hj => ?_⟩
  have hl : j < a.length := (List.getElem?_eq_some_iff.1 hj).1
  rw [Nat.zero_mul, Nat.zero_add, List.getElem?_append_left hl]
  exact hj
 | y :: r, _, i + 1, x, ⟨a, b, rfl, h1, h2⟩, hx => by
  obtain ⟨a2, h3, h4⟩ := CellsK.at h2 (by simpa using hx)
  refine ⟨a2, h3, fun j u hj => ?_⟩
  have hl := K.len h1
  rw [List.getElem?_append_right (by rw [hl, Nat.succ_mul]; omega), hl, show (i + 1) * K.size + j - K.size = i * K.size + j by rw [Nat.succ_mul]; omega]
  exact h4 j u hj
theorem RdK.at {α : Type} {K : Kd α} {P : Nat → Prop} {w : World} {xs : List α} {q : Option Addr} {n c i : Nat} {x : α} (h : RdK K P w xs (.slice q n c)) (hx : xs[i]? = some x) : ∃ b o a, q = some ⟨b, o, none⟩ ∧ P b ∧ K.rd P w x a ∧ ∀ j u, a[j]? = some u → w.cell? ⟨b, o + i * K.size + j, none⟩ = some u := by
 obtain ⟨q', c', e, _, h3⟩ := h
 simp only [Value.slice.injEq] at e
 obtain ⟨rfl, _, rfl⟩ := e
 have hl : i < xs.length := (List.getElem?_eq_some_iff.1 hx).1
 obtain ⟨b, o, rfl, hb, cs, h4, h5⟩ := h3 (by omega)
 obtain ⟨a, h6, h7⟩ := h4.at hx
 exact ⟨b, o, a, rfl, hb, h6, fun j u hj => by rw [Nat.add_assoc]; exact h5 _ _ (h7 j u hj)⟩
def RT (W : World) (tb : Nat) (ts : List Tok) : Prop := tb < W.heap.size ∧ ts.length ≤ 100000 ∧ ∀ i, i < ts.length → ∀ j, j < 3 → W.cell? ⟨tb, i * 3 + j, none⟩ = (tkv (ts.getD i tok0))[j]?
theorem RT.later {W W' : World} {tb : Nat} {ts : List Tok} (h : RT W tb ts) (hb : Below W.heap.size W W') : RT W' tb ts :=
 ⟨Nat.lt_of_lt_of_le h.1 hb.size, h.2.1, fun i hi j hj => (hb.cell (p := ⟨tb, i * 3 + j, none⟩) h.1).trans (h.2.2 i hi j hj)⟩
theorem OkTs.kind3 {ts : List Tok} (h : OkTs ts) {i : Nat} (hi : i < ts.length) : (ts.getD i tok0).1 = 3 ↔ txt ts i = [] := by
 obtain ⟨us, e, rfl, he, hu⟩ := h
 rw [List.length_append, List.length_singleton] at hi
 unfold txt
 by_cases h1 : i < us.length
 ·have e1 : (us ++ [e]).getD i tok0 = us[i] := by rw [List.getD_eq_getElem?_getD, List.getElem?_append_left h1, List.getElem?_eq_getElem h1]; rfl
  rw [e1]
  have g := hu us[i] (List.getElem_mem h1)
  refine ⟨fun h3 => absurd h3 g.kind, fun h0 => ?_⟩
  rcases g with ⟨_, h2, _⟩ | ⟨_, h2 | ⟨c, h2, _⟩⟩
  ·exact absurd h0 h2
  ·rw [h2] at h0; cases h0
  ·rw [h2] at h0; cases h0
 ·obtain rfl : i = us.length := by omega
  rw [List.getD_eq_getElem?_getD, List.getElem?_append_right (Nat.le_refl _), Nat.sub_self]
  exact ⟨fun _ => (Prod.mk.inj he).2, fun _ => (Prod.mk.inj he).1⟩
section
variable {W : World} {tb c k : Nat} {ts : List Tok} {s : PS}
set_option maxRecDepth 100000 in
set_option maxHeartbeats 2000000 in
theorem ris_any (ho : OkTs ts) (h : RT W tb ts) (hi : s.i < ts.length) (b : ByteArray) (t : List UInt8) (hb : b.data.toList = t) (ht : t ≠ []) : Calls Tryz.prog 14 #[.agg #[.slice (some ⟨tb, 0, none⟩) ts.length c, .int .i64 (s.i : Nat), .int .i64 (k : Nat), .int .i64 (s.o : Nat), .int .i64 (s.l : Nat)], .string b] W fun e w' => e = .returned (.bool (decide (k = 0) && decide (txt ts s.i = t))) ∧ Below W.heap.size W w' := by
 have HB0 : Hid (Below W.heap.size W (W.alloc (.cells #[.slice (some ⟨tb, 0, none⟩) ts.length c, .int .i64 (s.i : Nat), .int .i64 (k : Nat), .int .i64 (s.o : Nat), .int .i64 (s.l : Nat)] 56))) := (Below.refl _ _).alloc (Nat.le_refl _) _
 have HA0 : Hid (Arr (W.alloc (.cells #[.slice (some ⟨tb, 0, none⟩) ts.length c, .int .i64 (s.i : Nat), .int .i64 (k : Nat), .int .i64 (s.o : Nat), .int .i64 (s.l : Nat)] 56)) 56 W.heap.size [.slice (some ⟨tb, 0, none⟩) ts.length c, .int .i64 (s.i : Nat), .int .i64 (k : Nat), .int .i64 (s.o : Nat), .int .i64 (s.l : Nat)]) := Arr.new' _ _ _ _ rfl
 have hr := h.later HB0.out
 by_cases hk : k = 0
 ·subst hk
  have t0 : (W.alloc (.cells #[.slice (some ⟨tb, 0, none⟩) ts.length c, .int .i64 (s.i : Nat), .int .i64 0, .int .i64 (s.o : Nat), .int .i64 (s.l : Nat)] 56)).cell? ⟨tb, s.i * 3, none⟩ = some (.int .i64 (ts.getD s.i tok0).1) := hr.2.2 s.i hi 0 (by decide)
  have t1 : (W.alloc (.cells #[.slice (some ⟨tb, 0, none⟩) ts.length c, .int .i64 (s.i : Nat), .int .i64 0, .int .i64 (s.o : Nat), .int .i64 (s.l : Nat)] 56)).cell? ⟨tb, s.i * 3 + 1, none⟩ = some (.string (bstr (txt ts s.i))) := hr.2.2 s.i hi 1 (by decide)
  have h3 := ho.kind3 hi
  obtain ⟨tk, htk⟩ : ∃ x, x = (ts.getD s.i tok0).1 := ⟨_, rfl⟩
  obtain ⟨k1, hk1⟩ : ∃ x, x = bstr (txt ts s.i) := ⟨_, rfl⟩
  obtain ⟨d, hd⟩ : ∃ d, d = decide (txt ts s.i = t) := ⟨_, rfl⟩
  have he : (k1.toList == b.toList) = d := by
   rw [hk1, toList_data, toList_data, bstr_data, hb, hd, Bool.eq_iff_iff, beq_iff_eq, decide_eq_true_iff]
  have HD : Hid (tk = 3 → d = false) := fun h0 => by
   rw [hd]
   refine decide_eq_false fun h4 => ht ?_
   rw [← h4]
   exact h3.1 (htk ▸ h0)
  rw [← htk] at t0
  rw [← hk1] at t1
  rw [← hd]
  have hi0 : (0 : Int) ≤ (s.i : Int) := by omega
  have hi1 : (s.i : Int) < ts.length := by omega
  have a0 := HA0.out.cell 0
  have a1 := HA0.out.cell 1
  have a2 := HA0.out.cell 2
  simp only [List.getElem?_cons_zero, List.getElem?_cons_succ] at a0 a1 a2
  clear hd hk1 htk h3 hi hb h ht hr ho
  by_cases h3 : tk = 3
  ·have hdf := HD.out h3
   subst hdf
   go_enter Tryz.func14, Tryz.ntmps14
   go_wp2_with fail
   go_ret
   exact ⟨by simp, HB0.out⟩
  ·go_enter Tryz.func14, Tryz.ntmps14
   go_wp2_with fail
   go_ret
   exact ⟨by cases d <;> simp [h3], HB0.out⟩
 ·have hk1 : ¬ (k : Int) = 0 := by omega
  have HK : Hid ((decide (k = 0) && decide (txt ts s.i = t)) = false) := by show _ = _; rw [decide_eq_false hk]; rfl
  rw [HK.out]
  have a0 := HA0.out.cell 0
  have a1 := HA0.out.cell 1
  have a2 := HA0.out.cell 2
  simp only [List.getElem?_cons_zero, List.getElem?_cons_succ] at a0 a1 a2
  clear h hi hb ht hr ho
  go_enter Tryz.func14, Tryz.ntmps14
  go_wp2_with fail
  go_ret
  exact ⟨rfl, HB0.out⟩
set_option maxRecDepth 100000 in
set_option maxHeartbeats 2000000 in
theorem rbad_0 (e : Int) : Calls Tryz.prog 15 #[.agg #[.slice (some ⟨tb, 0, none⟩) ts.length c, .int .i64 (s.i : Nat), .int .i64 0, .int .i64 (s.o : Nat), .int .i64 (s.l : Nat)], .int .i64 e] W fun r w' => r = .returned (.agg #[.slice (some ⟨tb, 0, none⟩) ts.length c, .int .i64 (s.i : Nat), .int .i64 e, .int .i64 (s.o : Nat), .int .i64 (s.l : Nat)]) ∧ Below W.heap.size W w' := by
 have HB0 : Hid (Below W.heap.size W ((W.alloc (.cells #[.slice (some ⟨tb, 0, none⟩) ts.length c, .int .i64 (s.i : Nat), .int .i64 0, .int .i64 (s.o : Nat), .int .i64 (s.l : Nat)] 56)).alloc (.cells #[.slice none 0 0, .int .i64 0, .int .i64 0, .int .i64 0, .int .i64 0] 56))) := ((Below.refl _ _).alloc (Nat.le_refl _) _).alloc (by simp) _
 have HA0 : Hid (Arr ((W.alloc (.cells #[.slice (some ⟨tb, 0, none⟩) ts.length c, .int .i64 (s.i : Nat), .int .i64 0, .int .i64 (s.o : Nat), .int .i64 (s.l : Nat)] 56)).alloc (.cells #[.slice none 0 0, .int .i64 0, .int .i64 0, .int .i64 0, .int .i64 0] 56)) 56 W.heap.size [.slice (some ⟨tb, 0, none⟩) ts.length c, .int .i64 (s.i : Nat), .int .i64 0, .int .i64 (s.o : Nat), .int .i64 (s.l : Nat)]) := (Arr.new' _ _ _ _ rfl).alloc _
 have HR0 : Hid (Arr ((W.alloc (.cells #[.slice (some ⟨tb, 0, none⟩) ts.length c, .int .i64 (s.i : Nat), .int .i64 0, .int .i64 (s.o : Nat), .int .i64 (s.l : Nat)] 56)).alloc (.cells #[.slice none 0 0, .int .i64 0, .int .i64 0, .int .i64 0, .int .i64 0] 56)) 56 (W.heap.size + 1) [.slice none 0 0, .int .i64 0, .int .i64 0, .int .i64 0, .int .i64 0]) := Arr.new2 _ _ _ _ _ rfl
 go_enter Tryz.func15, Tryz.ntmps15
 go_wp2_with fail
 have hA : Arr ((W.alloc (.cells #[.slice (some ⟨tb, 0, none⟩) ts.length c, .int .i64 (s.i : Nat), .int .i64 e, .int .i64 (s.o : Nat), .int .i64 (s.l : Nat)] 56)).alloc (.cells #[.slice (some ⟨tb, 0, none⟩) ts.length c, .int .i64 (s.i : Nat), .int .i64 e, .int .i64 (s.o : Nat), .int .i64 (s.l : Nat)] 56)) 56 (W.heap.size + 1) [.slice (some ⟨tb, 0, none⟩) ts.length c, .int .i64 (s.i : Nat), .int .i64 e, .int .i64 (s.o : Nat), .int .i64 (s.l : Nat)] := Arr.new2 _ _ _ _ _ rfl
 have hB : Below W.heap.size W ((W.alloc (.cells #[.slice (some ⟨tb, 0, none⟩) ts.length c, .int .i64 (s.i : Nat), .int .i64 e, .int .i64 (s.o : Nat), .int .i64 (s.l : Nat)] 56)).alloc (.cells #[.slice (some ⟨tb, 0, none⟩) ts.length c, .int .i64 (s.i : Nat), .int .i64 e, .int .i64 (s.o : Nat), .int .i64 (s.l : Nat)] 56)) := ((Below.refl _ _).alloc (Nat.le_refl _) _).alloc (by simp) _
 have c0 := hA.cell 0
 have c1 := hA.cell 1
 have c2 := hA.cell 2
 have c3 := hA.cell 3
 have c4 := hA.cell 4
 simp only [List.getElem?_cons_zero, List.getElem?_cons_succ] at c0 c1 c2 c3 c4
 refine bodyPost_ret (v := .agg #[.slice (some ⟨tb, 0, none⟩) ts.length c, .int .i64 (s.i : Nat), .int .i64 e, .int .i64 (s.o : Nat), .int .i64 (s.l : Nat)]) ?_ rfl ⟨rfl, hB⟩
 simp [results, Tryz.results15, go_sem, c0, c1, c2, c3, c4]
set_option maxRecDepth 100000 in
set_option maxHeartbeats 2000000 in
theorem rbad_n (e : Int) (hk : ¬ k = 0) : Calls Tryz.prog 15 #[.agg #[.slice (some ⟨tb, 0, none⟩) ts.length c, .int .i64 (s.i : Nat), .int .i64 (k : Nat), .int .i64 (s.o : Nat), .int .i64 (s.l : Nat)], .int .i64 e] W fun r w' => r = .returned (.agg #[.slice (some ⟨tb, 0, none⟩) ts.length c, .int .i64 (s.i : Nat), .int .i64 (k : Nat), .int .i64 (s.o : Nat), .int .i64 (s.l : Nat)]) ∧ Below W.heap.size W w' := by
 have HB0 : Hid (Below W.heap.size W ((W.alloc (.cells #[.slice (some ⟨tb, 0, none⟩) ts.length c, .int .i64 (s.i : Nat), .int .i64 (k : Nat), .int .i64 (s.o : Nat), .int .i64 (s.l : Nat)] 56)).alloc (.cells #[.slice none 0 0, .int .i64 0, .int .i64 0, .int .i64 0, .int .i64 0] 56))) := ((Below.refl _ _).alloc (Nat.le_refl _) _).alloc (by simp) _
 have HA0 : Hid (Arr ((W.alloc (.cells #[.slice (some ⟨tb, 0, none⟩) ts.length c, .int .i64 (s.i : Nat), .int .i64 (k : Nat), .int .i64 (s.o : Nat), .int .i64 (s.l : Nat)] 56)).alloc (.cells #[.slice none 0 0, .int .i64 0, .int .i64 0, .int .i64 0, .int .i64 0] 56)) 56 W.heap.size [.slice (some ⟨tb, 0, none⟩) ts.length c, .int .i64 (s.i : Nat), .int .i64 (k : Nat), .int .i64 (s.o : Nat), .int .i64 (s.l : Nat)]) := (Arr.new' _ _ _ _ rfl).alloc _
 have HR0 : Hid (Arr ((W.alloc (.cells #[.slice (some ⟨tb, 0, none⟩) ts.length c, .int .i64 (s.i : Nat), .int .i64 (k : Nat), .int .i64 (s.o : Nat), .int .i64 (s.l : Nat)] 56)).alloc (.cells #[.slice none 0 0, .int .i64 0, .int .i64 0, .int .i64 0, .int .i64 0] 56)) 56 (W.heap.size + 1) [.slice none 0 0, .int .i64 0, .int .i64 0, .int .i64 0, .int .i64 0]) := Arr.new2 _ _ _ _ _ rfl
 have hk1 : ¬ (k : Int) = 0 := by omega
 clear hk
 go_enter Tryz.func15, Tryz.ntmps15
 go_wp2_with fail
 have hA : Arr ((W.alloc (.cells #[.slice (some ⟨tb, 0, none⟩) ts.length c, .int .i64 (s.i : Nat), .int .i64 (k : Nat), .int .i64 (s.o : Nat), .int .i64 (s.l : Nat)] 56)).alloc (.cells #[.slice (some ⟨tb, 0, none⟩) ts.length c, .int .i64 (s.i : Nat), .int .i64 (k : Nat), .int .i64 (s.o : Nat), .int .i64 (s.l : Nat)] 56)) 56 (W.heap.size + 1) [.slice (some ⟨tb, 0, none⟩) ts.length c, .int .i64 (s.i : Nat), .int .i64 (k : Nat), .int .i64 (s.o : Nat), .int .i64 (s.l : Nat)] := Arr.new2 _ _ _ _ _ rfl
 have hB : Below W.heap.size W ((W.alloc (.cells #[.slice (some ⟨tb, 0, none⟩) ts.length c, .int .i64 (s.i : Nat), .int .i64 (k : Nat), .int .i64 (s.o : Nat), .int .i64 (s.l : Nat)] 56)).alloc (.cells #[.slice (some ⟨tb, 0, none⟩) ts.length c, .int .i64 (s.i : Nat), .int .i64 (k : Nat), .int .i64 (s.o : Nat), .int .i64 (s.l : Nat)] 56)) := ((Below.refl _ _).alloc (Nat.le_refl _) _).alloc (by simp) _
 have c0 := hA.cell 0
 have c1 := hA.cell 1
 have c2 := hA.cell 2
 have c3 := hA.cell 3
 have c4 := hA.cell 4
 simp only [List.getElem?_cons_zero, List.getElem?_cons_succ] at c0 c1 c2 c3 c4
 refine bodyPost_ret (v := .agg #[.slice (some ⟨tb, 0, none⟩) ts.length c, .int .i64 (s.i : Nat), .int .i64 (k : Nat), .int .i64 (s.o : Nat), .int .i64 (s.l : Nat)]) ?_ rfl ⟨rfl, hB⟩
 simp [results, Tryz.results15, go_sem, c0, c1, c2, c3, c4]
end
end Go.Proofs.YtkildckeikedhaaGreatDoor
namespace Go.Proofs.YtkildckeikedhaaGreatDoor
set_option linter.unusedVariables false

def allT (a : AlB) : List UInt8 := if a.2 = [] then a.1 else a.1 ++ (35 :: a.2)
def toksA (a : AlB) : List (List UInt8) := if a.2 = [] then [a.1] else [a.1, [35], a.2]
def typesT : List AlB → List UInt8
 | [] => []
 | a :: r => allT a ++ (r.map fun x => [32, 124, 32] ++ allT x).flatten
def toksS (r : List AlB) : List (List UInt8) := (r.map fun x => [124] :: toksA x).flatten
def toksTy : List AlB → List (List UInt8)
 | [] => []
 | a :: r => toksA a ++ toksS r
def relS : List UInt8 := wRelB ++ [32]
def permS : List UInt8 := wPermB ++ [32]
def defS : List UInt8 := wDefB ++ [32]
def memT (m : MemB) : List UInt8 := if m.2.1 = 2 then permS ++ m.1 ++ [32, 61, 32] ++ textE m.2.2.2 ++ [59] else relS ++ m.1 ++ [58, 32] ++ typesT m.2.2.1 ++ [59]
def toksM (m : MemB) : List (List UInt8) := if m.2.1 = 2 then wPermB :: m.1 :: [61] :: (toksE m.2.2.2 ++ [[59]]) else wRelB :: m.1 :: [58] :: (toksTy m.2.2.1 ++ [[59]])
def memsT (l : List MemB) : List UInt8 := (l.map fun m => [9] ++ memT m ++ [10]).flatten
def toksMs (l : List MemB) : List (List UInt8) := (l.map toksM).flatten
def defT (d : DefB) : List UInt8 := defS ++ d.1 ++ [32, 123, 10] ++ memsT d.2 ++ [125, 10]
def toksD (d : DefB) : List (List UInt8) := wDefB :: d.1 :: [123] :: (toksMs d.2 ++ [[125]])
def schT (l : List DefB) : List UInt8 := (l.map defT).flatten
def toksDs (l : List DefB) : List (List UInt8) := (l.map toksD).flatten

/-! ### its tokens -/
theorem LXW.key {w l : List UInt8} {ws : List (List UInt8)} (hne : w ≠ []) (hall : ∀ c ∈ w, wdB c = true) (hok : okW w = true) (h : LXW l ws) : LXW (w ++ [32] ++ l) (w :: ws) := by
 rw [List.append_assoc]
 exact LXW.word hne hall hok (HD.cons (by decide)) (LXW.space (by decide) (by decide) h)
theorem lexA {a : AlB} (hg : GoodA a) {tail : List UInt8} {ws : List (List UInt8)} (h : LXW tail ws) (hd : HD tail) : LXW (allT a ++ tail) (toksA a ++ ws) := by
 unfold allT toksA
 by_cases hz : a.2 = []
 ·rw [if_pos hz, if_pos hz]
  exact LXW.name hg.1 hd h
 ·rw [if_neg hz, if_neg hz, List.append_assoc]
  exact LXW.name hg.1 (HD.cons (by decide)) (LXW.sign (by decide) (fun e => absurd e (by decide)) (LXW.name (hg.2.resolve_left hz) hd h))
theorem lexS : ∀ (r : List AlB), (∀ a ∈ r, GoodA a) → ∀ tail ws, LXW tail ws → HD tail → LXW ((r.map fun x => [32, 124, 32] ++ allT x).flatten ++ tail) (toksS r ++ ws) ∧ HD ((r.map fun x => [32, 124, 32] ++ allT x).flatten ++ tail)
 | [], _, tail, ws, h, hd => ⟨h, hd⟩
 | a :: r, hg, tail, ws, h, hd => by
  obtain ⟨h1, h2⟩ := lexS r (fun x hx => hg x (List.mem_cons_of_mem _ hx)) tail ws h hd
  refine ⟨?_, HD.cons (by decide)⟩
  have h3 := LXW.space (c := 32) (by decide) (by decide) (LXW.sign (c := 124) (by decide) (fun e => absurd e (by decide)) (LXW.space (c := 32) (by decide) (by decide) (lexA (hg a List.mem_cons_self) h1 h2)))
  unfold toksS at h3 ⊢
  simp only [List.map_cons, List.flatten_cons, List.cons_append, List.nil_append, List.append_assoc] at h3 ⊢
  exact h3
theorem lexTy {l : List AlB} (hl : 1 ≤ l.length) (hg : ∀ a ∈ l, GoodA a) {tail : List UInt8} {ws : List (List UInt8)} (h : LXW tail ws) (hd : HD tail) : LXW (typesT l ++ tail) (toksTy l ++ ws) := by
 cases l with
 | nil => simp at hl
 | cons a r =>
  obtain ⟨h1, h2⟩ := lexS r (fun x hx => hg x (List.mem_cons_of_mem _ hx)) tail ws h hd
  unfold typesT toksTy
  rw [List.append_assoc, List.append_assoc]
  exact lexA (hg a List.mem_cons_self) h1 h2
theorem formE_of {e : Ex} (h : rightE e = true) : formE e = true ∧ depthE e ≤ 16 ∧ (leavesE e).length ≤ 32 := by
 unfold rightE at h
 simp only [Bool.and_eq_true, decide_eq_true_eq] at h
 exact ⟨h.2.2, h.2.1, h.1⟩
theorem lexM {m : MemB} (hg : GoodM m) {tail : List UInt8} {ws : List (List UInt8)} (h : LXW tail ws) : LXW (memT m ++ tail) (toksM m ++ ws) := by
 obtain ⟨hn, ⟨hk, h1, _, ha, _⟩ | ⟨hk, _, he⟩⟩ := hg
 ·unfold memT toksM
  rw [if_neg (by omega), if_neg (by omega)]
  have h3 := LXW.key (w := wRelB) (by decide) (by decide) (by decide) (LXW.name hn (HD.cons (c := 58) (by decide)) (LXW.sign (c := 58) (by decide) (fun e => absurd e (by decide)) (LXW.space (c := 32) (by decide) (by decide) (lexTy h1 ha (LXW.sign (c := 59) (by decide) (fun e => absurd e (by decide)) h) (HD.cons (by decide))))))
  unfold relS
  simp only [List.append_assoc, List.cons_append, List.nil_append] at h3 ⊢
  exact h3
 ·unfold memT toksM
  rw [if_pos hk, if_pos hk]
  have h3 := LXW.key (w := wPermB) (by decide) (by decide) (by decide) (LXW.name hn (HD.cons (c := 32) (by decide)) (LXW.space (c := 32) (by decide) (by decide) (LXW.sign (c := 61) (by decide) (fun e => absurd e (by decide)) (LXW.space (c := 32) (by decide) (by decide) (lexE m.2.2.2 (formE_of he.1).1 (59 :: tail) ([59] :: ws) (LXW.sign (c := 59) (by decide) (fun e => absurd e (by decide)) h) (HD.cons (by decide)))))))
  unfold permS
  simp only [List.append_assoc, List.cons_append, List.nil_append] at h3 ⊢
  exact h3
theorem lexMs : ∀ (l : List MemB), (∀ m ∈ l, GoodM m) → ∀ tail ws, LXW tail ws → LXW (memsT l ++ tail) (toksMs l ++ ws)
 | [], _, tail, ws, h => h
 | m :: r, hg, tail, ws, h => by
  have h1 := lexMs r (fun x hx => hg x (List.mem_cons_of_mem _ hx)) tail ws h
  have h3 := LXW.space (c := 9) (by decide) (by decide) (lexM (hg m List.mem_cons_self) (LXW.space (c := 10) (by decide) (by decide) h1))
  unfold memsT toksMs at h3 ⊢
  simp only [List.map_cons, List.flatten_cons, List.cons_append, List.nil_append, List.append_assoc] at h3 ⊢
  exact h3
theorem lexDef {d : DefB} (hg : GoodD d) {tail : List UInt8} {ws : List (List UInt8)} (h : LXW tail ws) : LXW (defT d ++ tail) (toksD d ++ ws) := by
 have h3 := LXW.key (w := wDefB) (by decide) (by decide) (by decide) (LXW.name hg.1 (HD.cons (c := 32) (by decide)) (LXW.space (c := 32) (by decide) (by decide) (LXW.sign (c := 123) (by decide) (fun e => absurd e (by decide)) (LXW.space (c := 10) (by decide) (by decide) (lexMs d.2 hg.2.2 (125 :: 10 :: tail) ([125] :: ws) (LXW.sign (c := 125) (by decide) (fun e => absurd e (by decide)) (LXW.space (c := 10) (by decide) (by decide) h)))))))
 unfold defT toksD defS
 simp only [List.append_assoc, List.cons_append, List.nil_append] at h3 ⊢
 exact h3
theorem lexDs : ∀ (l : List DefB), (∀ d ∈ l, GoodD d) → LXW (schT l) (toksDs l)
 | [], _ => LXW.nil
 | d :: r, hg => by
  have h3 := lexDef (hg d List.mem_cons_self) (lexDs r fun x hx => hg x (List.mem_cons_of_mem _ hx))
  unfold schT toksDs at h3 ⊢
  simp only [List.map_cons, List.flatten_cons] at h3 ⊢
  exact h3

/-! ### what they are read as -/
theorem allowed_at {a : AlB} (hg : GoodA a) {ts : List Tok} {i o l : Nat} (ha : AtT ts i (toksA a)) (hn : txt ts (i + (toksA a).length) ≠ [35]) : allowedF ts ⟨i, o, l⟩ = .ok a ⟨i + (toksA a).length, o, l⟩ := by
 obtain ⟨t, r⟩ := a
 unfold allowedF
 unfold toksA at ha hn ⊢
 by_cases hz : r = []
 ·rw [if_pos hz] at ha hn ⊢
  rw [nameF_at ha.cons.1 hg.1, PR.then_ok, if_neg (show ¬ txt ts (⟨i + 1, o, l⟩ : PS).i = [35] from hn), hz]
  rfl
 ·rw [if_neg hz] at ha hn ⊢
  obtain ⟨h1, ha⟩ := ha.cons
  obtain ⟨h2, ha⟩ := ha.cons
  rw [nameF_at h1 hg.1, PR.then_ok, if_pos (show txt ts (⟨i + 1, o, l⟩ : PS).i = [35] from h2)]
  show (nameF ts ⟨i + 1 + 1, o, l⟩).then _ = _
  rw [nameF_at ha.cons.1 (hg.2.resolve_left hz), PR.then_ok]
  rfl
theorem types_at : ∀ (r : List AlB) (a : AlB) (n : Nat) (acc : List AlB) {ts : List Tok} {i o l : Nat}, GoodA a → (∀ x ∈ r, GoodA x) → acc.length + r.length + 1 ≤ 32 → r.length < n → AtT ts i (toksA a ++ toksS r) → txt ts (i + (toksA a ++ toksS r).length) = [59] →
  typesF ts n acc ⟨i, o, l⟩ = .ok (acc ++ a :: r) ⟨i + (toksA a ++ toksS r).length, o, l⟩
 | [], a, n, acc, ts, i, o, l, hg, _, h32, hn, ha, he => by
  obtain ⟨m, rfl⟩ : ∃ m, n = m + 1 := ⟨n - 1, by simp at hn; omega⟩
  have e0 : toksS [] = [] := rfl
  rw [e0, List.append_nil] at ha he ⊢
  rw [typesF, if_neg (by simp at h32; omega), allowed_at hg ha (by rw [he]; decide), PR.then_ok, if_neg (by show ¬ txt ts (i + (toksA a).length) = _; rw [he]; decide)]
 | b :: r, a, n, acc, ts, i, o, l, hg, hr, h32, hn, ha, he => by
  obtain ⟨m, rfl⟩ : ∃ m, n = m + 1 := ⟨n - 1, by simp at hn; omega⟩
  have e0 : toksS (b :: r) = [124] :: (toksA b ++ toksS r) := by unfold toksS; simp
  rw [e0] at ha he ⊢
  obtain ⟨ha, hb⟩ := ha.app
  obtain ⟨hs, hb⟩ := hb.cons
  have e1 : i + (toksA a ++ [124] :: (toksA b ++ toksS r)).length = i + (toksA a).length + 1 + (toksA b ++ toksS r).length := by simp; omega
  rw [e1] at he ⊢
  rw [typesF, if_neg (by simp at h32; omega), allowed_at hg ha (by rw [hs]; decide), PR.then_ok, if_pos hs]
  show typesF ts m (acc ++ [a]) ⟨i + (toksA a).length + 1, o, l⟩ = _
  rw [types_at r b m (acc ++ [a]) (hr b List.mem_cons_self) (fun x hx => hr x (List.mem_cons_of_mem _ hx)) (by simp at h32 ⊢; omega) (by simp at hn; omega) hb he, List.append_assoc]
  rfl
theorem toksM_rel (n : List UInt8) (ls : List AlB) (e : Ex) : toksM (n, 1, ls, e) = wRelB :: n :: [58] :: (toksTy ls ++ [[59]]) := if_neg (by show ¬ (1 : Int) = 2; decide)
theorem toksM_perm (n : List UInt8) (ls : List AlB) (e : Ex) : toksM (n, 2, ls, e) = wPermB :: n :: [61] :: (toksE e ++ [[59]]) := if_pos rfl
theorem toksD_eq (n : List UInt8) (ms : List MemB) : toksD (n, ms) = wDefB :: n :: [123] :: (toksMs ms ++ [[125]]) := rfl
theorem member_at {m : MemB} (hg : GoodM m) {ts : List Tok} {i l : Nat} (ha : AtT ts i (toksM m)) (hlen : i + (toksM m).length ≤ ts.length) : ∃ l', memberF ts ⟨i, 0, l⟩ = .ok m ⟨i + (toksM m).length, 0, l'⟩ := by
 obtain ⟨n, k, ls, e⟩ := m
 obtain ⟨hn, ⟨hk, h1, h2, hga, he⟩ | ⟨hk, hls, he⟩⟩ := hg
 ·have hk : k = 1 := hk
  have he : e = ex0 := he
  subst hk
  subst he
  rw [toksM_rel] at ha hlen ⊢
  obtain ⟨t1, ha⟩ := ha.cons
  obtain ⟨t2, ha⟩ := ha.cons
  obtain ⟨t3, ha⟩ := ha.cons
  obtain ⟨ha, hb⟩ := ha.app
  refine ⟨l, ?_⟩
  rw [memberF_rel (s := ⟨i, 0, l⟩) t1]
  show (nameF ts ⟨i + 1, 0, l⟩).then _ = _
  cases ls with
  | nil => simp at h1
  | cons a r =>
   have hty : typesR ts ⟨i + 1 + 1 + 1, 0, l⟩ = .ok (a :: r) ⟨i + 1 + 1 + 1 + (toksTy (a :: r)).length, 0, l⟩ := types_at r a 33 [] (hga a List.mem_cons_self) (fun x hx => hga x (List.mem_cons_of_mem _ hx)) (by simp at h2 ⊢; omega) (by simp at h2; omega) ha hb.cons.1
   rw [nameF_at t2 hn, PR.then_ok, wantF_at t3, PR.then_ok, hty, PR.then_ok, wantF_at hb.cons.1, PR.then_ok]
   congr 2
   simp only [List.length_cons, List.length_append, List.length_nil]
   omega
 ·have hk : k = 2 := hk
  have hls : ls = [] := hls
  subst hk
  subst hls
  have he : FineE e := he
  rw [toksM_perm] at ha hlen ⊢
  obtain ⟨t1, ha⟩ := ha.cons
  obtain ⟨t2, ha⟩ := ha.cons
  obtain ⟨t3, ha⟩ := ha.cons
  obtain ⟨ha, hb⟩ := ha.app
  simp only [List.length_cons, List.length_append, List.length_nil] at hlen ⊢
  obtain ⟨f1, f2, f3⟩ := formE_of he.1
  have hx : exprF ts ⟨i + 1 + 1 + 1, 0, l⟩ = .ok e ⟨i + 1 + 1 + 1 + (toksE e).length, 0, 0 + (leavesE e).length⟩ := rdN ts e 14 (i + 1 + 1 + 1) 0 0 f1 f2 (by omega) ha (by omega) (by show txt ts _ ≠ _; rw [hb.cons.1]; decide) (by rw [hb.cons.1]; decide)
  refine ⟨0 + (leavesE e).length, ?_⟩
  rw [memberF_perm (s := ⟨i, 0, l⟩) (by show ¬ txt ts i = _; rw [t1]; decide), wantF_at t1, PR.then_ok, nameF_at t2 hn, PR.then_ok, wantF_at t3, PR.then_ok, hx, PR.then_ok, wantF_at hb.cons.1, PR.then_ok]
  congr 2
  omega
theorem members_at : ∀ (r : List MemB) (n : Nat) (acc : List MemB) {ts : List Tok} {i l : Nat}, (∀ m ∈ r, GoodM m) → acc.length + r.length ≤ 64 → r.length < n → AtT ts i (toksMs r) → i + (toksMs r).length ≤ ts.length → txt ts (i + (toksMs r).length) = [125] →
  ∃ l', membersF ts n acc ⟨i, 0, l⟩ = .ok (acc ++ r) ⟨i + (toksMs r).length, 0, l'⟩
 | [], n, acc, ts, i, l, hg, h64, hn, ha, hlen, he => by
  obtain ⟨m, rfl⟩ : ∃ m, n = m + 1 := ⟨n - 1, by simp at hn; omega⟩
  have he : txt ts i = [125] := he
  refine ⟨l, ?_⟩
  rw [membersF_end (s := ⟨i, 0, l⟩) (by show ¬ txt ts i = _; rw [he]; decide) (by show ¬ txt ts i = _; rw [he]; decide), List.append_nil]
  rfl
 | x :: r, n, acc, ts, i, l, hg, h64, hn, ha, hlen, he => by
  obtain ⟨m, rfl⟩ : ∃ m, n = m + 1 := ⟨n - 1, by simp at hn; omega⟩
  have e0 : toksMs (x :: r) = toksM x ++ toksMs r := by unfold toksMs; simp
  rw [e0] at ha hlen he ⊢
  rw [List.length_append] at hlen he ⊢
  obtain ⟨ha, hb⟩ := ha.app
  obtain ⟨l1, h1⟩ := member_at (l := l) (hg x List.mem_cons_self) ha (by omega)
  obtain ⟨l2, h2⟩ := members_at r m (acc ++ [x]) (l := l1) (fun y hy => hg y (List.mem_cons_of_mem _ hy)) (by simp at h64 ⊢; omega) (by simp at hn; omega) hb (by omega) (by rw [Nat.add_assoc]; exact he)
  have ht : txt ts i = wRelB ∨ txt ts i = wPermB := by
   unfold toksM at ha
   split at ha
   ·exact .inr ha.cons.1
   ·exact .inl ha.cons.1
  refine ⟨l2, ?_⟩
  rw [membersF_ok (s := ⟨i, 0, l⟩) ht (by simp at h64; omega) h1, h2, List.append_assoc, Nat.add_assoc]
  rfl
theorem def_at {d : DefB} (hg : GoodD d) {ts : List Tok} {i l : Nat} (ha : AtT ts i (toksD d)) (hlen : i + (toksD d).length ≤ ts.length) : ∃ l', defF ts ⟨i, 0, l⟩ = .ok d ⟨i + (toksD d).length, 0, l'⟩ := by
 obtain ⟨n, ms⟩ := d
 rw [toksD_eq] at ha hlen ⊢
 obtain ⟨t1, ha⟩ := ha.cons
 obtain ⟨t2, ha⟩ := ha.cons
 obtain ⟨t3, ha⟩ := ha.cons
 obtain ⟨ha, hb⟩ := ha.app
 simp only [List.length_cons, List.length_append, List.length_nil] at hlen ⊢
 obtain ⟨l', h1⟩ := members_at ms 65 [] (l := l) hg.2.2 (by have : ms.length ≤ 64 := hg.2.1; simpa using this) (by have : ms.length ≤ 64 := hg.2.1; omega) ha (by omega) hb.cons.1
 refine ⟨l', ?_⟩
 unfold defF
 rw [wantF_at t1, PR.then_ok, nameF_at t2 hg.1, PR.then_ok, wantF_at t3, PR.then_ok, h1, PR.then_ok, wantF_at hb.cons.1, PR.then_ok]
 congr 2
 omega
theorem defs_at : ∀ (r : List DefB) (n : Nat) (acc : List DefB) {ts : List Tok} {i l : Nat}, (∀ d ∈ r, GoodD d) → acc.length + r.length ≤ 64 → r.length < n → AtT ts i (toksDs r) → i + (toksDs r).length ≤ ts.length → txt ts (i + (toksDs r).length) = [] →
  ∃ l', defsF ts n acc ⟨i, 0, l⟩ = .ok (acc ++ r) ⟨i + (toksDs r).length, 0, l'⟩
 | [], n, acc, ts, i, l, hg, h64, hn, ha, hlen, he => by
  obtain ⟨m, rfl⟩ : ∃ m, n = m + 1 := ⟨n - 1, by simp at hn; omega⟩
  have he : txt ts i = [] := he
  refine ⟨l, ?_⟩
  rw [defsF_end (s := ⟨i, 0, l⟩) (by show ¬ txt ts i = _; rw [he]; decide), List.append_nil]
  rfl
 | x :: r, n, acc, ts, i, l, hg, h64, hn, ha, hlen, he => by
  obtain ⟨m, rfl⟩ : ∃ m, n = m + 1 := ⟨n - 1, by simp at hn; omega⟩
  have e0 : toksDs (x :: r) = toksD x ++ toksDs r := by unfold toksDs; simp
  rw [e0] at ha hlen he ⊢
  rw [List.length_append] at hlen he ⊢
  obtain ⟨ha, hb⟩ := ha.app
  obtain ⟨l1, h1⟩ := def_at (l := l) (hg x List.mem_cons_self) ha (by omega)
  obtain ⟨l2, h2⟩ := defs_at r m (acc ++ [x]) (l := l1) (fun y hy => hg y (List.mem_cons_of_mem _ hy)) (by simp at h64 ⊢; omega) (by simp at hn; omega) hb (by omega) (by rw [Nat.add_assoc]; exact he)
  have ht : txt ts i = wDefB := by unfold toksD at ha; exact ha.cons.1
  refine ⟨l2, ?_⟩
  rw [defsF_ok (s := ⟨i, 0, l⟩) ht (by simp at h64; omega) h1, h2, List.append_assoc, Nat.add_assoc]
  rfl
theorem txt_map {ts : List Tok} {ws : List (List UInt8)} (h : ts.map (fun t => t.2.1) = ws ++ [[]]) : AtT ts 0 ws ∧ txt ts ws.length = [] ∧ ws.length + 1 = ts.length := by
 have hl : ws.length + 1 = ts.length := by
  have := congrArg List.length h
  simp at this
  omega
 have hx : ∀ j, txt ts j = (ws ++ [[]]).getD j [] := by
  intro j
  rw [← h]
  unfold txt
  rw [List.getD_eq_getElem?_getD, List.getD_eq_getElem?_getD, List.getElem?_map]
  cases ts[j]? with
  | none => rfl
  | some t => rfl
 refine ⟨fun j t hj => ?_, ?_, hl⟩
 ·rw [Nat.zero_add, hx, List.getD_eq_getElem?_getD, List.getElem?_append_left (List.getElem?_eq_some_iff.1 hj).1, hj]
  rfl
 ·rw [hx, List.getD_eq_getElem?_getD, List.getElem?_append_right (Nat.le_refl _), Nat.sub_self]
  rfl
theorem read_sch {l : List DefB} (hg : GoodS l) : readF schemaR (schT l) = .ok l := by
 have hlx := lexDs l hg.2 ((schT l).length + 1) 0 (Nat.lt_succ_self _)
 have h0 : (tokS (schT l)).2.1 = 0 := hlx.1
 obtain ⟨ha, he, hl⟩ := txt_map (ts := (tokS (schT l)).1) hlx.2
 have ho : OkTs (tokS (schT l)).1 := tokF_ok _ _ _ (Nat.lt_succ_self _) h0
 obtain ⟨l', h1⟩ := defs_at l 65 [] (ts := (tokS (schT l)).1) (i := 0) (l := 0) hg.2 (by have := hg.1; simpa using this) (by have := hg.1; omega) ha (by omega) (by rw [Nat.zero_add]; exact he)
 refine readF_ok h0 h1 ?_
 rw [Nat.zero_add]
 exact (ho.kind3 (by show (toksDs l).length < _; omega)).2 he
end Go.Proofs.YtkildckeikedhaaGreatDoor
