/-
  base.Encode returns the text that 'enc' says; base.Size, base.Sign.
-/
import Derived.Test.YtpkndgjkopfpkaaBaseB
namespace Go.Proofs.Ytpkndgjkopfpkaa
open Go.ChangeShapes Go.WideShapes Go.ChangeAt Go.RowKit
set_option linter.unusedVariables false

def stS (b s g : Nat) : List UInt8 × Nat × Nat :=
  if s = 0 then ([sgn ((b * 256 + g) / 4)], (b * 256 + g) % 4, 2) else if s = 2 then ([sgn ((b * 256 + g) / 16)], (b * 256 + g) % 16, 4) else ([sgn ((b * 256 + g) / 64), sgn ((b * 256 + g) % 64)], 0, 0)
def okS (b s : Nat) : Prop := (s = 0 ∧ b < 1) ∨ (s = 2 ∧ b < 4) ∨ (s = 4 ∧ b < 16)
theorem okS_step {b s g : Nat} (h : okS b s) : okS (stS b s g).2.1 (stS b s g).2.2 := by
  unfold okS stS
  rcases h with ⟨rfl, h⟩ | ⟨rfl, h⟩ | ⟨rfl, h⟩ <;> simp <;> omega
theorem stS_len (b s g : Nat) : (stS b s g).1.length ≤ 2 := by unfold stS; split <;> (try split) <;> simp
def stepS (r : List UInt8 × Nat × Nat) (x : UInt8) : List UInt8 × Nat × Nat := (r.1 ++ (stS r.2.1 r.2.2 x.toNat).1, (stS r.2.1 r.2.2 x.toNat).2)
def runS (l : List UInt8) : List UInt8 × Nat × Nat := l.foldl stepS ([], 0, 0)
def enc (l : List UInt8) : List UInt8 := if (runS l).2.2 = 0 then (runS l).1 else (runS l).1 ++ [sgn ((runS l).2.1 * 2 ^ (6 - (runS l).2.2))]
theorem runS_snoc (l : List UInt8) (x : UInt8) : runS (l ++ [x]) = stepS (runS l) x := by unfold runS; rw [List.foldl_append]; rfl
theorem runS_len (l : List UInt8) : (runS l).1.length ≤ 2 * l.length := by
  have h : ∀ (n : Nat) (l : List UInt8), l.length = n → (runS l).1.length ≤ 2 * n := by
    intro n
    induction n with
    | zero => intro l h; obtain rfl := List.eq_nil_of_length_eq_zero h; simp [runS]
    | succ n ih =>
      intro l h
      obtain ⟨l', x, rfl⟩ : ∃ l' x, l = l' ++ [x] := by
        have hne : l ≠ [] := by intro e; rw [e] at h; simp at h
        exact ⟨l.dropLast, l.getLast hne, (List.dropLast_concat_getLast hne).symm⟩
      rw [runS_snoc]
      have h1 := ih l' (by simpa using h)
      have h2 := stS_len (runS l').2.1 (runS l').2.2 x.toNat
      simp only [stepS, List.length_append]; omega
  exact h l.length l rfl

abbrev fvS (tb : Nat) : Value := .func (.func 40) #[] #[.pointer (some ⟨tb, 0, none⟩)]
abbrev fvB (tb : Nat) : Value := .func (.func 41) #[] #[.pointer (some ⟨tb, 0, none⟩)]

theorem takeS {W : World} {R tb base g b s : Nat} {acc : List UInt8} (h : TV W tb base acc) (hm : Mach W R 8 6 (fvS tb) b s) (ht : tb < R) (hb : okS b s) (hg : g < 256) (hl : acc.length ≤ 140737488354000) :
    Calls Try.prog 44 #[.int .i64 g, .pointer (some ⟨R + 3, 0, none⟩), .pointer (some ⟨R, 0, none⟩), .pointer (some ⟨R + 4, 0, none⟩), .pointer (some ⟨R + 1, 0, none⟩), .pointer (some ⟨R + 2, 0, none⟩)] W
      (TakePost W R tb base 8 6 (fvS tb) (acc ++ (stS b s g).1) (stS b s g).2.1 (stS b s g).2.2) := by
  rcases hb with ⟨rfl, hb⟩ | ⟨rfl, hb⟩ | ⟨rfl, hb⟩
  · exact takeS0 h hm ht hb hg hl
  · exact takeS2 h hm ht hb hg hl
  · have := takeS4 h hm ht hb hg hl
    rw [List.append_assoc] at this
    exact this

set_option maxRecDepth 100000 in
theorem size_any (n : Nat) (hn : n ≤ 1000000000000000000) (w : World) : Calls Try.prog 28 #[.int .i64 n] w fun e w' => e = .returned (.int .i64 ((8 * n + 5) / 6 : Nat)) ∧ w = w' := by
  have h0 : (0 : Int) ≤ n := by omega
  have h1 : (n : Int) ≤ 1000000000000000000 := by omega
  go_enter Try.func28, Try.ntmps28
  go_wp2
  go_ret
  exact ⟨rfl, rfl⟩

set_option maxRecDepth 100000 in
theorem rest_pair {W : World} {R : Nat} {inn out : Int} {fv : Value} {b s : Nat} (hm : Mach W R inn out fv b s) :
    Calls Try.prog 45 #[.pointer (some ⟨R + 3, 0, none⟩), .pointer (some ⟨R + 4, 0, none⟩)] W fun e W' => e = .returned (.tuple #[.int .i64 b, .int .i64 s]) ∧ ∃ n, W' = W.drewN n := by
  have c3 := heap_cell hm.b
  have c4 := heap_cell hm.s
  go_enter Try.func45, Try.ntmps45
  go_wp2_with fail
  go_quiet (fail)
  go_wp2_with fail
  go_ret2
  exact ⟨rfl, _, rfl⟩

theorem heap_at {w : World} {o : Obj} {k : Nat} (h : k = w.heap.size) : (w.alloc o).heap[k]? = some o := by subst h; exact heap_alloc_new w o

def GroupPost (W : World) (inn out : Int) (fv : Value) (e : Ending) (W' : World) : Prop :=
  e = .returned (.tuple #[.func (.func 44) #[] #[.pointer (some ⟨W.heap.size + 3, 0, none⟩), .pointer (some ⟨W.heap.size, 0, none⟩), .pointer (some ⟨W.heap.size + 4, 0, none⟩), .pointer (some ⟨W.heap.size + 1, 0, none⟩), .pointer (some ⟨W.heap.size + 2, 0, none⟩)],
    .func (.func 45) #[] #[.pointer (some ⟨W.heap.size + 3, 0, none⟩), .pointer (some ⟨W.heap.size + 4, 0, none⟩)]]) ∧ Mach W' W.heap.size inn out fv 0 0 ∧ Below W.heap.size W W'

set_option maxRecDepth 100000 in
set_option maxHeartbeats 400000 in
theorem regroup_any (W : World) (inn out : Int) (f : Nat) (cap : Array Value) :
    Calls Try.prog 39 #[.int .i64 inn, .int .i64 out, .func (.func f) #[] cap] W (GroupPost W inn out (.func (.func f) #[] cap)) := by
  go_enter Try.func39, Try.ntmps39
  go_wp2
  go_ret2
  refine ⟨rfl, ⟨?_, ?_, ?_, ?_, ?_⟩, ?_⟩
  · exact (Below.heap_alloc _ _ _ (by simp <;> omega)).trans ((Below.heap_alloc _ _ _ (by simp <;> omega)).trans ((Below.heap_alloc _ _ _ (by simp <;> omega)).trans ((Below.heap_alloc _ _ _ (by simp)).trans (heap_at (by simp)))))
  · exact (Below.heap_alloc _ _ _ (by simp <;> omega)).trans ((Below.heap_alloc _ _ _ (by simp <;> omega)).trans ((Below.heap_alloc _ _ _ (by simp)).trans (heap_at (by simp))))
  · exact (Below.heap_alloc _ _ _ (by simp <;> omega)).trans ((Below.heap_alloc _ _ _ (by simp)).trans (heap_at (by simp)))
  · exact (Below.heap_alloc _ _ _ (by simp)).trans (heap_at (by simp))
  · exact heap_at (by simp)
  · exact (((((Below.refl _ _).alloc (Nat.le_refl _) _).alloc (by simp) _).alloc (by simp <;> omega) _).alloc (by simp <;> omega) _).alloc (by simp <;> omega) _

/-- What Encode carries from round to round: the text under way, the machine, and old memory. -/
def EncInv (base tb R : Nat) (w : World) (r : List UInt8 × Nat × Nat) (W : World) : Prop :=
  TV W tb base r.1 ∧ Mach W R 8 6 (fvS tb) r.2.1 r.2.2 ∧ okS r.2.1 r.2.2 ∧ Below base w W ∧ base ≤ W.heap.size

theorem Kept2.below {base tb R : Nat} {W W' : World} (h : Kept2 base tb R W W') (hb : base ≤ tb) (ht : tb < R) (hs : base ≤ W.heap.size) : Below base W W' :=
  ⟨h.os, h.tape, h.output, h.size, fun k hk => h.block k (by omega) (by omega) (by omega) (by omega) (.inl hk)⟩

theorem TV.alloc {W W' : World} {tb base : Nat} {acc : List UInt8} (h : TV W tb base acc) (hb : Below W.heap.size W W') : TV W' tb base acc := by
  obtain ⟨h1, v, h2, h3⟩ := h
  refine ⟨h1, v, (hb.block tb (Array.getElem?_eq_some_iff.1 h2).1).trans h2, h3.1, ?_⟩
  rcases h3.2 with h | ⟨g, cap, cur, rfl, a1, a2, r⟩
  · exact .inl h
  · exact .inr ⟨g, cap, cur, rfl, a1, (hb.block g (Array.getElem?_eq_some_iff.1 a2).1).trans a2, r⟩

theorem TV.new {W1 : World} {base : Nat} {v : Value} (h : W1.ownsRow base 5 1 v ([] : List UInt8).length (bvs [])) (hs : base ≤ W1.heap.size) : TV (W1.alloc (.cells #[v] 23)) W1.heap.size base [] :=
  ⟨hs, v, heap_alloc_new W1 _, (h.alloc _)⟩

/-- What the text variable holds, and the string that is made of it. -/
theorem tv_conv {W : World} {tb base : Nat} {acc : List UInt8} {v : Value} (h : TV W tb base acc) (hc : W.cell? ⟨tb, 0, none⟩ = some v) : ∃ oa cap, v = .slice oa acc.length cap ∧ W.ownsRow base 5 1 v acc.length (bvs acc) ∧ (convert 23 9 v).run Try.prog W = .ok (.string (str acc)) W := by
  obtain ⟨_, u, h2, h3⟩ := h
  rw [heap_cell h2] at hc
  simp only [Option.some.injEq] at hc
  subst hc
  obtain ⟨oa, cap, rfl, _, _⟩ := (Rd.of_own h3).form
  exact ⟨oa, cap, rfl, h3, conv_bytes (Rd.of_own h3)⟩
theorem TV.drewN {W : World} {tb base : Nat} {acc : List UInt8} (h : TV W tb base acc) (n : Nat) : TV (W.drewN n) tb base acc := h
theorem cell_set {W : World} {tb : Nat} {v u : Value} (h : W.cell? ⟨tb, 0, none⟩ = some v) : (W.setCell ⟨tb, 0, none⟩ u).cell? ⟨tb, 0, none⟩ = some u := World.cell?_setCell_same _ _ _ h

set_option maxRecDepth 100000 in
set_option maxHeartbeats 1000000 in
theorem encode_any {B : Nat} {w : World} {vb : Value} {l : List UInt8} (hr : Rd B w vb l) (hB : B ≤ w.heap.size) (hl : l.length ≤ 30000000000000) :
    Calls Try.prog 25 #[vb] w fun e w' => e = .returned (.string (str (enc l))) ∧ Below w.heap.size w w' := by
  obtain ⟨ov, cv, rfl, _, hcell⟩ := hr.form
  go_enter Try.func25, Try.ntmps25
  go_wp2_with fail
  refine (size_any l.length (by omega) _).mono ?_
  rintro e wx ⟨rfl, rfl⟩
  go_wp2_with (at_make; refine make_bytes rfl _ _ rfl (base := w.heap.size) ((8 * l.length + 5) / 6) rfl rfl rfl (by omega) (Nat.le_refl _) ?_)
  intro v0 W1 hown1 hg1
  have hb1 : Below w.heap.size w W1 := (Below.refl _ _).grown hg1 (Nat.le_refl _) (by simp)
  obtain ⟨o0, c0, rfl, _, _⟩ := (Rd.of_own hown1).form
  clear hg1
  go_wp2_with fail
  refine (regroup_any _ 8 6 40 _).mono ?_
  rintro e W2 ⟨rfl, hm2, hb2⟩
  have ht1 : TV (W1.alloc (.cells #[.slice o0 0 c0] 23)) W1.heap.size w.heap.size [] := TV.new (by simpa using hown1) hb1.size
  have ht2 := ht1.alloc hb2
  have hR : (W1.alloc (.cells #[.slice o0 0 c0] 23)).heap.size = W1.heap.size + 1 := by simp
  rw [hR] at hm2 hb2 ⊢
  have hB2 : Below w.heap.size w W2 := (hb1.alloc hb1.size _).trans (hb2.mono (by have := hb1.size; omega))
  obtain ⟨tb, htb⟩ : ∃ tb, tb = W1.heap.size := ⟨_, rfl⟩
  have htbs : w.heap.size ≤ tb := by rw [htb]; exact hb1.size
  rw [← htb] at ht2 hm2 ⊢
  obtain ⟨R, hRR⟩ : ∃ R, R = tb + 1 := ⟨_, rfl⟩
  have htR : tb < R := by omega
  rw [← hRR] at hm2 ⊢
  have hI : EncInv w.heap.size tb R w ([], 0, 0) W2 := ⟨ht2, hm2, .inl ⟨rfl, by decide⟩, hB2, hB2.size⟩
  have HI := Lib.hid hI
  clear hI ht1 ht2 hm2 hB2 hb2 hb1 hown1 hR htb hRR
  go_wp2_with fail
  go_loopw [21] (fun iv wr => ∃ k : Nat, k ≤ l.length ∧ iv = .int .i64 k ∧ Hid (EncInv w.heap.size tb R w (runS (l.take k)) wr)) (fun iv _ => l.length - (intOf iv).toNat)
  case atStart => exact ⟨0, Nat.zero_le _, rfl, HI.out⟩
  case round =>
    obtain ⟨k, hk, rfl, HK⟩ := hrel
    clear HI
    by_cases hlt : k < l.length
    · obtain ⟨t1, m1, o1, b1, z1⟩ := HK.out
      obtain ⟨b, off, rfl, _, _, hbB, hc⟩ := hcell (by omega)
      obtain ⟨x, HX, hx⟩ : ∃ x : UInt8, Hid (l.take (k + 1) = l.take k ++ [x]) ∧ wr.cell? ⟨b, off + k, none⟩ = some (.int .u8 x.toNat) := by
        refine ⟨l.getD k 0, ?_, (b1.cell (by show b < w.heap.size; omega)).trans (hc k hlt)⟩
        show l.take (k + 1) = l.take k ++ [l.getD k 0]
        rw [List.take_succ_eq_append_getElem hlt]
        simp [List.getD_eq_getElem?_getD, List.getElem?_eq_getElem hlt]
      have hi1 : (k : Int) < l.length := by omega
      have hi0 : (0 : Int) ≤ k := by omega
      have hxn := x.toNat_lt
      have hx0 : (0 : Int) ≤ x.toNat := by omega
      have hx1 : (x.toNat : Int) < 256 := by omega
      obtain ⟨acc, bb, ss, HRS⟩ : ∃ acc bb ss, Hid (runS (l.take k) = (acc, bb, ss)) := ⟨_, _, _, rfl⟩
      rw [HRS.out] at t1 m1 o1
      have hal : acc.length ≤ 140737488354000 := by
        have h1 := runS_len (l.take k)
        rw [HRS.out, List.length_take] at h1
        simp only at h1; omega
      have HT := Lib.hid (takeS t1 m1 htR o1 hxn hal)
      have HO := Lib.hid (okS_step (g := x.toNat) o1)
      have HB := Lib.hid b1
      clear t1 m1 o1 b1 hc hcell HK
      go_wp2_with (go_at_call 44; refine HT.out.mono ?_; rintro e w3 ⟨rfl, t3, m3, k3⟩)
      have hE : EncInv w.heap.size tb R w (runS (l.take (k + 1))) w3 := by
        rw [HX.out, runS_snoc, HRS.out]
        exact ⟨t3, m3, HO.out, HB.out.trans (k3.below htbs htR z1), Nat.le_trans z1 k3.size⟩
      have HE := Lib.hid hE
      clear hE t3 m3 k3
      go_roundw
      case rel => exact ⟨k + 1, by omega, by go_num, HE.out⟩
      case measure => simp [intOf]; omega
    · obtain rfl : k = l.length := by omega
      rw [List.take_length] at HK
      obtain ⟨t1, m1, o1, b1, z1⟩ := HK.out
      obtain ⟨acc, bb, ss, HRS⟩ : ∃ acc bb ss, Hid (runS l = (acc, bb, ss)) := ⟨_, _, _, rfl⟩
      rw [HRS.out] at t1 m1 o1
      have hal : acc.length ≤ 140737488354000 := by
        have h1 := runS_len l
        rw [HRS.out] at h1
        simp only at h1; omega
      clear hcell HK
      go_wp2_with fail
      refine (rest_pair m1).mono ?_
      rintro e w3 ⟨rfl, n3, rfl⟩
      rcases o1 with ⟨rfl, hbb⟩ | ⟨rfl, hbb⟩ | ⟨rfl, hbb⟩
      · have t3 := t1.drewN n3
        have B3 := below_drewN b1 n3
        obtain ⟨W3, hW3⟩ : ∃ W3, W3 = wr.drewN n3 := ⟨_, rfl⟩
        rw [← hW3] at t3 B3 ⊢
        have HE : Hid (enc l = acc) := by show enc l = _; unfold enc; rw [HRS.out]; rfl
        obtain ⟨hb3, v3, hv3, hown3⟩ := t3
        have hc3 := heap_cell hv3
        obtain ⟨o3, c3, rfl, _, e6⟩ := tv_conv ⟨hb3, v3, hv3, hown3⟩ hc3
        have e7 : (convert 23 9 (.slice o3 acc.length c3)).run Try.prog W3 = .ok (.string (str (enc l))) W3 := by rw [HE.out]; exact e6
        clear e6
        clear t1 m1 b1 z1 hW3 hv3 hown3
        go_wp2_with fail
        go_ret
        exact ⟨rfl, B3⟩
      · have hbb0 : (0 : Int) ≤ bb := by omega
        have hbb1 : (bb : Int) < 4 := by omega
        have t3 := t1.drewN n3
        have B3 := below_drewN b1 n3
        obtain ⟨W3, hW3⟩ : ∃ W3, W3 = wr.drewN n3 := ⟨_, rfl⟩
        rw [← hW3] at t3 B3 ⊢
        have hz3 : w.heap.size ≤ W3.heap.size := B3.size
        obtain ⟨hb3, v3, hv3, hown3⟩ := t3
        obtain ⟨o3, c3, rfl, _, _⟩ := (Rd.of_own hown3).form
        have hc3 := heap_cell hv3
        have q1 : IntKind.i64.wrap 4 = 4 := by decide
        have q2 : IntKind.i64.wrap ((bb : Int) * 16) = (bb : Int) * 16 := by rw [IntKind.wrap_i64]; omega
        have q3 : (0 : Int) ≤ (bb : Int) * 16 := by omega
        have q4 : ((bb : Int) * 16).toNat = bb * 16 := by omega
        have q5 : (bb : Int) * 16 < 64 := by omega
        have hgs : bb * 16 < alpha.size := by show bb * 16 < 64; omega
        have hcell3 : ∀ (x : Value) (n : Nat), x = bv (sgn (bb * 16)) → ((W3.alloc (.cells #[x] 5)).drewN n).cell? ⟨W3.heap.size, 0, none⟩ = some (bv (sgn (bb * 16))) := by
          intro x n hx
          rw [hx]
          exact cell_of_row _ _ _ #[bv (sgn (bb * 16))] 5 (0, 0) (heap_alloc_new W3 _)
        have htb3 : tb < W3.heap.size := (Array.getElem?_eq_some_iff.1 hv3).1
        have HC := Lib.hid hcell3
        have HV := Lib.hid hv3
        have HE : Hid (enc l = acc ++ [sgn (bb * 16)]) := by show enc l = _; unfold enc; rw [HRS.out]; rfl
        clear hcell3 hv3 t1 m1 b1 z1 hW3
        go_wp2_with fail
        go_region_law ((refine step_app_one (b := sgn (bb * 16)) (base := w.heap.size) rfl (.tmp 37) (.tmp 43) rfl rfl (hown3.alloc _).drew rfl (HC.out _ 1 (congrArg (fun n : Nat => Value.int .u8 (n : Int)) (sgn_at hgs))) (by omega) (by simp <;> omega) ?_); intro v' W4 hown4 hg4; have hgg : (W3.alloc _).grownBy W4 _ := ⟨hg4.os, hg4.tape, hg4.output, hg4.size, hg4.block⟩; obtain ⟨⟨e1, e2⟩, e3, e4⟩ := emit_step hb3 HV.out hown3 _ hown4 hgg; have e5 := cell_set (u := v') e1; obtain ⟨o4, c4, rfl, _, e6⟩ := tv_conv e3 e5; have hl1 : (acc ++ [sgn (bb * 16)]).length = acc.length + 1 := (by simp); rw [hl1] at e3 e4 e5 e6; have HE6 := Lib.hid (e4.below hb3 hz3); rw [← HE.out] at e6; clear hown4 hg4 hgg e3 e4)
        all_goals go_wp2_with fail
        all_goals go_ret
        all_goals exact ⟨rfl, B3.trans HE6.out⟩
      · have hbb0 : (0 : Int) ≤ bb := by omega
        have hbb1 : (bb : Int) < 16 := by omega
        have t3 := t1.drewN n3
        have B3 := below_drewN b1 n3
        obtain ⟨W3, hW3⟩ : ∃ W3, W3 = wr.drewN n3 := ⟨_, rfl⟩
        rw [← hW3] at t3 B3 ⊢
        have hz3 : w.heap.size ≤ W3.heap.size := B3.size
        obtain ⟨hb3, v3, hv3, hown3⟩ := t3
        obtain ⟨o3, c3, rfl, _, _⟩ := (Rd.of_own hown3).form
        have hc3 := heap_cell hv3
        have q1 : IntKind.i64.wrap 2 = 2 := by decide
        have q2 : IntKind.i64.wrap ((bb : Int) * 4) = (bb : Int) * 4 := by rw [IntKind.wrap_i64]; omega
        have q3 : (0 : Int) ≤ (bb : Int) * 4 := by omega
        have q4 : ((bb : Int) * 4).toNat = bb * 4 := by omega
        have q5 : (bb : Int) * 4 < 64 := by omega
        have hgs : bb * 4 < alpha.size := by show bb * 4 < 64; omega
        have hcell3 : ∀ (x : Value) (n : Nat), x = bv (sgn (bb * 4)) → ((W3.alloc (.cells #[x] 5)).drewN n).cell? ⟨W3.heap.size, 0, none⟩ = some (bv (sgn (bb * 4))) := by
          intro x n hx
          rw [hx]
          exact cell_of_row _ _ _ #[bv (sgn (bb * 4))] 5 (0, 0) (heap_alloc_new W3 _)
        have htb3 : tb < W3.heap.size := (Array.getElem?_eq_some_iff.1 hv3).1
        have HC := Lib.hid hcell3
        have HV := Lib.hid hv3
        have HE : Hid (enc l = acc ++ [sgn (bb * 4)]) := by show enc l = _; unfold enc; rw [HRS.out]; rfl
        clear hcell3 hv3 t1 m1 b1 z1 hW3
        go_wp2_with fail
        go_region_law ((refine step_app_one (b := sgn (bb * 4)) (base := w.heap.size) rfl (.tmp 37) (.tmp 43) rfl rfl (hown3.alloc _).drew rfl (HC.out _ 1 (congrArg (fun n : Nat => Value.int .u8 (n : Int)) (sgn_at hgs))) (by omega) (by simp <;> omega) ?_); intro v' W4 hown4 hg4; have hgg : (W3.alloc _).grownBy W4 _ := ⟨hg4.os, hg4.tape, hg4.output, hg4.size, hg4.block⟩; obtain ⟨⟨e1, e2⟩, e3, e4⟩ := emit_step hb3 HV.out hown3 _ hown4 hgg; have e5 := cell_set (u := v') e1; obtain ⟨o4, c4, rfl, _, e6⟩ := tv_conv e3 e5; have hl1 : (acc ++ [sgn (bb * 4)]).length = acc.length + 1 := (by simp); rw [hl1] at e3 e4 e5 e6; have HE6 := Lib.hid (e4.below hb3 hz3); rw [← HE.out] at e6; clear hown4 hg4 hgg e3 e4)
        all_goals go_wp2_with fail
        all_goals go_ret
        all_goals exact ⟨rfl, B3.trans HE6.out⟩
end Go.Proofs.Ytpkndgjkopfpkaa
