/-
  The closures of package base that append one byte to the text that is being made.
-/
import Derived.Test.YtpkndgjkopfpkaaConv
import Derived.BigQuiet
import Derived.Deep.QuietTactic
import Derived.Deep.RegionLaw
namespace Go.Proofs.Ytpkndgjkopfpkaa
open Go.ChangeShapes Go.WideShapes Go.ChangeAt Go.RowKit

def alpha : ByteArray := ⟨#[65, 66, 67, 68, 69, 70, 71, 72, 73, 74, 75, 76, 77, 78, 79, 80, 81, 82, 83, 84, 85, 86, 87, 88, 89, 90, 97, 98, 99, 100, 101, 102, 103, 104, 105, 106, 107, 108, 109, 110, 111, 112, 113, 114, 115, 116, 117, 118, 119, 120, 121, 122, 48, 49, 50, 51, 52, 53, 54, 55, 56, 57, 45, 95]⟩
def sgn (g : Nat) : UInt8 := alpha.data.toList.getD g 0
def byt (g : Nat) : UInt8 := UInt8.ofNat g

/-- Block tb holds the variable of a text under way: its value owns the bytes acc in a block from base on. -/
def TV (W : World) (tb base : Nat) (acc : List UInt8) : Prop :=
  base ≤ tb ∧ ∃ v, W.heap[tb]? = some (.cells #[v] 23 (0, 0)) ∧ W.ownsRow base 5 1 v acc.length (bvs acc)

/-- Nothing has changed but block tb, rows of bytes from base on, and new blocks. -/
structure Kept (base tb : Nat) (W W' : World) : Prop where
  os : W'.os = W.os
  tape : W'.tape = W.tape
  output : W'.output = W.output
  size : W.heap.size ≤ W'.heap.size
  block : ∀ k, k < W.heap.size → k ≠ tb → (k < base ∨ ¬ ∃ cur fr, W.heap[k]? = some (.cells cur 5 fr)) → W'.heap[k]? = W.heap[k]?

theorem Kept.refl (base tb : Nat) (W : World) : Kept base tb W W := ⟨rfl, rfl, rfl, Nat.le_refl _, fun _ _ _ _ => rfl⟩
theorem Kept.trans {base tb : Nat} {a b c : World} (h : Kept base tb a b) (k : Kept base tb b c) : Kept base tb a c :=
  ⟨k.os.trans h.os, k.tape.trans h.tape, k.output.trans h.output, Nat.le_trans h.size k.size, fun i hi ht hc => by
    have h1 := h.block i hi ht hc
    have h2 := k.block i (Nat.lt_of_lt_of_le hi h.size) ht (by
      rcases hc with hc | hc
      · exact .inl hc
      · right; rw [h1]; exact hc)
    exact h2.trans h1⟩
theorem Kept.below {base tb : Nat} {W W' : World} (h : Kept base tb W W') (hb : base ≤ tb) (hs : base ≤ W.heap.size) : Below base W W' :=
  ⟨h.os, h.tape, h.output, h.size, fun k hk => h.block k (by omega) (by omega) (.inl hk)⟩
theorem Kept.drewN {base tb : Nat} {W W' : World} (h : Kept base tb W W') (n : Nat) : Kept base tb W (W'.drewN n) := h.trans ⟨rfl, rfl, rfl, Nat.le_refl _, fun _ _ _ _ => rfl⟩
theorem Kept.alloc {base tb : Nat} (W : World) (o : Obj) : Kept base tb W (W.alloc o) :=
  ⟨rfl, rfl, rfl, by simp, fun k hk _ _ => Below.heap_alloc W o k hk⟩
theorem Kept.set {base tb : Nat} (W : World) (o : Nat) (u : Value) : Kept base tb W (W.setCell ⟨tb, o, none⟩ u) :=
  ⟨rfl, rfl, rfl, by simp [World.setCell], fun k _ ht _ => Below.heap_setCell W ⟨tb, o, none⟩ u k ht⟩
theorem Kept.grown {base tb : Nat} {W W' : World} {v : Value} {n : Nat} {xs : List Value} (hown : W.ownsRow base 5 1 v n xs) (hg : W.grownBy W' v.ownBlock) : Kept base tb W W' := by
  refine ⟨hg.os, hg.tape, hg.output, hg.size, fun k hk _ hc => hg.block k hk (fun e => ?_)⟩
  rcases hown.2 with ⟨rfl, _⟩ | ⟨g, cap, cur, rfl, hb, hh, _⟩
  · simp [Value.ownBlock] at e
  · simp [Value.ownBlock] at e
    subst e
    rcases hc with hc | hc
    · omega
    · exact hc ⟨_, _, hh⟩

theorem ne_of_type {W : World} {g tb : Nat} {cur : Array Value} {v : Value} (h1 : W.heap[g]? = some (.cells cur 5 (0, 0))) (h2 : W.heap[tb]? = some (.cells #[v] 23 (0, 0))) : g ≠ tb := by
  rintro rfl
  rw [h1] at h2
  simp at h2

/-- The variable behind an append and the store of what it gave. -/
theorem TV.stored {W W1 : World} {tb base : Nat} {acc acc' : List UInt8} {v v' : Value} (hb : base ≤ tb) (hv : W.heap[tb]? = some (.cells #[v] 23 (0, 0))) (hown : W.ownsRow base 5 1 v acc.length (bvs acc))
    (hg : W.grownBy W1 v.ownBlock) (hown1 : W1.ownsRow base 5 1 v' acc'.length (bvs acc')) : TV (W1.setCell ⟨tb, 0, none⟩ v') tb base acc' := by
  have hne : some tb ≠ v.ownBlock := by
    intro e
    rcases hown.2 with ⟨rfl, _⟩ | ⟨g, cap, cur, rfl, _, hh, _⟩
    · simp [Value.ownBlock] at e
    · simp [Value.ownBlock] at e
      exact ne_of_type hh hv e.symm
  have hv1 : W1.heap[tb]? = some (.cells #[v] 23 (0, 0)) := (hg.block tb (Array.getElem?_eq_some_iff.1 hv).1 hne).trans hv
  refine ⟨hb, v', ?_, hown1.1, ?_⟩
  · simp only [World.setCell, Array.getElem?_modify, hv1]; simp
  · rcases hown1.2 with h | ⟨g, cap, cur, rfl, h1, hh, r⟩
    · exact .inl h
    · exact .inr ⟨g, cap, cur, rfl, h1, (Below.heap_setCell W1 ⟨tb, 0, none⟩ _ g (ne_of_type hh hv1)).trans hh, r⟩

def EmitPost (W : World) (tb base : Nat) (acc : List UInt8) (e : Ending) (W' : World) : Prop := e = .returned (.tuple #[]) ∧ TV W' tb base acc ∧ Kept base tb W W'

/-- What an emitting closure needs ahead of its append, and what it has behind its store. -/
theorem emit_step {W : World} {tb base : Nat} {acc : List UInt8} {b : UInt8} {v : Value} (hb : base ≤ tb) (hv : W.heap[tb]? = some (.cells #[v] 23 (0, 0))) (hown : W.ownsRow base 5 1 v acc.length (bvs acc)) (o : Obj) {v' : Value} {W1 : World}
    {n : Nat} (hown1' : W1.ownsRow base 5 1 v' n (bvs (acc ++ [b]))) (hg : (W.alloc o).grownBy W1 v.ownBlock) :
    (W1.cell? ⟨tb, 0, none⟩ = some v ∧ W1.frozen? ⟨tb, 0, none⟩ = false) ∧ TV (W1.setCell ⟨tb, 0, none⟩ v') tb base (acc ++ [b]) ∧ Kept base tb W (W1.setCell ⟨tb, 0, none⟩ v') := by
  have hown1 : W1.ownsRow base 5 1 v' (acc ++ [b]).length (bvs (acc ++ [b])) := by
    obtain rfl : n = (acc ++ [b]).length := by have := hown1'.1; rw [bvs_length] at this; omega
    exact hown1'
  have htb : tb < W.heap.size := (Array.getElem?_eq_some_iff.1 hv).1
  have hv2 : (W.alloc o).heap[tb]? = some (.cells #[v] 23 (0, 0)) := (Below.heap_alloc W o tb htb).trans hv
  have hown2 := hown.alloc o
  have hne : some tb ≠ v.ownBlock := by
    intro e
    rcases hown2.2 with ⟨rfl, _⟩ | ⟨g, cap, cur, rfl, _, hh, _⟩
    · simp [Value.ownBlock] at e
    · simp [Value.ownBlock] at e
      exact ne_of_type hh hv2 e.symm
  have hv1 : W1.heap[tb]? = some (.cells #[v] 23 (0, 0)) := (hg.block tb (Array.getElem?_eq_some_iff.1 hv2).1 hne).trans hv2
  refine ⟨⟨?_, ?_⟩, TV.stored hb hv2 hown2 hg hown1, ((Kept.alloc W o).trans (Kept.grown hown2 hg)).trans (Kept.set W1 0 v')⟩
  · rw [cell_of_row _ _ _ _ _ _ hv1]; rfl
  · simp [World.frozen?, hv1]

theorem byt_val {g : Nat} (h : g < 256) : bv (byt g) = .int .u8 g := by
  unfold bv byt; congr 1; rw [UInt8.toNat_ofNat']; congr 1; omega

set_option maxRecDepth 100000 in
set_option maxHeartbeats 400000 in
theorem emitB {W : World} {tb base g : Nat} {acc : List UInt8} (h : TV W tb base acc) (hg : g < 256) (hl : acc.length ≤ 140737488355000) :
    Calls Try.prog 41 #[.int .i64 g, .pointer (some ⟨tb, 0, none⟩)] W (EmitPost W tb base (acc ++ [byt g])) := by
  obtain ⟨hb, v, hv, hown⟩ := h
  have hr := Rd.of_own hown
  obtain ⟨ov, cv, rfl, _, _⟩ := hr.form
  have hc : W.cell? ⟨tb, 0, none⟩ = some (.slice ov acc.length cv) := by rw [cell_of_row _ _ _ _ _ _ hv]; rfl
  have htb : tb < W.heap.size := (Array.getElem?_eq_some_iff.1 hv).1
  have hgi : (0 : Int) ≤ g ∧ (g : Int) < 256 := by omega
  obtain ⟨hg0, hg1⟩ := hgi
  have hrl := rd_lit W [byt g] #[.int .u8 g] (by simp only [bvs, List.map_cons, List.map_nil, byt_val hg]) 1 rfl (by show 1 ≤ maxLen; decide)
  have HV := Lib.hid hv
  clear hv hr
  go_enter Try.func41, Try.ntmps41
  go_wp2_with (at_builtin; refine app_bytes rfl _ _ rfl rfl (hown.alloc _) rfl hrl ?c1 ?c2 ?_)
  case c1 => simp; omega
  case c2 => simp; omega
  intro v' W1 hown1 hg1'
  obtain ⟨⟨e1, e2⟩, e3, e4⟩ := emit_step hb HV.out hown _ hown1 hg1'
  obtain ⟨ov', cv', rfl, _, _⟩ := (Rd.of_own hown1).form
  have hl1 : (acc ++ [byt g]).length = acc.length + 1 := by simp
  rw [hl1] at e3 e4
  clear hown hown1 hg1' hrl hc HV hl1
  go_wp2
  go_end0
  exact ⟨rfl, e3, e4⟩

theorem sgn_at {g : Nat} : ∀ (hp : g < alpha.size), (alpha[g]'hp).toNat = (sgn g).toNat := by
  intro hp
  unfold sgn
  rw [List.getD_eq_getElem?_getD, List.getElem?_eq_getElem (by exact hp)]
  rfl

/-- Append of one byte, as one step of a region that draws its order. -/
theorem step_app_one {ops : Array Oper} {o : Oper} {a : Act} {w : World} {K : Act → World → Prop} {Q : Exit → Act → World → Prop} {E : Prop} (hgd : o.guard = none) (s x : Operand)
    (ho : o.op = .call { callee := .builtin .append, args := #[s, x], argTypes := #[23, 23] })
    {base n : Nat} {v : Value} {l : List UInt8} {b : UInt8} (hs : a.eval s = v) (hown : w.ownsRow base 5 1 v l.length (bvs l)) (hx : a.eval x = .slice (some ⟨n, 0, none⟩) 1 1) (hc : w.cell? ⟨n, 0, none⟩ = some (bv b))
    (hlen : l.length + 1 ≤ 140737488355328) (hbase : base ≤ w.heap.size)
    (h : ∀ v' w', w'.ownsRow base 5 1 v' (l ++ [b]).length (bvs (l ++ [b])) → w.grownBy w' v.ownBlock → K (a.put o.dst v') w') :
    if Region.wanted o (yielded ops a.tmps) = true then Oper.wp Try.prog o a w K Q else E := by
  have hw : Region.wanted o (yielded ops a.tmps) = true := by simp [Region.wanted, hgd]
  rw [if_pos hw]
  obtain ⟨i0, hi, hz0, hz1, hz2⟩ := info_parts Try.info5
  refine wp_append_own w s x 23 ho base 5 i0 (.int .u8 0) 1 1 Try.underlying23 hi hz0 hz1 hz2 rfl (by decide) v l.length (bvs l) hs hown ⟨n, 0, none⟩ 1 1 [bv b] hx rfl ?_ ?_ (by unfold maxLen; omega) (by omega) hbase ?_
  · intro j u hu
    match j, hu with
    | 0, hu => simp at hu; subst hu; simpa [Addr.add] using hc
  · intro u hu; simp at hu; subst hu; rfl
  · intro v' w' r1 r2 _
    exact h v' w' (by simpa [bvs] using r1) r2

set_option maxRecDepth 100000 in
set_option maxHeartbeats 400000 in
theorem emitS {W : World} {tb base g : Nat} {acc : List UInt8} (h : TV W tb base acc) (hg : g < 64) (hl : acc.length ≤ 140737488355000) :
    Calls Try.prog 40 #[.int .i64 g, .pointer (some ⟨tb, 0, none⟩)] W (EmitPost W tb base (acc ++ [sgn g])) := by
  obtain ⟨hb, v, hv, hown⟩ := h
  have hr := Rd.of_own hown
  obtain ⟨ov, cv, rfl, _, _⟩ := hr.form
  have hc : W.cell? ⟨tb, 0, none⟩ = some (.slice ov acc.length cv) := by rw [cell_of_row _ _ _ _ _ _ hv]; rfl
  have htb : tb < W.heap.size := (Array.getElem?_eq_some_iff.1 hv).1
  have hgi : (0 : Int) ≤ g ∧ (g : Int) < 64 := by omega
  obtain ⟨hg0, hg1⟩ := hgi
  have HV := Lib.hid hv
  clear hv hr
  go_enter Try.func40, Try.ntmps40
  have hcell : ∀ (x : Value) (n : Nat), x = bv (sgn g) → ((W.alloc (.cells #[x] 5)).drewN n).cell? ⟨W.heap.size, 0, none⟩ = some (bv (sgn g)) := by
    intro x n hx
    rw [hx]
    exact cell_of_row _ _ _ #[bv (sgn g)] 5 (0, 0) (heap_alloc_new W _)
  have HC := Lib.hid hcell
  clear hcell
  have hbW : base ≤ W.heap.size := by omega
  have hgs : g < alpha.size := hg
  go_region_law ((refine step_app_one (b := sgn g) (base := base) rfl (.tmp 3) (.tmp 6) rfl rfl (hown.alloc _).drew rfl (HC.out _ 1 (congrArg (fun n : Nat => Value.int .u8 (n : Int)) (sgn_at hgs))) (by omega) (by simp; omega) ?_); intro v' W1 hown1 hg1'; have hgg : (W.alloc _).grownBy W1 _ := ⟨hg1'.os, hg1'.tape, hg1'.output, hg1'.size, hg1'.block⟩; obtain ⟨⟨e1, e2⟩, e3, e4⟩ := emit_step hb HV.out hown _ hown1 hgg; obtain ⟨ov', cv', rfl, _, _⟩ := (Rd.of_own hown1).form; have hl1 : (acc ++ [sgn g]).length = acc.length + 1 := (by simp); rw [hl1] at e3 e4; clear hown1 hg1' hgg)
  all_goals (go_end0; exact ⟨rfl, e3, e4⟩)
end Go.Proofs.Ytpkndgjkopfpkaa
