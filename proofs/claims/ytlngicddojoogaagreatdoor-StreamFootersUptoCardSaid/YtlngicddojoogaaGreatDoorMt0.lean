/-
  Headers of streams as bytes; no program is spoken of.
-/
import Derived.Test.YtlngicddojoogaaGreatDoorNumB
import Derived.Test.YtlngicddojoogaaGreatDoorShf
import Derived.Test.YtlngicddojoogaaGreatDoorTake
import Derived.Test.YtlngicddojoogaaGreatDoorShaL
import Derived.Test.YtlngicddojoogaaGreatDoorHeld
import Derived.Stop.BytesEq
import Derived.Test.YtlngicddojoogaaGreatDoorNew
import Derived.Test.YtlngicddojoogaaGreatDoorStr
import Derived.Test.YtlngicddojoogaaGreatDoorStepW
import Derived.Test.YtlngicddojoogaaGreatDoorJoin
import Derived.Test.YtlngicddojoogaaGreatDoorPut
import Derived.Test.YtlngicddojoogaaGreatDoorLit
import Derived.Test.YtlngicddojoogaaGreatDoorConvK
import Derived.Deep.RegionHeld3
import Derived.Deep.RegionLaw
import Derived.Deep.Cut
import Derived.Test.YtlngicddojoogaaGreatDoorRefPut
import Derived.Lib.SmallJoins
import Derived.Test.YtlngicddojoogaaGreatDoorShaS
namespace Go.Proofs.YtlngicddojoogaaGreatDoor
open Go.RowKit
set_option linter.unusedVariables false

def y32 : List UInt8 := List.replicate 32 0
def limR : Nat := 9223372036854775808
def limC : Nat := 65536
def vst : List UInt8 := [86, 83, 84, 49]
/-- Revision, count, digest, code of the error (0: none), offset. -/
def badH (c n : Nat) : Nat × Nat × List UInt8 × Nat × Nat := (0, 0, y32, c, n)
def payH (r n : Nat) (d : List UInt8) : List UInt8 := vst ++ (put r ++ (put n ++ d))
def parseH (b : List UInt8) : Nat × Nat × List UInt8 × Nat × Nat :=
  if b.take 4 ≠ vst then badH 6 0 else if (num (b.drop 4)).2.2 ≠ 0 then badH (num (b.drop 4)).2.2 4 else if limR ≤ (num (b.drop 4)).1 then badH 15 4
  else if (num (b.drop (4 + (num (b.drop 4)).2.1))).2.2 ≠ 0 then badH (num (b.drop (4 + (num (b.drop 4)).2.1))).2.2 (4 + (num (b.drop 4)).2.1)
  else if limC < (num (b.drop (4 + (num (b.drop 4)).2.1))).1 then badH 15 (4 + (num (b.drop 4)).2.1)
  else if b.length < 4 + (num (b.drop 4)).2.1 + (num (b.drop (4 + (num (b.drop 4)).2.1))).2.1 + 32 then badH 1 (4 + (num (b.drop 4)).2.1 + (num (b.drop (4 + (num (b.drop 4)).2.1))).2.1)
  else if 4 + (num (b.drop 4)).2.1 + (num (b.drop (4 + (num (b.drop 4)).2.1))).2.1 + 32 < b.length then badH 16 (4 + (num (b.drop 4)).2.1 + (num (b.drop (4 + (num (b.drop 4)).2.1))).2.1 + 32)
  else ((num (b.drop 4)).1, (num (b.drop (4 + (num (b.drop 4)).2.1))).1, b.drop (4 + (num (b.drop 4)).2.1 + (num (b.drop (4 + (num (b.drop 4)).2.1))).2.1), 0, 0)
section
variable {b : List UInt8} {x y : Nat × Nat × Nat} {a e : Nat}
theorem parseH_sign (h : b.take 4 ≠ vst) : parseH b = badH 6 0 := by unfold parseH; rw [if_pos h]
theorem parseH_n1 (h : b.take 4 = vst) (hx : x = num (b.drop 4)) (h1 : x.2.2 ≠ 0) : parseH b = badH x.2.2 4 := by
  subst hx; unfold parseH; rw [if_neg (fun k => k h), if_pos h1]
theorem parseH_l1 (h : b.take 4 = vst) (hx : x = num (b.drop 4)) (h1 : x.2.2 = 0) (h2 : limR ≤ x.1) : parseH b = badH 15 4 := by
  subst hx; unfold parseH; rw [if_neg (fun k => k h), if_neg (fun k => k h1), if_pos h2]
theorem parseH_n2 (h : b.take 4 = vst) (hx : x = num (b.drop 4)) (h1 : x.2.2 = 0) (h2 : ¬ limR ≤ x.1) (ha : a = 4 + x.2.1) (hy : y = num (b.drop a)) (h3 : y.2.2 ≠ 0) : parseH b = badH y.2.2 a := by
  subst ha; subst hx; subst hy; unfold parseH; rw [if_neg (fun k => k h), if_neg (fun k => k h1), if_neg h2, if_pos h3]
theorem parseH_l2 (h : b.take 4 = vst) (hx : x = num (b.drop 4)) (h1 : x.2.2 = 0) (h2 : ¬ limR ≤ x.1) (ha : a = 4 + x.2.1) (hy : y = num (b.drop a)) (h3 : y.2.2 = 0) (h4 : limC < y.1) : parseH b = badH 15 a := by
  subst ha; subst hx; subst hy; unfold parseH; rw [if_neg (fun k => k h), if_neg (fun k => k h1), if_neg h2, if_neg (fun k => k h3), if_pos h4]
theorem parseH_short (h : b.take 4 = vst) (hx : x = num (b.drop 4)) (h1 : x.2.2 = 0) (h2 : ¬ limR ≤ x.1) (ha : a = 4 + x.2.1) (hy : y = num (b.drop a)) (h3 : y.2.2 = 0) (h4 : ¬ limC < y.1) (he : e = a + y.2.1) (h5 : b.length < e + 32) : parseH b = badH 1 e := by
  subst he; subst ha; subst hx; subst hy; unfold parseH; rw [if_neg (fun k => k h), if_neg (fun k => k h1), if_neg h2, if_neg (fun k => k h3), if_neg h4, if_pos h5]
theorem parseH_long (h : b.take 4 = vst) (hx : x = num (b.drop 4)) (h1 : x.2.2 = 0) (h2 : ¬ limR ≤ x.1) (ha : a = 4 + x.2.1) (hy : y = num (b.drop a)) (h3 : y.2.2 = 0) (h4 : ¬ limC < y.1) (he : e = a + y.2.1) (h5 : e + 32 < b.length) : parseH b = badH 16 (e + 32) := by
  subst he; subst ha; subst hx; subst hy; unfold parseH; rw [if_neg (fun k => k h), if_neg (fun k => k h1), if_neg h2, if_neg (fun k => k h3), if_neg h4, if_neg (by omega), if_pos h5]
theorem parseH_yes (h : b.take 4 = vst) (hx : x = num (b.drop 4)) (h1 : x.2.2 = 0) (h2 : ¬ limR ≤ x.1) (ha : a = 4 + x.2.1) (hy : y = num (b.drop a)) (h3 : y.2.2 = 0) (h4 : ¬ limC < y.1) (he : e = a + y.2.1) (h5 : b.length = e + 32) : parseH b = (x.1, y.1, b.drop e, 0, 0) := by
  subst he; subst ha; subst hx; subst hy; unfold parseH; rw [if_neg (fun k => k h), if_neg (fun k => k h1), if_neg h2, if_neg (fun k => k h3), if_neg h4, if_neg (by omega), if_neg (by omega)]
end
theorem payH_len {r n : Nat} {d : List UInt8} (hr : r < limR) (hn : n ≤ limC) (hd : d.length = 32) : (payH r n d).length ≤ 56 := by
  have h1 := put_len10 (x := r) (by unfold limR at hr; unfold lim64; omega)
  have h2 := put_len10 (x := n) (by unfold limC at hn; unfold lim64; omega)
  unfold payH vst
  simp only [List.length_append, List.length_cons, List.length_nil]
  omega
theorem parseH_pay {r n : Nat} {d : List UInt8} (hr : r < limR) (hn : n ≤ limC) (hd : d.length = 32) : parseH (payH r n d) = (r, n, d, 0, 0) := by
  have e1 : (payH r n d).take 4 = vst := rfl
  have d1 : (payH r n d).drop 4 = put r ++ (put n ++ d) := rfl
  have n1 := num_put (x := r) (by unfold limR at hr; unfold lim64; omega) (put n ++ d)
  have n2 := num_put (x := n) (by unfold limC at hn; unfold lim64; omega) d
  have d2 : (payH r n d).drop (4 + (put r).length) = put n ++ d := by
    rw [← List.drop_drop, d1]; exact List.drop_left' rfl
  have d3 : (payH r n d).drop (4 + (put r).length + (put n).length) = d := by
    rw [← List.drop_drop, d2]; exact List.drop_left' rfl
  have hl : (payH r n d).length = 4 + (put r).length + (put n).length + 32 := by
    unfold payH vst
    simp only [List.length_append, List.length_cons, List.length_nil, hd]
    omega
  have h := parseH_yes (b := payH r n d) (x := (r, (put r).length, 0)) (y := (n, (put n).length, 0)) (a := 4 + (put r).length) (e := 4 + (put r).length + (put n).length) e1 (by rw [d1, n1]) rfl (by simpa using hr) rfl (by rw [d2, n2]) rfl (by simpa using hn) rfl hl
  rw [h, d3]
theorem parseH_cases (b : List UInt8) : (∃ c n, c ≠ 0 ∧ parseH b = badH c n) ∨ ∃ r n d, r < limR ∧ n ≤ limC ∧ d.length = 32 ∧ b = payH r n d ∧ parseH b = (r, n, d, 0, 0) := by
  by_cases h : b.take 4 = vst
  · obtain ⟨x, hx⟩ : ∃ x, x = num (b.drop 4) := ⟨_, rfl⟩
    by_cases h1 : x.2.2 = 0
    · by_cases h2 : limR ≤ x.1
      · exact .inl ⟨15, 4, by decide, parseH_l1 h hx h1 h2⟩
      · obtain ⟨a, ha⟩ : ∃ a, a = 4 + x.2.1 := ⟨_, rfl⟩
        obtain ⟨y, hy⟩ : ∃ y, y = num (b.drop a) := ⟨_, rfl⟩
        by_cases h3 : y.2.2 = 0
        · by_cases h4 : limC < y.1
          · exact .inl ⟨15, a, by decide, parseH_l2 h hx h1 h2 ha hy h3 h4⟩
          · obtain ⟨e, he⟩ : ∃ e, e = a + y.2.1 := ⟨_, rfl⟩
            by_cases h5 : b.length < e + 32
            · exact .inl ⟨1, e, by decide, parseH_short h hx h1 h2 ha hy h3 h4 he h5⟩
            · by_cases h6 : e + 32 < b.length
              · exact .inl ⟨16, e + 32, by decide, parseH_long h hx h1 h2 ha hy h3 h4 he h6⟩
              · refine .inr ⟨x.1, y.1, b.drop e, by omega, by omega, by rw [List.length_drop]; omega, ?_, parseH_yes h hx h1 h2 ha hy h3 h4 he (by omega)⟩
                obtain ⟨t1, t2⟩ := num_back (l := b.drop 4) (by rw [← hx]; exact h1)
                obtain ⟨t3, t4⟩ := num_back (l := b.drop a) (by rw [← hy]; exact h3)
                rw [← hx] at t1
                rw [← hy] at t3
                unfold payH
                have e3 : put y.1 ++ b.drop e = b.drop a := by rw [← t3, he, ← List.drop_drop, List.take_append_drop]
                have e4 : put x.1 ++ b.drop a = b.drop 4 := by rw [← t1, ha, ← List.drop_drop, List.take_append_drop]
                rw [e3, e4, ← h, List.take_append_drop]
        · exact .inl ⟨_, a, h3, parseH_n2 h hx h1 h2 ha hy h3⟩
    · exact .inl ⟨_, 4, h1, parseH_n1 h hx h1⟩
  · exact .inl ⟨6, 0, by decide, parseH_sign h⟩
theorem parseH_len (b : List UInt8) : (parseH b).2.2.1.length = 32 := by
  rcases parseH_cases b with ⟨c, n, _, e⟩ | ⟨r, n, d, _, _, hd, _, e⟩
  · rw [e]; rfl
  · rw [e]; exact hd
end Go.Proofs.YtlngicddojoogaaGreatDoor
/-
  Headers as values: fields, equality, loads and stores.
-/
namespace Go.Proofs.YtlngicddojoogaaGreatDoor
open Go.ChangeShapes Go.WideShapes Go.ChangeAt Go.RowKit
open errAs (ErrT)
set_option linter.unusedVariables false

def hc (r : Nat) (n : Int) (d : List UInt8) : List Value := .int .u64 r :: .int .i64 n :: bvs d
abbrev hV (r : Nat) (n : Int) (d : List UInt8) : Value := .agg (hc r n d).toArray
theorem y32_length : y32.length = 32 := rfl
theorem hc_length {r : Nat} {n : Int} {d : List UInt8} (hd : d.length = 32) : (hc r n d).length = 34 := by simp [hc, bvs_length, hd]
theorem hc0 (r : Nat) (n : Int) (d : List UInt8) : (hc r n d)[0]? = some (.int .u64 r) := rfl
theorem hc1 (r : Nat) (n : Int) (d : List UInt8) : (hc r n d)[1]? = some (.int .i64 n) := rfl
theorem hc_one {r : Nat} {n : Int} {d : List UInt8} : ∀ u ∈ hc r n d, u.oneCell' = true := by
  intro u hu
  simp only [hc, List.mem_cons] at hu
  rcases hu with rfl | rfl | hu
  · rfl
  · rfl
  · exact bvs_oneCell d u hu
theorem sizeB (w : World) : (sizeOf 5).run Tryz.prog w = .ok 1 w := by kernel_rfl
theorem sizeD (w : World) : (sizeOf 23).run Tryz.prog w = .ok 32 w := by kernel_rfl
theorem partD {r : Nat} {n : Int} {d : List UInt8} (hd : d.length = 32) (w : World) : (part 23 (hc r n d).toArray 2).run Tryz.prog w = .ok (.agg (bvs d).toArray) w := by
  simp only [part, isAgg, Sem.run_bind, run_underlying Tryz.underlying23, Result.andThen_ok, Sem.run_pure, if_true, sizeD]
  congr 2
  have h1 : (bvs d).length = 32 := by rw [bvs_length, hd]
  simp only [hc, List.extract_toArray, List.extract_eq_take_drop, List.drop_succ_cons, List.drop_zero]
  congr 1
  exact List.take_of_length_le (by omega)
theorem part0 (r : Nat) (n : Int) (d : List UInt8) (w : World) : (part 22 (hc r n d).toArray 0).run Tryz.prog w = .ok (.int .u64 r) w := by
  simp [part, isAgg, run_underlying Tryz.underlying22, hc]
theorem part1 (r : Nat) (n : Int) (d : List UInt8) (w : World) : (part 3 (hc r n d).toArray 1).run Tryz.prog w = .ok (.int .i64 n) w := by
  simp [part, isAgg, run_underlying Tryz.underlying3, hc]
theorem natEq (a b : Nat) : ((a : Int) == (b : Int)) = (a == b) := by
  rw [Bool.eq_iff_iff]; simp only [beq_iff_eq]; omega
def eqH (r : Nat) (n : Int) (d : List UInt8) (r' : Nat) (n' : Int) (d' : List UInt8) : Bool := r == r' && (n == n' && d == d')
theorem eqH_refl (r : Nat) (n : Int) (d : List UInt8) : eqH r n d r n d = true := by simp [eqH]
theorem rangeH {w : World} {t : TypeId} {g r : Nat} {n : Int} {d : List UInt8} (h : Arr w t g (hc r n d)) : w.rangeAt g 2 (bvs d) := fun j u hu => by
  rw [h.cell (2 + j), Nat.add_comm 2 j]
  simpa [hc] using hu
/-- A load of 32 bytes out of the middle of a block, under a guard that is met. -/
theorem load32w {ops : Array Oper} {rest : List Oper} {o : Oper} {a : Act} {Q : Exit → Act → World → Prop} {w : World} {g off : Nat} {x : Operand} {l : List UInt8} (hA : w.rangeAt g off (bvs l)) (hl : l.length = 32) (hs : Region.wanted o (yielded ops a.tmps) = true ∧ o.op = .load 23 x ∧ a.eval x = .pointer (some ⟨g, off, none⟩))
    (hk : wpList Tryz.prog ops Q rest (a.put o.dst (.agg (bvs l).toArray)) w) : wpList Tryz.prog ops Q (o :: rest) a w :=
  wpList_step fun K hK => by
    rw [if_pos hs.1]
    exact wp_load_mid _ x hs.2.1 g off hs.2.2 _ _ hA Tryz.underlying23 rfl (by rw [bvs_length, hl]; kernel_rfl) (hK _ _ hk)
theorem equalH1 {r r' : Nat} {n n' : Int} {d d' : List UInt8} (hd : d.length = 32) (hd' : d'.length = 32) (w : World) :
    (Op.equalIn 10000 30 (.agg (hc r n d).toArray) (.agg (hc r' n' d').toArray)).run Tryz.prog w = .ok (eqH r n d r' n' d') w := by
  rw [run_equalIn_struct w 9999 _ _ _ (by kernel_rfl) (by kernel_rfl)]
  have h0 := run_equalIn_int (P := Tryz.prog) w 9998 22 .u64 .u64 r r' Tryz.underlying22
  have h1 := run_equalIn_int (P := Tryz.prog) w 9998 3 .i64 .i64 n n' Tryz.underlying3
  have h2 : (Op.equalIn 9999 23 (.agg (bvs d).toArray) (.agg (bvs d').toArray)).run Tryz.prog w = .ok (d == d') w := run_equalIn_bytes w 9997 23 5 32 Tryz.underlying23 Tryz.underlying5 sizeB d d' hd hd'
  simp only [Nat.reduceAdd, natEq] at h0 h1
  simp only [Program.fieldsOf, Tryz.underlying30, Op.eqFields, Sem.run_bind, part0, part1, partD hd, partD hd', Result.andThen_ok, h0, h1, h2, eqH, Sem.run_ite, Sem.run_pure, ne_eq]
  cases hv : (r == r') <;> cases hr : (n == n') <;> cases he : (d == d') <;> simp
section
variable {ops : Array Oper} {rest : List Oper} {o : Oper} {a : Act} {Q : Exit → Act → World → Prop} {w : World} {g : Nat} {x y : Operand}
theorem loadH1 {t : TypeId} {r : Nat} {n : Int} {d : List UInt8} (hA : Arr w t g (hc r n d)) (hd : d.length = 32)
    (hs : Region.wanted o (yielded ops a.tmps) = true ∧ o.op = .load 30 x ∧ a.eval x = .pointer (some ⟨g, 0, none⟩))
    (hk : wpList Tryz.prog ops Q rest (a.put o.dst (hV r n d)) w) : wpList Tryz.prog ops Q (o :: rest) a w :=
  wpList_step fun K hK => by
    rw [if_pos hs.1]
    exact wp_load_mid _ x hs.2.1 g 0 hs.2.2 _ _ hA.range Tryz.underlying30 rfl (by rw [hc_length hd]; kernel_rfl) (hK _ _ hk)
theorem storeH1 {t : TypeId} {r r' : Nat} {n n' : Int} {d d' : List UInt8} (hA : Arr w t g (hc r' n' d')) (hd' : d'.length = 32) (hd : d.length = 32)
    (hs : o.guard = none ∧ o.op = .store 30 x y ∧ a.eval x = .pointer (some ⟨g, 0, none⟩) ∧ a.eval y = hV r n d)
    (hk : ∀ w', w' = w.setRow g (hc r n d).toArray → wpList Tryz.prog ops Q rest (a.put o.dst undef) w') : wpList Tryz.prog ops Q (o :: rest) a w :=
  store_arr hs.1 _ x y hs.2.1 hA hs.2.2.1 hs.2.2.2 (by rw [hc_length hd]; kernel_rfl) (by rw [hc_length hd, hc_length hd']) hc_one (hk _ rfl)
theorem atH1 {t : TypeId} {r : Nat} {n : Int} {d : List UInt8} {cs : Array Value} (m : Nat) (hd : d.length = 32)
    (hs : o.guard = none ∧ o.op = .store 30 x y ∧ a.eval x = .pointer (some ⟨m, 0, none⟩) ∧ a.eval y = hV r n d ∧ cs.toList.length = 34 ∧ m = w.heap.size)
    (hk : wpList Tryz.prog ops Q rest (a.put o.dst undef) (w.alloc (.cells (hc r n d).toArray t))) : wpList Tryz.prog ops Q (o :: rest) a (w.alloc (.cells cs t)) := by
  obtain ⟨h1, h2, h3, h4, h5, rfl⟩ := hs
  exact store_arr h1 _ _ _ h2 (Arr.new w t cs) h3 h4 (by rw [hc_length hd]; kernel_rfl) (by rw [h5, hc_length hd]) hc_one (by rw [World.setRow_alloc_new]; exact hk)
end
theorem resH1 {fn : Func} {p q : Tmp} {tmps : Array Value} {w : World} {g r : Nat} {n : Int} {t : TypeId} {d : List UInt8} (h : fn.results = #[.cell p 30, .tmp q]) (hA : Arr w t g (hc r n d)) (hd : d.length = 32) (hp : tmps.getD p undef = .pointer (some ⟨g, 0, none⟩)) :
    (results fn tmps).run Tryz.prog w = .ok (.tuple #[hV r n d, tmps.getD q undef]) w :=
  results_cell_tmp h tmps w g t (hc r n d).toArray (0, 0) _ hp hA Tryz.underlying30 rfl (by rw [List.size_toArray, hc_length hd]; kernel_rfl)
theorem resH12 {fn : Func} {p q q2 : Tmp} {tmps : Array Value} {w : World} {g r : Nat} {n : Int} {t : TypeId} {d : List UInt8} (h : fn.results = #[.cell p 30, .tmp q, .tmp q2]) (hA : Arr w t g (hc r n d)) (hd : d.length = 32) (hp : tmps.getD p undef = .pointer (some ⟨g, 0, none⟩)) :
    (results fn tmps).run Tryz.prog w = .ok (.tuple #[hV r n d, tmps.getD q undef, tmps.getD q2 undef]) w := by
  have hp' : tmps[p]?.getD undef = .pointer (some ⟨g, 0, none⟩) := by simpa using hp
  have hl := run_loadVar_row (P := Tryz.prog) w g t 30 (hc r n d).toArray (0, 0) _ hA Tryz.underlying30 rfl (by rw [List.size_toArray, hc_length hd]; kernel_rfl)
  simp [results, h, hp', asAddr, hl]
theorem equalH2 {r r' : Nat} {n n' : Int} {d d' : List UInt8} (hd : d.length = 32) (hd' : d'.length = 32) (w : World) :
    (Op.equalIn 10000 25 (.agg (hc r n d).toArray) (.agg (hc r' n' d').toArray)).run Tryz.prog w = .ok (eqH r n d r' n' d') w := by
  rw [run_equalIn_struct w 9999 _ _ _ (by kernel_rfl) (by kernel_rfl)]
  have h0 := run_equalIn_int (P := Tryz.prog) w 9998 22 .u64 .u64 r r' Tryz.underlying22
  have h1 := run_equalIn_int (P := Tryz.prog) w 9998 3 .i64 .i64 n n' Tryz.underlying3
  have h2 : (Op.equalIn 9999 23 (.agg (bvs d).toArray) (.agg (bvs d').toArray)).run Tryz.prog w = .ok (d == d') w := run_equalIn_bytes w 9997 23 5 32 Tryz.underlying23 Tryz.underlying5 sizeB d d' hd hd'
  simp only [Nat.reduceAdd, natEq] at h0 h1
  simp only [Program.fieldsOf, Tryz.underlying25, Op.eqFields, Sem.run_bind, part0, part1, partD hd, partD hd', Result.andThen_ok, h0, h1, h2, eqH, Sem.run_ite, Sem.run_pure, ne_eq]
  cases hv : (r == r') <;> cases hr : (n == n') <;> cases he : (d == d') <;> simp
section
variable {ops : Array Oper} {rest : List Oper} {o : Oper} {a : Act} {Q : Exit → Act → World → Prop} {w : World} {g : Nat} {x y : Operand}
theorem loadH2 {t : TypeId} {r : Nat} {n : Int} {d : List UInt8} (hA : Arr w t g (hc r n d)) (hd : d.length = 32)
    (hs : Region.wanted o (yielded ops a.tmps) = true ∧ o.op = .load 25 x ∧ a.eval x = .pointer (some ⟨g, 0, none⟩))
    (hk : wpList Tryz.prog ops Q rest (a.put o.dst (hV r n d)) w) : wpList Tryz.prog ops Q (o :: rest) a w :=
  wpList_step fun K hK => by
    rw [if_pos hs.1]
    exact wp_load_mid _ x hs.2.1 g 0 hs.2.2 _ _ hA.range Tryz.underlying25 rfl (by rw [hc_length hd]; kernel_rfl) (hK _ _ hk)
theorem storeH2 {t : TypeId} {r r' : Nat} {n n' : Int} {d d' : List UInt8} (hA : Arr w t g (hc r' n' d')) (hd' : d'.length = 32) (hd : d.length = 32)
    (hs : o.guard = none ∧ o.op = .store 25 x y ∧ a.eval x = .pointer (some ⟨g, 0, none⟩) ∧ a.eval y = hV r n d)
    (hk : ∀ w', w' = w.setRow g (hc r n d).toArray → wpList Tryz.prog ops Q rest (a.put o.dst undef) w') : wpList Tryz.prog ops Q (o :: rest) a w :=
  store_arr hs.1 _ x y hs.2.1 hA hs.2.2.1 hs.2.2.2 (by rw [hc_length hd]; kernel_rfl) (by rw [hc_length hd, hc_length hd']) hc_one (hk _ rfl)
theorem atH2 {t : TypeId} {r : Nat} {n : Int} {d : List UInt8} {cs : Array Value} (m : Nat) (hd : d.length = 32)
    (hs : o.guard = none ∧ o.op = .store 25 x y ∧ a.eval x = .pointer (some ⟨m, 0, none⟩) ∧ a.eval y = hV r n d ∧ cs.toList.length = 34 ∧ m = w.heap.size)
    (hk : wpList Tryz.prog ops Q rest (a.put o.dst undef) (w.alloc (.cells (hc r n d).toArray t))) : wpList Tryz.prog ops Q (o :: rest) a (w.alloc (.cells cs t)) := by
  obtain ⟨h1, h2, h3, h4, h5, rfl⟩ := hs
  exact store_arr h1 _ _ _ h2 (Arr.new w t cs) h3 h4 (by rw [hc_length hd]; kernel_rfl) (by rw [h5, hc_length hd]) hc_one (by rw [World.setRow_alloc_new]; exact hk)
end
theorem resH2 {fn : Func} {p q : Tmp} {tmps : Array Value} {w : World} {g r : Nat} {n : Int} {t : TypeId} {d : List UInt8} (h : fn.results = #[.cell p 25, .tmp q]) (hA : Arr w t g (hc r n d)) (hd : d.length = 32) (hp : tmps.getD p undef = .pointer (some ⟨g, 0, none⟩)) :
    (results fn tmps).run Tryz.prog w = .ok (.tuple #[hV r n d, tmps.getD q undef]) w :=
  results_cell_tmp h tmps w g t (hc r n d).toArray (0, 0) _ hp hA Tryz.underlying25 rfl (by rw [List.size_toArray, hc_length hd]; kernel_rfl)
theorem resH22 {fn : Func} {p q q2 : Tmp} {tmps : Array Value} {w : World} {g r : Nat} {n : Int} {t : TypeId} {d : List UInt8} (h : fn.results = #[.cell p 25, .tmp q, .tmp q2]) (hA : Arr w t g (hc r n d)) (hd : d.length = 32) (hp : tmps.getD p undef = .pointer (some ⟨g, 0, none⟩)) :
    (results fn tmps).run Tryz.prog w = .ok (.tuple #[hV r n d, tmps.getD q undef, tmps.getD q2 undef]) w := by
  have hp' : tmps[p]?.getD undef = .pointer (some ⟨g, 0, none⟩) := by simpa using hp
  have hl := run_loadVar_row (P := Tryz.prog) w g t 25 (hc r n d).toArray (0, 0) _ hA Tryz.underlying25 rfl (by rw [List.size_toArray, hc_length hd]; kernel_rfl)
  simp [results, h, hp', asAddr, hl]
/-- The digest in the block of a header. -/
theorem rdH {w : World} {t : TypeId} {g r : Nat} {n : Int} {d : List UInt8} (h : Arr w t g (hc r n d)) (hd : d.length = 32) : Rd w.heap.size w (.slice (some ⟨g, 2, none⟩) 32 32) d := by
  refine .inr ⟨g, 2, 32, by rw [hd], by omega, by unfold maxLen; omega, h.lt, fun i hi => ?_⟩
  rw [h.cell (2 + i), Nat.add_comm 2 i]
  have := bvs_getElem d i hi
  simpa [hc] using this
theorem rd_now {B : Nat} {w w' : World} {v : Value} {l : List UInt8} (h : Rd w.heap.size w v l) (hb : Below w.heap.size w w') : Rd w'.heap.size w' v l := (h.below hb (Nat.le_refl _)).mono hb.size
theorem fold_set (p : Nat) : ∀ (l A B : List Value) (k : Nat), A.length = p + k → B.length = l.length → (l.zipIdx k).foldl (fun (cs : Array Value) (x : Value × Nat) => cs.setIfInBounds (p + x.2) x.1) (A ++ B).toArray = (A ++ l).toArray
  | [], A, B, k, _, hb => by
    obtain rfl := List.eq_nil_of_length_eq_zero hb
    simp
  | v :: l, A, [], k, _, hb => by simp at hb
  | v :: l, A, u :: B, k, ha, hb => by
    rw [List.zipIdx_cons, List.foldl_cons]
    simp only [List.setIfInBounds_toArray]
    rw [← ha, List.set_append_right _ _ (Nat.le_refl _), Nat.sub_self, List.set_cons_zero]
    have := fold_set p l (A ++ [v]) B (k + 1) (by rw [List.length_append, ha]; simp; omega) (by simpa using hb)
    simpa [List.append_assoc] using this
theorem buildH (r : Nat) (n : Int) (d : List UInt8) (hd : d.length = 32) : (bvs d).zipIdx.foldl (fun (cs : Array Value) (x : Value × Nat) => cs.setIfInBounds (2 + x.2) x.1) ([Value.int .u64 r, Value.int .i64 n] ++ bvs y32).toArray = (hc r n d).toArray :=
  fold_set 2 (bvs d) [Value.int .u64 r, Value.int .i64 n] (bvs y32) 0 rfl (by rw [bvs_length, bvs_length, hd]; rfl)
theorem arr_at32 (a : Addr) (n c : Nat) (h : ¬ n < 32) (w : World) : (Instr.arrayAt 23 (.slice (some a) n c)).run Tryz.prog w = .ok (.pointer (some a)) w := by
  simp [Instr.arrayAt, Sem.run_bind, run_underlying Tryz.underlying23, h]
theorem grown_below {w w' : World} {c : Nat} (h : w.grownBy w' (some c)) (hc : c ≤ w.heap.size) : Below c w w' := (Below.refl _ _).grown h hc (fun k hk => by injection hk with hk; omega)
theorem eqlNilN (d : Int) (w : World) : (binOp BinOp.neq 33 (.iface 50 (.int .i64 d)) .nilIface).run Tryz.prog w = .ok (.bool true) w := by kernel_rfl
theorem neqF (c d : Int) (w : World) : (binOp BinOp.neq 33 (.iface 92 (.agg #[.int .i64 c, .int .i64 d])) .nilIface).run Tryz.prog w = .ok (.bool true) w := by kernel_rfl
theorem eqlCC (c d : Int) (w : World) : (binOp BinOp.eql 33 (.iface 50 (.int .i64 c)) (.iface 50 (.int .i64 d))).run Tryz.prog w = .ok (.bool (decide (c = d))) w := by kernel_rfl
def hE (P : Nat × Nat × List UInt8 × Nat × Nat) : Value := errF P.2.2.2.1 P.2.2.2.2
def hT (P : Nat × Nat × List UInt8 × Nat × Nat) : Value := hV P.1 (P.2.1 : Nat) P.2.2.1
def hR (P : Nat × Nat × List UInt8 × Nat × Nat) : Value := .tuple #[hT P, .int .i64 (P.2.2.2.1 : Nat), .int .i64 (P.2.2.2.2 : Nat)]
theorem hE_bad (c n : Nat) (h : c ≠ 0) : hE (badH c n) = faultN c n := by show errF c n = _; unfold errF; rw [if_neg h]
end Go.Proofs.YtlngicddojoogaaGreatDoor
/-
  stream.number; Cursor.End at the end.
-/
namespace Go.Proofs.YtlngicddojoogaaGreatDoor
open Go.ChangeShapes Go.WideShapes Go.ChangeAt Go.RowKit
open errAs (ErrT)
set_option linter.unusedVariables false

set_option maxRecDepth 100000 in
theorem end_done {w : World} {c at' : Nat} {l : List UInt8} (h : Cur w c l at') (hl : at' = l.length) :
    Calls Tryz.prog 28 #[.pointer (some ⟨c, 0, none⟩)] w fun e w' => e = .returned .nilIface ∧ ∃ n, w' = w.drewN n := by
  have HL := Lib.hid (left_any h)
  rw [hl, Nat.sub_self] at HL
  go_enter Tryz.func28, Tryz.ntmps28
  go_wp2_with fail
  refine HL.out.mono ?_
  rintro e w1 ⟨rfl, nq, rfl⟩
  go_wp2_with fail
  go_ret
  exact ⟨rfl, _, rfl⟩
/-- What number makes of the bytes l: the number and the code. -/
def numL (most : Nat) (l : List UInt8) : Nat × Nat := if (num l).2.2 ≠ 0 then (0, (num l).2.2) else if most < (num l).1 then (0, 15) else ((num l).1, 0)
theorem errT_from {w w' : World} {c : Nat} (h : ErrT w) (hb : Below c w w') (hc : 1 < c) : ErrT w' := h.below hb hc
set_option maxRecDepth 100000 in
set_option maxHeartbeats 1000000 in
theorem snumber_any {w : World} {c at' : Nat} {l : List UInt8} (h : Cur w c l at') (most : Nat) (hm : most < lim64) (hg : ErrT w) (hgc : 1 < c) (hle : at' ≤ 1000000000000) :
    Calls Tryz.prog 25 #[.pointer (some ⟨c, 0, none⟩), .int .u64 most] w fun e w' => e = .returned (.tuple #[.int .u64 (numL most (l.drop at')).1, errF (numL most (l.drop at')).2 at']) ∧ Cur w' c l (at' + (num (l.drop at')).2.1) ∧ Below c w w' := by
  have HE := Lib.hid hg
  have HAT := Lib.hid (at_any h)
  have HNU := Lib.hid (Number_any h)
  have hcs := h.lt
  unfold NumberPost at HNU
  obtain ⟨m, hmm⟩ : ∃ m, m = num (l.drop at') := ⟨_, rfl⟩
  have HN : Hid (numL most (l.drop at') = if m.2.2 ≠ 0 then (0, m.2.2) else if most < m.1 then (0, 15) else (m.1, 0)) := by rw [hmm]; rfl
  rw [← hmm] at HNU ⊢
  have hq := eqlNilN
  clear h hg hm hmm
  go_enter Tryz.func25, Tryz.ntmps25
  go_wp2_with fail
  refine HAT.out.mono ?_
  rintro e w1 ⟨rfl, rfl⟩
  go_wp2_with fail
  refine HNU.out.mono ?_
  rintro e w2 ⟨rfl, c2, g2⟩
  have HB2 := Lib.hid (grown_below g2 (Nat.le_of_lt hcs))
  have HC2 := Lib.hid c2
  have HE2 := Lib.hid (errT_from HE.out HB2.out hgc)
  clear g2 c2 HNU HAT
  by_cases h0 : m.2.2 = 0
  · have hv : errV m.2.2 = .nilIface := by rw [h0]; rfl
    rw [hv]
    obtain ⟨x, hx⟩ : ∃ x, x = m.1 := ⟨_, rfl⟩
    rw [← hx]
    by_cases h1 : most < x
    · have g1 : (most : Int) < x := by omega
      have HF : Hid (numL most (l.drop at') = (0, 15)) := by show _ = _; rw [HN.out, if_neg (fun k => k h0), if_pos (by omega)]
      clear h0 hv hx h1
      go_wp2_with fail
      refine (fnew_any _ _ _).mono ?_
      rintro e w3 ⟨rfl, rfl⟩
      go_wp2_with fail
      go_ret2
      exact ⟨by rw [HF.out]; rfl, HC2.out, HB2.out⟩
    · have g1 : ¬ (most : Int) < x := by omega
      have HF : Hid (numL most (l.drop at') = (x, 0)) := by show _ = _; rw [HN.out, if_neg (fun k => k h0), if_neg (by omega), hx]
      clear h0 hv hx
      go_wp2_with fail
      go_ret2
      exact ⟨by rw [HF.out]; rfl, HC2.out, HB2.out⟩
  · have hv : errV m.2.2 = .iface 50 (.int .i64 (m.2.2 : Nat)) := by unfold errV; rw [if_neg h0]
    rw [hv]
    have HF : Hid (numL most (l.drop at') = (0, m.2.2)) := by show _ = _; rw [HN.out, if_pos h0]
    have HSH := Lib.hid (shift_Cn m.2.2 at' w2 HE2.out hle)
    have HH0 := Lib.hid h0
    clear hv h0
    go_wp2_with fail
    refine HSH.out.mono ?_
    rintro e w3 ⟨rfl, b3⟩
    have HB3 := Lib.hid (HB2.out.trans (b3.mono (Nat.le_trans (Nat.le_of_lt hcs) HB2.out.size)))
    have HC3 := Lib.hid (HC2.out.below b3 HC2.out.lt)
    clear b3
    go_wp2_with fail
    go_ret2
    refine ⟨?_, HC3.out, HB3.out⟩
    rw [HF.out]
    show _ = Ending.returned (.tuple #[_, errF m.2.2 at'])
    unfold errF
    rw [if_neg HH0.out]
    rfl
end Go.Proofs.YtlngicddojoogaaGreatDoor
/-
  stream.ParseHeader.
-/
namespace Go.Proofs.YtlngicddojoogaaGreatDoor
open Go.ChangeShapes Go.WideShapes Go.ChangeAt Go.RowKit
open errAs (ErrT)
set_option linter.unusedVariables false

/-- The result's block g holds the zero header; the cursor in block c has come to at'. -/
def PH (w : World) (g c : Nat) (l : List UInt8) (at' : Nat) (W : World) : Prop := Arr W 30 g (hc 0 0 y32) ∧ Below w.heap.size w W ∧ Cur W c l at' ∧ w.heap.size ≤ g ∧ g < c
theorem PH.step {w W W' : World} {g c a a' : Nat} {l : List UInt8} (h : PH w g c l a W) (hb : Below c W W') (hc : Cur W' c l a') : PH w g c l a' W' :=
  ⟨h.1.below hb h.2.2.2.2, h.2.1.trans (hb.mono (by have := h.2.2.2; omega)), hc, h.2.2.2⟩
theorem PH.same {w W W' : World} {g c a : Nat} {l : List UInt8} (h : PH w g c l a W) (hb : Below W.heap.size W W') : PH w g c l a W' :=
  ⟨h.1.later hb, h.2.1.trans (hb.mono h.2.1.size), h.2.2.1.below hb h.2.2.1.lt, h.2.2.2⟩
theorem PH.err {w W : World} {g c a : Nat} {l : List UInt8} (h : PH w g c l a W) (he : ErrT w) : ErrT W ∧ 1 < c :=
  ⟨errT_below he h.2.1, by have := he.lt; have := h.2.2.2; omega⟩
theorem str_vst (l : List UInt8) : str l = ⟨#[86, 83, 84, 49]⟩ ↔ l = vst := by
  constructor
  · intro h
    have h2 : l.toArray = #[86, 83, 84, 49] := congrArg ByteArray.data h
    have := congrArg Array.toList h2
    simpa [vst] using this
  · rintro rfl; rfl
theorem numL_bad {most : Nat} {l : List UInt8} (h : (num l).2.2 ≠ 0) : numL most l = (0, (num l).2.2) := by unfold numL; rw [if_pos h]
theorem numL_big {most : Nat} {l : List UInt8} (h : (num l).2.2 = 0) (h2 : most < (num l).1) : numL most l = (0, 15) := by unfold numL; rw [if_neg (fun k => k h), if_pos h2]
theorem numL_ok {most : Nat} {l : List UInt8} (h : (num l).2.2 = 0) (h2 : ¬ most < (num l).1) : numL most l = ((num l).1, 0) := by unfold numL; rw [if_neg (fun k => k h), if_neg h2]
theorem errF_no (c n : Nat) (h : c ≠ 0) : errF c n = .iface 92 (.agg #[.int .i64 (c : Nat), .int .i64 (n : Nat)]) := by unfold errF; rw [if_neg h]; rfl
theorem convI (n : Nat) (h : n ≤ 65536) (w : World) : (convert 22 3 (.int .u64 (n : Nat))).run Tryz.prog w = .ok (.int .i64 n) w := by
  have e : IntKind.wrap .i64 (n : Int) = n := by
    unfold IntKind.wrap; simp [IntKind.bits, IntKind.signed]; omega
  simp [convert, run_underlying Tryz.underlying3, run_underlying Tryz.underlying22, Conv.intToInt, e]
set_option maxRecDepth 100000 in
set_option maxHeartbeats 4000000 in
theorem sparse_any {B : Nat} {w : World} {vb : Value} {l : List UInt8} (hr : Rd B w vb l) (hB : B ≤ w.heap.size) (hl : l.length ≤ 1000000000) (hE : ErrT w) :
    Calls Tryz.prog 9 #[vb] w fun e w' => e = .returned (.tuple #[hT (parseH l), Go.Proofs.YtlngicddojoogaaGreatDoor.hE (parseH l)]) ∧ Below w.heap.size w w' := by
  have HE := Lib.hid hE
  have HR := Lib.hid hr
  have HL := Lib.hid hl
  have HN : Hid (∀ z : Array Value, z.toList = hc 0 0 y32 → Calls Tryz.prog 22 #[vb] (w.alloc (.cells z 30)) fun e w1 => ∃ c, e = .returned (.pointer (some ⟨c, 0, none⟩)) ∧ PH w w.heap.size c l 0 w1) := by
    intro z hz
    have hA := Arr.new' w 30 z _ hz
    have hb0 : Below w.heap.size w (w.alloc (.cells z 30)) := (Below.refl _ _).alloc (Nat.le_refl _) _
    refine (new_any (hr.below hb0 hB) (Nat.le_trans hB hb0.size) (by omega)).mono ?_
    rintro e w1 ⟨c, rfl, hc, hcur, b1⟩
    exact ⟨c, rfl, hA.later b1, hb0.trans (b1.mono hb0.size), hcur, Nat.le_refl _, Nat.lt_of_lt_of_le hA.lt hc⟩
  have hq := eqlNilN
  have hqf := neqF
  obtain ⟨ov, cv, rfl⟩ := rd_form hr
  clear hr hE
  go_enter Tryz.func9, Tryz.ntmps9
  go_wp2_with fail
  refine (HN.out _ rfl).mono ?_
  rintro e w1 ⟨c, rfl, hp1⟩
  have HP1 := Lib.hid hp1
  obtain ⟨g, hg⟩ : ∃ g, g = w.heap.size := ⟨_, rfl⟩
  rw [← hg] at HP1 ⊢
  clear HN hp1 hg
  by_cases hl4 : l.length < 4
  · have HPZ : Hid (parseH l = badH 6 0) := parseH_sign (fun k => by have := congrArg List.length k; rw [List.length_take] at this; simp [vst] at this; omega)
    have HT := Lib.hid (take_no HP1.out.2.2.1 4 (by omega))
    clear hl4
    go_wp2_with fail
    refine HT.out.mono ?_
    rintro e w2 ⟨rfl, k, rfl⟩
    have HP2 := Lib.hid (HP1.out.same (below_drewN (Below.refl _ _) k))
    clear HT HP1
    go_wp2_with fail
    refine (fnew_any _ _ _).mono ?_
    rintro e w3 ⟨rfl, rfl⟩
    have hA := HP2.out.1
    have HB := Lib.hid HP2.out.2.1
    have HG := Lib.hid HP2.out.2.2.2.1
    go_wp2_with ((with_reducible refine storeH1 (x := .tmp 2) (y := .tmp 26) (r := 0) (n := 0) (d := y32) (o := ⟨none, .store _ _ _, _, _, _, _⟩) hA y32_length y32_length ?_ ?_); exact ⟨rfl, rfl, rfl, rfl⟩)
    refine bodyPost_ret (resH1 rfl (hA.row _) y32_length rfl) rfl ⟨?_, below_row HB.out HG.out _⟩
    rw [HPZ.out, hE_bad _ _ (by decide)]
    rfl
  · have HT := Lib.hid (take_yes HP1.out.2.2.1 4 (by decide) (by omega))
    rw [List.drop_zero, Nat.zero_add] at HT
    have HL4 : Hid (4 ≤ l.length) := Nat.le_of_not_lt hl4
    clear hl4
    go_wp2_with fail
    refine HT.out.mono ?_
    rintro e w2 ⟨v2, rfl, o2, c2, b2⟩
    have HP2 := Lib.hid (HP1.out.step b2 c2)
    have hr2 := Rd.of_own o2
    obtain ⟨T, hT⟩ : ∃ T, T = l.take 4 := ⟨_, rfl⟩
    rw [← hT] at hr2
    obtain ⟨q2, cp2, rfl⟩ := rd_form hr2
    have hcv := conv_bytes hr2
    clear o2 c2 b2 HT HP1 hr2
    obtain ⟨n4, hn4⟩ : ∃ n, n = T.length := ⟨_, rfl⟩
    rw [← hn4] at hcv ⊢
    clear hn4
    by_cases hx : T = vst
    · have hs : str T = ⟨#[86, 83, 84, 49]⟩ := (str_vst _).2 hx
      rw [hT] at hx
      clear hT
      have HX := Lib.hid hx
      rw [hs] at hcv
      clear hs hx
      have HNU := Lib.hid (snumber_any HP2.out.2.2.1 9223372036854775807 (by decide) (HP2.out.err HE.out).1 (HP2.out.err HE.out).2 (by omega))
      obtain ⟨m, hm⟩ : ∃ m, m = num (l.drop 4) := ⟨_, rfl⟩
      have HM := Lib.hid hm
      go_wp2_with fail
      refine HNU.out.mono ?_
      rintro e w4 ⟨rfl, c4, b4⟩
      have HP4 := Lib.hid (HP2.out.step b4 c4)
      rw [← hm] at HP4
      clear c4 b4 HP2 HNU hcv
      by_cases hm0 : m.2.2 = 0
      · by_cases hlim : 9223372036854775807 < m.1
        · rw [numL_big (by rw [← hm]; exact hm0) (by rw [← hm]; exact hlim)]
          rw [errF_no 15 4 (by decide)]
          have HPZ := Lib.hid (parseH_l1 HX.out hm hm0 (by unfold limR; omega))
          clear hm0 hlim hm
          have hA := HP4.out.1
          have HB := Lib.hid HP4.out.2.1
          have HG := Lib.hid HP4.out.2.2.2.1
          go_wp2_with ((with_reducible refine storeH1 (x := .tmp 2) (y := .tmp 35) (r := 0) (n := 0) (d := y32) (o := ⟨none, .store _ _ _, _, _, _, _⟩) hA y32_length y32_length ?_ ?_); exact ⟨rfl, rfl, rfl, rfl⟩)
          refine bodyPost_ret (resH1 rfl (hA.row _) y32_length rfl) rfl ⟨?_, below_row HB.out HG.out _⟩
          rw [HPZ.out, hE_bad _ _ (by decide)]
          rfl
        · rw [numL_ok (by rw [← hm]; exact hm0) (by rw [← hm]; exact hlim), ← hm]
          rw [show errF 0 4 = Value.nilIface from rfl]
          have HM0 := Lib.hid hm0
          have HLM : Hid (¬ limR ≤ m.1) := by show ¬ _; unfold limR; omega
          have HAT0 := num_at (l := l.drop 4) (by rw [← hm]; exact hm0)
          rw [← hm, List.length_drop] at HAT0
          clear hm0 hlim hm
          obtain ⟨a, ha⟩ : ∃ a, a = 4 + m.2.1 := ⟨_, rfl⟩
          rw [← ha] at HP4
          have HA := Lib.hid ha
          have HAL : Hid (a ≤ l.length) := by show _ ≤ _; have := HL4.out; omega
          clear ha HAT0
          have HNU := Lib.hid (snumber_any HP4.out.2.2.1 65536 (by decide) (HP4.out.err HE.out).1 (HP4.out.err HE.out).2 (by have := HAL.out; omega))
          obtain ⟨y, hy⟩ : ∃ y, y = num (l.drop a) := ⟨_, rfl⟩
          have HY := Lib.hid hy
          obtain ⟨rv, hrv⟩ : ∃ rv, rv = m.1 := ⟨_, rfl⟩
          rw [← hrv]
          have HRV := Lib.hid hrv
          clear hrv
          go_wp2_with fail
          refine HNU.out.mono ?_
          rintro e w5 ⟨rfl, c5, b5⟩
          have HP5 := Lib.hid (HP4.out.step b5 c5)
          rw [← hy] at HP5
          clear c5 b5 HP4 HNU
          by_cases hy0 : y.2.2 = 0
          · by_cases hlim : 65536 < y.1
            · rw [numL_big (by rw [← hy]; exact hy0) (by rw [← hy]; exact hlim)]
              rw [errF_no 15 a (by decide)]
              have HPZ := Lib.hid (parseH_l2 HX.out HM.out HM0.out HLM.out HA.out hy hy0 (by unfold limC; omega))
              clear hy0 hlim hy
              have hA := HP5.out.1
              have HB := Lib.hid HP5.out.2.1
              have HG := Lib.hid HP5.out.2.2.2.1
              go_wp2_with ((with_reducible refine storeH1 (x := .tmp 2) (y := .tmp 44) (r := 0) (n := 0) (d := y32) (o := ⟨none, .store _ _ _, _, _, _, _⟩) hA y32_length y32_length ?_ ?_); exact ⟨rfl, rfl, rfl, rfl⟩)
              refine bodyPost_ret (resH1 rfl (hA.row _) y32_length rfl) rfl ⟨?_, below_row HB.out HG.out _⟩
              rw [HPZ.out, hE_bad _ _ (by decide)]
              rfl
            · rw [numL_ok (by rw [← hy]; exact hy0) (by rw [← hy]; exact hlim), ← hy]
              rw [show errF 0 a = Value.nilIface from rfl]
              have HY0 := Lib.hid hy0
              have HLY : Hid (¬ limC < y.1) := by show ¬ _; unfold limC; omega
              have HAT0 := num_at (l := l.drop a) (by rw [← hy]; exact hy0)
              rw [← hy, List.length_drop] at HAT0
              clear hy0 hlim hy
              obtain ⟨a2, ha2⟩ : ∃ a2, a2 = a + y.2.1 := ⟨_, rfl⟩
              rw [← ha2] at HP5
              have HA2 := Lib.hid ha2
              have HAL2 : Hid (a2 ≤ l.length) := by show _ ≤ _; have := HAL.out; omega
              obtain ⟨nv, hnv⟩ : ∃ nv, nv = y.1 := ⟨_, rfl⟩
              rw [← hnv]
              have HNV := Lib.hid hnv
              have HAT := Lib.hid (at_any HP5.out.2.2.1)
              clear ha2 HAT0 hnv
              go_wp2_with fail
              refine HAT.out.mono ?_
              rintro e w6 ⟨rfl, rfl⟩
              clear HAT
              by_cases hs : l.length < a2 + 32
              · have HT := Lib.hid (take_no HP5.out.2.2.1 32 (by omega))
                have HPZ := Lib.hid (parseH_short HX.out HM.out HM0.out HLM.out HA.out HY.out HY0.out HLY.out HA2.out hs)
                clear hs
                go_wp2_with fail
                refine HT.out.mono ?_
                rintro e w6 ⟨rfl, kk, rfl⟩
                have HP6 := Lib.hid (HP5.out.same (below_drewN (Below.refl _ _) kk))
                clear HT HP5
                have HSH := Lib.hid (shift_Cn 1 a2 (w5.drewN kk) (HP6.out.err HE.out).1 (by have := HAL2.out; have := HL.out; omega))
                go_wp2_with fail
                refine HSH.out.mono ?_
                rintro e w7 ⟨rfl, b7⟩
                have HP7 := Lib.hid (HP6.out.same b7)
                clear b7 HP6 HSH
                have hA := HP7.out.1
                have HB := Lib.hid HP7.out.2.1
                have HG := Lib.hid HP7.out.2.2.2.1
                go_wp2_with ((with_reducible refine storeH1 (x := .tmp 2) (y := .tmp 55) (r := 0) (n := 0) (d := y32) (o := ⟨none, .store _ _ _, _, _, _, _⟩) hA y32_length y32_length ?_ ?_); exact ⟨rfl, rfl, rfl, rfl⟩)
                refine bodyPost_ret (resH1 rfl (hA.row _) y32_length rfl) rfl ⟨?_, below_row HB.out HG.out _⟩
                rw [HPZ.out, hE_bad _ _ (by decide)]
                rfl
              · have HS : Hid (a2 + 32 ≤ l.length) := Nat.le_of_not_lt hs
                have HT := Lib.hid (take_yes HP5.out.2.2.1 32 (by decide) HS.out)
                obtain ⟨d, hd⟩ : ∃ d, d = (l.drop a2).take 32 := ⟨_, rfl⟩
                rw [← hd] at HT
                have HDL : Hid (d.length = 32) := by show _ = _; rw [hd, List.length_take, List.length_drop]; omega
                have HD := Lib.hid hd
                clear hd hs
                go_wp2_with fail
                refine HT.out.mono ?_
                rintro e w6 ⟨v6, rfl, o6, c6, b6⟩
                have HP6 := Lib.hid (HP5.out.step b6 c6)
                have HO6 := Lib.hid o6
                clear o6 c6 b6 HT HP5
                by_cases hlong : a2 + 32 < l.length
                · have HEN := Lib.hid (end_left HP6.out.2.2.1 hlong)
                  have HPZ := Lib.hid (parseH_long HX.out HM.out HM0.out HLM.out HA.out HY.out HY0.out HLY.out HA2.out hlong)
                  clear hlong
                  go_wp2_with fail
                  refine HEN.out.mono ?_
                  rintro e w7 ⟨rfl, kk, rfl⟩
                  have HP7 := Lib.hid (HP6.out.same (below_drewN (Below.refl _ _) kk))
                  have HAT := Lib.hid (at_any HP7.out.2.2.1)
                  clear HEN HP6
                  go_wp2_with fail
                  refine HAT.out.mono ?_
                  rintro e w8 ⟨rfl, rfl⟩
                  go_wp2_with fail
                  refine (fnew_any _ _ _).mono ?_
                  rintro e w9 ⟨rfl, rfl⟩
                  have hA := HP7.out.1
                  have HB := Lib.hid HP7.out.2.1
                  have HG := Lib.hid HP7.out.2.2.2.1
                  go_wp2_with ((with_reducible refine storeH1 (x := .tmp 2) (y := .tmp 62) (r := 0) (n := 0) (d := y32) (o := ⟨none, .store _ _ _, _, _, _, _⟩) hA y32_length y32_length ?_ ?_); exact ⟨rfl, rfl, rfl, rfl⟩)
                  refine bodyPost_ret (resH1 rfl (hA.row _) y32_length rfl) rfl ⟨?_, below_row HB.out HG.out _⟩
                  rw [HPZ.out, hE_bad _ _ (by decide)]
                  rfl
                · have HEN := Lib.hid (end_done HP6.out.2.2.1 (by have := HS.out; omega))
                  have HPZ := Lib.hid (parseH_yes HX.out HM.out HM0.out HLM.out HA.out HY.out HY0.out HLY.out HA2.out (by have := HS.out; omega))
                  rw [← HRV.out, ← HNV.out, show l.drop a2 = d by rw [HD.out, List.take_of_length_le (by rw [List.length_drop]; omega)]] at HPZ
                  have hnv : nv ≤ 65536 := by have := HLY.out; unfold limC at this; rw [HNV.out]; omega
                  have hcv := fun w => convI nv hnv w
                  clear hnv hlong
                  go_wp2_with fail
                  refine HEN.out.mono ?_
                  rintro e w7 ⟨rfl, kk, rfl⟩
                  have hd7 := below_drewN (Below.refl w6.heap.size w6) kk
                  have HP7 := Lib.hid (HP6.out.same hd7)
                  have HO7 := Lib.hid (own_below HO6.out hd7)
                  clear HEN HP6 hd7 HO6
                  generalize w6.drewN kk = w7 at HP7 HO7 ⊢
                  obtain ⟨bk6, of6, cp6, rfl, hran⟩ : ∃ bk of cp, v6 = .slice (some ⟨bk, of, none⟩) 32 cp ∧ w7.rangeAt bk of (bvs d) := by
                    rcases Rd.of_own HO7.out with ⟨_, _, h⟩ | ⟨bk, of, cp, hv, _, _, _, h⟩
                    · have := HDL.out; rw [h] at this; cases this
                    · rw [HDL.out] at hv
                      refine ⟨bk, of, cp, hv, fun j u hu => ?_⟩
                      have hj : j < d.length := by have := (List.getElem?_eq_some_iff.1 hu).1; simpa [bvs] using this
                      rw [bvs_getElem d j hj] at hu
                      rw [h j hj]; exact hu
                  have HRA := Lib.hid hran
                  have har := arr_at32 ⟨bk6, of6, none⟩ 32 cp6 (by omega)
                  have hbl : (bvs d).length = 32 := by rw [bvs_length, HDL.out]
                  clear hran HO7
                  have HBZ := Lib.hid (buildH rv (nv : Nat) d HDL.out)
                  have hA := HP7.out.1
                  have HB := Lib.hid HP7.out.2.1
                  have HG := Lib.hid HP7.out.2.2.2.1
                  clear HP7
                  go_wp2_with (first
                    | ((with_reducible refine load32w (x := .tmp 70) (l := d) (o := ⟨some 71, _, _, _, _, _⟩) HRA.out HDL.out ?_ ?_); exact ⟨rfl, rfl, rfl⟩)
                    | ((with_reducible refine storeH1 (x := .tmp 2) (y := .tmp 72) (r := rv) (n := (nv : Nat)) (d := d) (o := ⟨none, .store _ _ _, _, _, _, _⟩) hA y32_length HDL.out ?_ ?_); exact ⟨rfl, rfl, rfl, congrArg Value.agg HBZ.out⟩))
                  refine bodyPost_ret (resH1 rfl (hA.row _) HDL.out rfl) rfl ⟨?_, below_row HB.out HG.out _⟩
                  rw [HPZ.out]
                  rfl
          · rw [numL_bad (by rw [← hy]; exact hy0), ← hy]
            rw [errF_no _ a hy0]
            have HPZ := Lib.hid (parseH_n2 HX.out HM.out HM0.out HLM.out HA.out hy hy0)
            have HY0 := Lib.hid hy0
            clear hy0 hy
            have hA := HP5.out.1
            have HB := Lib.hid HP5.out.2.1
            have HG := Lib.hid HP5.out.2.2.2.1
            go_wp2_with ((with_reducible refine storeH1 (x := .tmp 2) (y := .tmp 44) (r := 0) (n := 0) (d := y32) (o := ⟨none, .store _ _ _, _, _, _, _⟩) hA y32_length y32_length ?_ ?_); exact ⟨rfl, rfl, rfl, rfl⟩)
            refine bodyPost_ret (resH1 rfl (hA.row _) y32_length rfl) rfl ⟨?_, below_row HB.out HG.out _⟩
            rw [HPZ.out, hE_bad _ _ HY0.out]
            rfl
      · rw [numL_bad (by rw [← hm]; exact hm0), ← hm]
        rw [errF_no _ 4 hm0]
        have HPZ := Lib.hid (parseH_n1 HX.out hm hm0)
        have HM0 := Lib.hid hm0
        clear hm0 hm
        have hA := HP4.out.1
        have HB := Lib.hid HP4.out.2.1
        have HG := Lib.hid HP4.out.2.2.2.1
        go_wp2_with ((with_reducible refine storeH1 (x := .tmp 2) (y := .tmp 35) (r := 0) (n := 0) (d := y32) (o := ⟨none, .store _ _ _, _, _, _, _⟩) hA y32_length y32_length ?_ ?_); exact ⟨rfl, rfl, rfl, rfl⟩)
        refine bodyPost_ret (resH1 rfl (hA.row _) y32_length rfl) rfl ⟨?_, below_row HB.out HG.out _⟩
        rw [HPZ.out, hE_bad _ _ HM0.out]
        rfl
    · have HPZ := Lib.hid (parseH_sign (b := l) (by rw [← hT]; exact hx))
      have hs : ((str T).toList == [86, 83, 84, 49]) = false := by
        rw [ByteArray.toList_eq, beq_eq_false_iff_ne]
        exact fun k => hx (by simpa [str, vst] using k)
      clear hx hT
      go_wp2_with fail
      refine (fnew_any _ _ _).mono ?_
      rintro e w3 ⟨rfl, rfl⟩
      have hA := HP2.out.1
      have HB := Lib.hid HP2.out.2.1
      have HG := Lib.hid HP2.out.2.2.2.1
      go_wp2_with ((with_reducible refine storeH1 (x := .tmp 2) (y := .tmp 26) (r := 0) (n := 0) (d := y32) (o := ⟨none, .store _ _ _, _, _, _, _⟩) hA y32_length y32_length ?_ ?_); exact ⟨rfl, rfl, rfl, rfl⟩)
      refine bodyPost_ret (resH1 rfl (hA.row _) y32_length rfl) rfl ⟨?_, below_row HB.out HG.out _⟩
      rw [HPZ.out, hE_bad _ _ (by decide)]
      rfl
end Go.Proofs.YtlngicddojoogaaGreatDoor
/-
  stream.PutHeader.
-/
namespace Go.Proofs.YtlngicddojoogaaGreatDoor
open Go.ChangeShapes Go.WideShapes Go.ChangeAt Go.RowKit
open errAs (ErrT)
set_option linter.unusedVariables false

theorem rd_four {w : World} {t : TypeId} {v0 v1 v2 v3 : Value} {l0 l1 l2 l3 : List UInt8} (h0 : Rd w.heap.size w v0 l0) (h1 : Rd w.heap.size w v1 l1) (h2 : Rd w.heap.size w v2 l2) (h3 : Rd w.heap.size w v3 l3) :
    RdAll (w.alloc (.cells #[v0, v1, v2, v3] t)).heap.size (w.alloc (.cells #[v0, v1, v2, v3] t)) (some ⟨w.heap.size, 0, none⟩) [l0, l1, l2, l3] := by
  intro _
  have hb : Below w.heap.size w (w.alloc (.cells #[v0, v1, v2, v3] t)) := (Below.refl _ _).alloc (Nat.le_refl _) _
  refine ⟨w.heap.size, 0, rfl, by simp, fun i hi => ?_⟩
  have hA := Arr.new' w t #[v0, v1, v2, v3] [v0, v1, v2, v3] rfl
  have hi3 : i = 0 ∨ i = 1 ∨ i = 2 ∨ i = 3 := by simp at hi; omega
  rcases hi3 with rfl | rfl | rfl | rfl
  · exact ⟨v0, hA.cell 0, (h0.below hb (Nat.le_refl _)).mono hb.size⟩
  · exact ⟨v1, hA.cell 1, (h1.below hb (Nat.le_refl _)).mono hb.size⟩
  · exact ⟨v2, hA.cell 2, (h2.below hb (Nat.le_refl _)).mono hb.size⟩
  · exact ⟨v3, hA.cell 3, (h3.below hb (Nat.le_refl _)).mono hb.size⟩
theorem boxH (r : Nat) (n : Int) (d : List UInt8) (w : World) (t : TypeId) : (w.alloc (.cells (hc r n d).toArray t)).cell? ⟨w.heap.size, 0, none⟩ = some (.int .u64 r) ∧ (w.alloc (.cells (hc r n d).toArray t)).cell? ⟨w.heap.size, 1, none⟩ = some (.int .i64 n) :=
  ⟨(Arr.new' w t _ _ rfl).cell 0, (Arr.new' w t _ _ rfl).cell 1⟩
theorem run_mark2 {w : World} {g : Nat} {l : List UInt8} (h : LitAt w g l) (n c : Nat) :
    (convert 27 27 (.slice (some ⟨g, 0, none⟩) n c)).run Tryz.prog w = .ok (.slice (some ⟨g, 0, none⟩) n c) (w.freeze ⟨g, (bvs l).length, none⟩ 1) := by
  obtain ⟨fr, hg⟩ := h
  have hsh : w.shape? g = some (5, (bvs l).length) := by
    unfold World.shape?
    rw [hg]
    simp
  simp [convert, run_underlying Tryz.underlying27, run_underlying Tryz.underlying5, markStringish, hsh]
theorem stepw_mark2 {ops : Array Oper} {o : Oper} {a : Act} {w : World} {K : Act → World → Prop} {Q : Exit → Act → World → Prop} {E : Prop} {g n c : Nat} {l : List UInt8} (hw : Region.wanted o (yielded ops a.tmps) = true) (x : Operand) (ho : o.op = .convert 27 27 x) (hx : a.eval x = .slice (some ⟨g, 0, none⟩) n c) (h : LitAt w g l)
    (hK : K (a.put o.dst (.slice (some ⟨g, 0, none⟩) n c)) (w.freeze ⟨g, (bvs l).length, none⟩ 1)) : if Region.wanted o (yielded ops a.tmps) = true then Oper.wp Tryz.prog o a w K Q else E := by
  rw [if_pos hw]
  have hrun := run_mark2 h n c
  unfold Oper.wp
  simp [execOp, ho, hx, hrun, Result.andThen]
  exact hK
theorem convU (n : Nat) (h : n ≤ 65536) (w : World) : (convert 3 22 (.int .i64 (n : Nat))).run Tryz.prog w = .ok (.int .u64 n) w := by
  have e : IntKind.wrap .u64 (n : Int) = n := by
    unfold IntKind.wrap; simp [IntKind.bits, IntKind.signed]; omega
  simp [convert, run_underlying Tryz.underlying3, run_underlying Tryz.underlying22, Conv.intToInt, e]

set_option maxRecDepth 100000 in
theorem sput_no (r : Nat) (n : Int) (d : List UInt8) (hd : d.length = 32) (hc : limR ≤ r ∨ n < 0 ∨ 65536 < n) (w : World) :
    Calls Tryz.prog 7 #[hV r n d] w fun e w' => e = .returned (.tuple #[.slice none 0 0, .bool false]) ∧ Below w.heap.size w w' := by
  obtain ⟨h0, h1⟩ := boxH r n d w 30
  have HB : Hid (Below w.heap.size w (w.alloc (.cells (Go.Proofs.YtlngicddojoogaaGreatDoor.hc r n d).toArray 30))) := (Below.refl _ _).alloc (Nat.le_refl _) _
  unfold limR at hc
  by_cases a : r < 9223372036854775808
  · have a' : (r : Int) ≤ 9223372036854775807 := by omega
    by_cases b : n < 0
    · clear hc a hd
      go_enter Tryz.func7, Tryz.ntmps7
      go_wp2_with fail
      go_ret2
      exact ⟨rfl, HB.out⟩
    · have b' : 0 ≤ n := by omega
      have c' : 65536 < n := by omega
      clear hc a hd
      go_enter Tryz.func7, Tryz.ntmps7
      go_wp2_with fail
      go_ret2
      exact ⟨rfl, HB.out⟩
  · have a' : (9223372036854775807 : Int) < r := by omega
    clear hc a hd
    go_enter Tryz.func7, Tryz.ntmps7
    go_wp2_with fail
    go_ret2
    exact ⟨rfl, HB.out⟩
set_option maxRecDepth 100000 in
set_option maxHeartbeats 4000000 in
theorem sput_yes (r n : Nat) (d : List UInt8) (hr : r < limR) (hn : n ≤ limC) (hd : d.length = 32) (w : World) :
    Calls Tryz.prog 7 #[hV r (n : Nat) d] w fun e w' => ∃ v, e = .returned (.tuple #[v, .bool true]) ∧ Rd w'.heap.size w' v (payH r n d) ∧ Below w.heap.size w w' := by
  have hA := Arr.new' w 30 (hc r (n : Nat) d).toArray (hc r (n : Nat) d) rfl
  have HB : Hid (Below w.heap.size w (w.alloc (.cells (hc r (n : Nat) d).toArray 30))) := (Below.refl _ _).alloc (Nat.le_refl _) _
  have HA := Lib.hid hA
  obtain ⟨h0, h1⟩ := boxH r (n : Nat) d w 30
  have HD := Lib.hid hd
  have HRL : Hid (r < lim64) := by show _ < _; unfold limR at hr; unfold lim64; omega
  have HNL : Hid (n < lim64) := by show _ < _; unfold limC at hn; unfold lim64; omega
  have HCV : Hid (∀ w, (convert 3 22 (.int .i64 (n : Nat))).run Tryz.prog w = .ok (.int .u64 n) w) := convU n hn
  have a' : (r : Int) ≤ 9223372036854775807 := by unfold limR at hr; omega
  have b' : (0 : Int) ≤ (n : Nat) := by omega
  have b2' : ¬ ((n : Nat) : Int) < 0 := by omega
  have c' : ((n : Nat) : Int) ≤ 65536 := by unfold limC at hn; omega
  clear hA hd hr hn
  go_enter Tryz.func7, Tryz.ntmps7
  go_upto_region 3 with fail
  clear a' b' b2' c' h0 h1
  obtain ⟨w2, hw2⟩ : ∃ w2, w2 = w.alloc (.cells (hc r (n : Nat) d).toArray 30) := ⟨_, rfl⟩
  rw [← hw2] at HA HB ⊢
  clear hw2
  obtain ⟨g, hg⟩ : ∃ g, g = w.heap.size := ⟨_, rfl⟩
  rw [← hg] at HA ⊢
  clear hg
  refine wp_region_noPanic ?_
  refine wp_region_held_drew (S := fun W' => Arr W' 30 g (hc r (n : Nat) d)) (by kernel_rfl) (HA.out.later (Below.refl _ _).drew) (fun hHeld => ?_)
  try simp only [Act.put]
  have HB3 := Lib.hid (HB.out.drew)
  generalize w2.drew = w3 at hHeld HB3 ⊢
  clear HA HB
  have HB := HB3
  clear HB3
  refine wpAnyH_take (i := 2) (oi := ⟨some 19, _, _, _, _, _⟩) (v := .pointer (some ⟨g, 0, none⟩)) rfl (by kernel_rfl) (by kernel_rfl) (by kernel_rfl) (fun _ _ _ h => h) (.inl ⟨by rfl, fun w' hSw => ?_⟩) hHeld ?_
  focus (skip; clear hHeld; go_simp)
  try simp only [Act.put, List.setIfInBounds_toArray, List.set_cons_zero, List.set_cons_succ]
  refine wpAnyH_take (i := 3) (oi := ⟨some 20, _, _, _, _, _⟩) (v := .int .u64 r) rfl (by kernel_rfl) (by kernel_rfl) (by kernel_rfl) (fun _ _ _ h => h) (.inl ⟨by rfl, fun w' hSw => ?_⟩) hHeld ?_
  focus ((have q0 := hSw.cell 0; have q1 := hSw.cell 1; simp only [hc, List.getElem?_cons_zero, List.getElem?_cons_succ] at q0 q1); clear hHeld; go_simp)
  try simp only [Act.put, List.setIfInBounds_toArray, List.set_cons_zero, List.set_cons_succ]
  refine wpAnyH_take (i := 5) (oi := ⟨some 22, _, _, _, _, _⟩) (v := .pointer (some ⟨g, 1, none⟩)) rfl (by kernel_rfl) (by kernel_rfl) (by kernel_rfl) (fun _ _ _ h => h) (.inl ⟨by rfl, fun w' hSw => ?_⟩) hHeld ?_
  focus (skip; clear hHeld; go_simp)
  try simp only [Act.put, List.setIfInBounds_toArray, List.set_cons_zero, List.set_cons_succ]
  refine wpAnyH_take (i := 6) (oi := ⟨some 23, _, _, _, _, _⟩) (v := .int .i64 (n : Nat)) rfl (by kernel_rfl) (by kernel_rfl) (by kernel_rfl) (fun _ _ _ h => h) (.inl ⟨by rfl, fun w' hSw => ?_⟩) hHeld ?_
  focus ((have q0 := hSw.cell 0; have q1 := hSw.cell 1; simp only [hc, List.getElem?_cons_zero, List.getElem?_cons_succ] at q0 q1); clear hHeld; go_simp)
  try simp only [Act.put, List.setIfInBounds_toArray, List.set_cons_zero, List.set_cons_succ]
  refine wpAnyH_take (i := 7) (oi := ⟨some 24, _, _, _, _, _⟩) (v := .int .u64 n) rfl (by kernel_rfl) (by kernel_rfl) (by kernel_rfl) (fun _ _ _ h => h) (.inl ⟨by rfl, fun w' hSw => ?_⟩) hHeld ?_
  focus (have hcv := HCV.out; clear hHeld; go_simp)
  try simp only [Act.put, List.setIfInBounds_toArray, List.set_cons_zero, List.set_cons_succ]
  refine wpAnyH_take (i := 9) (oi := ⟨some 26, _, _, _, _, _⟩) (v := .pointer (some ⟨g, 2, none⟩)) rfl (by kernel_rfl) (by kernel_rfl) (by kernel_rfl) (fun _ _ _ h => h) (.inl ⟨by rfl, fun w' hSw => ?_⟩) hHeld ?_
  focus (skip; clear hHeld; go_simp)
  try simp only [Act.put, List.setIfInBounds_toArray, List.set_cons_zero, List.set_cons_succ]
  refine wpAnyH_take (i := 10) (oi := ⟨some 27, _, _, _, _, _⟩) (v := .slice (some ⟨g, 2, none⟩) 32 32) rfl (by kernel_rfl) (by kernel_rfl) (by kernel_rfl) (fun _ _ _ h => h) (.inl ⟨by rfl, fun w' hSw => ?_⟩) hHeld ?_
  focus (skip; clear hHeld; go_simp)
  try simp only [Act.put, List.setIfInBounds_toArray, List.set_cons_zero, List.set_cons_succ]
  refine wpAnyH_later 4 #[true, true, true, true, true, true, true, true, true, true, true, false, false, false, false] (fun A a' w' => ∃ (gl : Nat) (v1 v2 : Value), a' = ((((A.put (some 17) (.slice (some ⟨gl, 0, none⟩) 4 4)).put (some 18) (.slice (some ⟨gl, 0, none⟩) 4 4)).put (some 21) v1).put (some 25) v2) ∧ Arr w' 30 g (hc r (n : Nat) d) ∧ Rd w'.heap.size w' (.slice (some ⟨gl, 0, none⟩) 4 4) vst ∧ Rd w'.heap.size w' v1 (put r) ∧ Rd w'.heap.size w' v2 (put n) ∧ Below w.heap.size w w') (fun hT => ?_) (fun a' w' hF => ?_)
  · refine wpAnyH_ready (rs := [0, 4]) (by kernel_rfl) (by simp) ?_
    refine AllReadyH.cons (o := ⟨some 17, _, _, _, _, _⟩) rfl (fun K' hK' => ?_) (AllReadyH.cons (o := ⟨some 21, _, _, _, _, _⟩) rfl (fun K' hK' => ?_) AllReadyH.nil)
    · go_simp
      have hb : Below w3.heap.size w3 (w3.alloc (.cells #[.int .u8 86, .int .u8 83, .int .u8 84, .int .u8 49] 5)) := (Below.refl _ _).alloc (Nat.le_refl _) _
      have hkn := hHeld.later hb
      have L : LitAt (w3.alloc (.cells #[.int .u8 86, .int .u8 83, .int .u8 84, .int .u8 49] 5)) w3.heap.size vst := LitAt.new w3 vst #[.int .u8 86, .int .u8 83, .int .u8 84, .int .u8 49] rfl
      have xL : g < w3.heap.size ∧ w.heap.size ≤ w3.heap.size := ⟨hHeld.lt, HB.out.size⟩
      have HB' := Lib.hid (HB.out.trans (hb.mono HB.out.size))
      clear hb
      clear HB
      have HB := HB'
      clear HB'
      generalize w3.alloc (.cells #[.int .u8 86, .int .u8 83, .int .u8 84, .int .u8 49] 5) = wk0 at hkn L HB  ⊢
      obtain ⟨GL, hGL⟩ : ∃ x, x = w3.heap.size := ⟨_, rfl⟩
      rw [← hGL] at L xL ⊢
      clear hGL
      refine hK'.out _ _ hkn (fun _ => ?_)
      clear hK' K' hHeld
      have hHeld := hkn
      clear hkn
      try simp only [Act.put, List.setIfInBounds_toArray, List.set_cons_zero, List.set_cons_succ]
      refine wpAnyH_ready (rs := [1, 4]) (by kernel_rfl) (by simp) ?_
      refine AllReadyH.cons (o := ⟨some 18, _, _, _, _, _⟩) rfl (fun K' hK' => ?_) (AllReadyH.cons (o := ⟨some 21, _, _, _, _, _⟩) rfl (fun K' hK' => ?_) AllReadyH.nil)
      · refine stepw_mark2 (by rfl) (.tmp 17) rfl rfl L ?_
        have bF : Below GL wk0 (wk0.freeze ⟨GL, (bvs vst).length, none⟩ 1) := below_freeze wk0 _ 1 (Nat.le_refl _)
        have hkn := hHeld.below bF xL.1
        have HB' := Lib.hid (HB.out.trans (bF.mono xL.2))
        have PL := Lib.hid ((Rd.freeze (L.rd (n := 4) rfl (by decide)) ⟨GL, (bvs vst).length, none⟩ 1).mono (Nat.le_of_eq (size_freeze wk0 ⟨GL, (bvs vst).length, none⟩ 1).symm))
        clear bF xL L
        clear HB
        have HB := HB'
        clear HB'
        generalize wk0.freeze ⟨GL, (bvs vst).length, none⟩ 1 = wk1 at hkn PL HB  ⊢
        refine hK'.out _ _ hkn (fun _ => ?_)
        clear hK' K' hHeld
        have hHeld := hkn
        clear hkn
        try simp only [Act.put, List.setIfInBounds_toArray, List.set_cons_zero, List.set_cons_succ]
        refine wpAnyH_ready (rs := [4]) (by kernel_rfl) (by simp) ?_
        refine AllReadyH.cons (o := ⟨some 21, _, _, _, _, _⟩) rfl (fun K' hK' => ?_) AllReadyH.nil
        refine stepw_call (R := fun v' w'' => w''.ownsRow wk1.heap.size 5 1 v' (put r).length (bvs (put r)) ∧ Below wk1.heap.size wk1 w'') (by rfl) ?_ ((wput r HRL.out _).mono fun e w'' ⟨v', h1, h2, h3⟩ => ⟨v', h1, h2, h3⟩) ?_
        focus go_simp
        rintro vP1 wk2 ⟨oo, bb⟩
        have hkn := hHeld.later bb
        have P1 := Lib.hid (Rd.of_own oo)
        have HB' := Lib.hid (HB.out.trans (bb.mono HB.out.size))
        have PL' := Lib.hid (rd_now (B := 0) PL.out bb)
        clear oo bb
        clear PL
        have PL := PL'
        clear PL'
        clear HB
        have HB := HB'
        clear HB'
        refine hK'.out _ _ hkn (fun _ => ?_)
        clear hK' K' hHeld
        have hHeld := hkn
        clear hkn
        try simp only [Act.put, List.setIfInBounds_toArray, List.set_cons_zero, List.set_cons_succ]
        refine wpAnyH_ready (rs := [8]) (by kernel_rfl) (by simp) ?_
        refine AllReadyH.cons (o := ⟨some 25, _, _, _, _, _⟩) rfl (fun K' hK' => ?_) AllReadyH.nil
        refine stepw_call (R := fun v' w'' => w''.ownsRow wk2.heap.size 5 1 v' (put n).length (bvs (put n)) ∧ Below wk2.heap.size wk2 w'') (by rfl) ?_ ((wput n HNL.out _).mono fun e w'' ⟨v', h1, h2, h3⟩ => ⟨v', h1, h2, h3⟩) ?_
        focus go_simp
        rintro vP2 wk3 ⟨oo, bb⟩
        have hkn := hHeld.later bb
        have P2 := Lib.hid (Rd.of_own oo)
        have HB' := Lib.hid (HB.out.trans (bb.mono HB.out.size))
        have P1' := Lib.hid (rd_now (B := 0) P1.out bb)
        have PL' := Lib.hid (rd_now (B := 0) PL.out bb)
        clear oo bb
        clear P1
        have P1 := P1'
        clear P1'
        clear PL
        have PL := PL'
        clear PL'
        clear HB
        have HB := HB'
        clear HB'
        refine hK'.out _ _ hkn (fun _ => ?_)
        clear hK' K' hHeld
        have hHeld := hkn
        clear hkn
        try simp only [Act.put, List.setIfInBounds_toArray, List.set_cons_zero, List.set_cons_succ]
        refine wpAnyH_listed (by kernel_rfl) (hT _ _ ⟨_, _, _, rfl, hHeld, PL.out, P1.out, P2.out, HB.out⟩)
      · refine stepw_call (R := fun v' w'' => w''.ownsRow wk0.heap.size 5 1 v' (put r).length (bvs (put r)) ∧ Below wk0.heap.size wk0 w'') (by rfl) ?_ ((wput r HRL.out _).mono fun e w'' ⟨v', h1, h2, h3⟩ => ⟨v', h1, h2, h3⟩) ?_
        focus go_simp
        rintro vP1 wk1 ⟨oo, bb⟩
        have hkn := hHeld.later bb
        have P1 := Lib.hid (Rd.of_own oo)
        have HB' := Lib.hid (HB.out.trans (bb.mono HB.out.size))
        have L' := L.later bb
        clear oo bb
        clear HB
        have HB := HB'
        clear HB'
        clear L
        have L := L'
        clear L'
        refine hK'.out _ _ hkn (fun _ => ?_)
        clear hK' K' hHeld
        have hHeld := hkn
        clear hkn
        try simp only [Act.put, List.setIfInBounds_toArray, List.set_cons_zero, List.set_cons_succ]
        refine wpAnyH_ready (rs := [1, 8]) (by kernel_rfl) (by simp) ?_
        refine AllReadyH.cons (o := ⟨some 18, _, _, _, _, _⟩) rfl (fun K' hK' => ?_) (AllReadyH.cons (o := ⟨some 25, _, _, _, _, _⟩) rfl (fun K' hK' => ?_) AllReadyH.nil)
        · refine stepw_mark2 (by rfl) (.tmp 17) rfl rfl L ?_
          have bF : Below GL wk1 (wk1.freeze ⟨GL, (bvs vst).length, none⟩ 1) := below_freeze wk1 _ 1 (Nat.le_refl _)
          have hkn := hHeld.below bF xL.1
          have HB' := Lib.hid (HB.out.trans (bF.mono xL.2))
          have P1' := Lib.hid ((Rd.freeze P1.out ⟨GL, (bvs vst).length, none⟩ 1).mono (Nat.le_of_eq (size_freeze wk1 ⟨GL, (bvs vst).length, none⟩ 1).symm))
          have PL := Lib.hid ((Rd.freeze (L.rd (n := 4) rfl (by decide)) ⟨GL, (bvs vst).length, none⟩ 1).mono (Nat.le_of_eq (size_freeze wk1 ⟨GL, (bvs vst).length, none⟩ 1).symm))
          clear bF xL L
          clear P1
          have P1 := P1'
          clear P1'
          clear HB
          have HB := HB'
          clear HB'
          generalize wk1.freeze ⟨GL, (bvs vst).length, none⟩ 1 = wk2 at hkn PL HB P1 ⊢
          refine hK'.out _ _ hkn (fun _ => ?_)
          clear hK' K' hHeld
          have hHeld := hkn
          clear hkn
          try simp only [Act.put, List.setIfInBounds_toArray, List.set_cons_zero, List.set_cons_succ]
          refine wpAnyH_ready (rs := [8]) (by kernel_rfl) (by simp) ?_
          refine AllReadyH.cons (o := ⟨some 25, _, _, _, _, _⟩) rfl (fun K' hK' => ?_) AllReadyH.nil
          refine stepw_call (R := fun v' w'' => w''.ownsRow wk2.heap.size 5 1 v' (put n).length (bvs (put n)) ∧ Below wk2.heap.size wk2 w'') (by rfl) ?_ ((wput n HNL.out _).mono fun e w'' ⟨v', h1, h2, h3⟩ => ⟨v', h1, h2, h3⟩) ?_
          focus go_simp
          rintro vP2 wk3 ⟨oo, bb⟩
          have hkn := hHeld.later bb
          have P2 := Lib.hid (Rd.of_own oo)
          have HB' := Lib.hid (HB.out.trans (bb.mono HB.out.size))
          have P1' := Lib.hid (rd_now (B := 0) P1.out bb)
          have PL' := Lib.hid (rd_now (B := 0) PL.out bb)
          clear oo bb
          clear P1
          have P1 := P1'
          clear P1'
          clear PL
          have PL := PL'
          clear PL'
          clear HB
          have HB := HB'
          clear HB'
          refine hK'.out _ _ hkn (fun _ => ?_)
          clear hK' K' hHeld
          have hHeld := hkn
          clear hkn
          try simp only [Act.put, List.setIfInBounds_toArray, List.set_cons_zero, List.set_cons_succ]
          refine wpAnyH_listed (by kernel_rfl) (hT _ _ ⟨_, _, _, rfl, hHeld, PL.out, P1.out, P2.out, HB.out⟩)
        · refine stepw_call (R := fun v' w'' => w''.ownsRow wk1.heap.size 5 1 v' (put n).length (bvs (put n)) ∧ Below wk1.heap.size wk1 w'') (by rfl) ?_ ((wput n HNL.out _).mono fun e w'' ⟨v', h1, h2, h3⟩ => ⟨v', h1, h2, h3⟩) ?_
          focus go_simp
          rintro vP2 wk2 ⟨oo, bb⟩
          have hkn := hHeld.later bb
          have P2 := Lib.hid (Rd.of_own oo)
          have HB' := Lib.hid (HB.out.trans (bb.mono HB.out.size))
          have P1' := Lib.hid (rd_now (B := 0) P1.out bb)
          have L' := L.later bb
          clear oo bb
          clear P1
          have P1 := P1'
          clear P1'
          clear HB
          have HB := HB'
          clear HB'
          clear L
          have L := L'
          clear L'
          refine hK'.out _ _ hkn (fun _ => ?_)
          clear hK' K' hHeld
          have hHeld := hkn
          clear hkn
          try simp only [Act.put, List.setIfInBounds_toArray, List.set_cons_zero, List.set_cons_succ]
          refine wpAnyH_ready (rs := [1]) (by kernel_rfl) (by simp) ?_
          refine AllReadyH.cons (o := ⟨some 18, _, _, _, _, _⟩) rfl (fun K' hK' => ?_) AllReadyH.nil
          refine stepw_mark2 (by rfl) (.tmp 17) rfl rfl L ?_
          have bF : Below GL wk2 (wk2.freeze ⟨GL, (bvs vst).length, none⟩ 1) := below_freeze wk2 _ 1 (Nat.le_refl _)
          have hkn := hHeld.below bF xL.1
          have HB' := Lib.hid (HB.out.trans (bF.mono xL.2))
          have P1' := Lib.hid ((Rd.freeze P1.out ⟨GL, (bvs vst).length, none⟩ 1).mono (Nat.le_of_eq (size_freeze wk2 ⟨GL, (bvs vst).length, none⟩ 1).symm))
          have P2' := Lib.hid ((Rd.freeze P2.out ⟨GL, (bvs vst).length, none⟩ 1).mono (Nat.le_of_eq (size_freeze wk2 ⟨GL, (bvs vst).length, none⟩ 1).symm))
          have PL := Lib.hid ((Rd.freeze (L.rd (n := 4) rfl (by decide)) ⟨GL, (bvs vst).length, none⟩ 1).mono (Nat.le_of_eq (size_freeze wk2 ⟨GL, (bvs vst).length, none⟩ 1).symm))
          clear bF xL L
          clear P1
          have P1 := P1'
          clear P1'
          clear P2
          have P2 := P2'
          clear P2'
          clear HB
          have HB := HB'
          clear HB'
          generalize wk2.freeze ⟨GL, (bvs vst).length, none⟩ 1 = wk3 at hkn PL HB P1 P2 ⊢
          refine hK'.out _ _ hkn (fun _ => ?_)
          clear hK' K' hHeld
          have hHeld := hkn
          clear hkn
          try simp only [Act.put, List.setIfInBounds_toArray, List.set_cons_zero, List.set_cons_succ]
          refine wpAnyH_listed (by kernel_rfl) (hT _ _ ⟨_, _, _, rfl, hHeld, PL.out, P1.out, P2.out, HB.out⟩)
    · refine stepw_call (R := fun v' w'' => w''.ownsRow w3.heap.size 5 1 v' (put r).length (bvs (put r)) ∧ Below w3.heap.size w3 w'') (by rfl) ?_ ((wput r HRL.out _).mono fun e w'' ⟨v', h1, h2, h3⟩ => ⟨v', h1, h2, h3⟩) ?_
      focus go_simp
      rintro vP1 wk0 ⟨oo, bb⟩
      have hkn := hHeld.later bb
      have P1 := Lib.hid (Rd.of_own oo)
      have HB' := Lib.hid (HB.out.trans (bb.mono HB.out.size))
      clear oo bb
      clear HB
      have HB := HB'
      clear HB'
      refine hK'.out _ _ hkn (fun _ => ?_)
      clear hK' K' hHeld
      have hHeld := hkn
      clear hkn
      try simp only [Act.put, List.setIfInBounds_toArray, List.set_cons_zero, List.set_cons_succ]
      refine wpAnyH_ready (rs := [0, 8]) (by kernel_rfl) (by simp) ?_
      refine AllReadyH.cons (o := ⟨some 17, _, _, _, _, _⟩) rfl (fun K' hK' => ?_) (AllReadyH.cons (o := ⟨some 25, _, _, _, _, _⟩) rfl (fun K' hK' => ?_) AllReadyH.nil)
      · go_simp
        have hb : Below wk0.heap.size wk0 (wk0.alloc (.cells #[.int .u8 86, .int .u8 83, .int .u8 84, .int .u8 49] 5)) := (Below.refl _ _).alloc (Nat.le_refl _) _
        have hkn := hHeld.later hb
        have P1' := Lib.hid (rd_now (B := 0) P1.out hb)
        have L : LitAt (wk0.alloc (.cells #[.int .u8 86, .int .u8 83, .int .u8 84, .int .u8 49] 5)) wk0.heap.size vst := LitAt.new wk0 vst #[.int .u8 86, .int .u8 83, .int .u8 84, .int .u8 49] rfl
        have xL : g < wk0.heap.size ∧ w.heap.size ≤ wk0.heap.size := ⟨hHeld.lt, HB.out.size⟩
        have HB' := Lib.hid (HB.out.trans (hb.mono HB.out.size))
        clear hb
        clear P1
        have P1 := P1'
        clear P1'
        clear HB
        have HB := HB'
        clear HB'
        generalize wk0.alloc (.cells #[.int .u8 86, .int .u8 83, .int .u8 84, .int .u8 49] 5) = wk1 at hkn L HB P1 ⊢
        obtain ⟨GL, hGL⟩ : ∃ x, x = wk0.heap.size := ⟨_, rfl⟩
        rw [← hGL] at L xL ⊢
        clear hGL
        refine hK'.out _ _ hkn (fun _ => ?_)
        clear hK' K' hHeld
        have hHeld := hkn
        clear hkn
        try simp only [Act.put, List.setIfInBounds_toArray, List.set_cons_zero, List.set_cons_succ]
        refine wpAnyH_ready (rs := [1, 8]) (by kernel_rfl) (by simp) ?_
        refine AllReadyH.cons (o := ⟨some 18, _, _, _, _, _⟩) rfl (fun K' hK' => ?_) (AllReadyH.cons (o := ⟨some 25, _, _, _, _, _⟩) rfl (fun K' hK' => ?_) AllReadyH.nil)
        · refine stepw_mark2 (by rfl) (.tmp 17) rfl rfl L ?_
          have bF : Below GL wk1 (wk1.freeze ⟨GL, (bvs vst).length, none⟩ 1) := below_freeze wk1 _ 1 (Nat.le_refl _)
          have hkn := hHeld.below bF xL.1
          have HB' := Lib.hid (HB.out.trans (bF.mono xL.2))
          have P1' := Lib.hid ((Rd.freeze P1.out ⟨GL, (bvs vst).length, none⟩ 1).mono (Nat.le_of_eq (size_freeze wk1 ⟨GL, (bvs vst).length, none⟩ 1).symm))
          have PL := Lib.hid ((Rd.freeze (L.rd (n := 4) rfl (by decide)) ⟨GL, (bvs vst).length, none⟩ 1).mono (Nat.le_of_eq (size_freeze wk1 ⟨GL, (bvs vst).length, none⟩ 1).symm))
          clear bF xL L
          clear P1
          have P1 := P1'
          clear P1'
          clear HB
          have HB := HB'
          clear HB'
          generalize wk1.freeze ⟨GL, (bvs vst).length, none⟩ 1 = wk2 at hkn PL HB P1 ⊢
          refine hK'.out _ _ hkn (fun _ => ?_)
          clear hK' K' hHeld
          have hHeld := hkn
          clear hkn
          try simp only [Act.put, List.setIfInBounds_toArray, List.set_cons_zero, List.set_cons_succ]
          refine wpAnyH_ready (rs := [8]) (by kernel_rfl) (by simp) ?_
          refine AllReadyH.cons (o := ⟨some 25, _, _, _, _, _⟩) rfl (fun K' hK' => ?_) AllReadyH.nil
          refine stepw_call (R := fun v' w'' => w''.ownsRow wk2.heap.size 5 1 v' (put n).length (bvs (put n)) ∧ Below wk2.heap.size wk2 w'') (by rfl) ?_ ((wput n HNL.out _).mono fun e w'' ⟨v', h1, h2, h3⟩ => ⟨v', h1, h2, h3⟩) ?_
          focus go_simp
          rintro vP2 wk3 ⟨oo, bb⟩
          have hkn := hHeld.later bb
          have P2 := Lib.hid (Rd.of_own oo)
          have HB' := Lib.hid (HB.out.trans (bb.mono HB.out.size))
          have P1' := Lib.hid (rd_now (B := 0) P1.out bb)
          have PL' := Lib.hid (rd_now (B := 0) PL.out bb)
          clear oo bb
          clear P1
          have P1 := P1'
          clear P1'
          clear PL
          have PL := PL'
          clear PL'
          clear HB
          have HB := HB'
          clear HB'
          refine hK'.out _ _ hkn (fun _ => ?_)
          clear hK' K' hHeld
          have hHeld := hkn
          clear hkn
          try simp only [Act.put, List.setIfInBounds_toArray, List.set_cons_zero, List.set_cons_succ]
          refine wpAnyH_listed (by kernel_rfl) (hT _ _ ⟨_, _, _, rfl, hHeld, PL.out, P1.out, P2.out, HB.out⟩)
        · refine stepw_call (R := fun v' w'' => w''.ownsRow wk1.heap.size 5 1 v' (put n).length (bvs (put n)) ∧ Below wk1.heap.size wk1 w'') (by rfl) ?_ ((wput n HNL.out _).mono fun e w'' ⟨v', h1, h2, h3⟩ => ⟨v', h1, h2, h3⟩) ?_
          focus go_simp
          rintro vP2 wk2 ⟨oo, bb⟩
          have hkn := hHeld.later bb
          have P2 := Lib.hid (Rd.of_own oo)
          have HB' := Lib.hid (HB.out.trans (bb.mono HB.out.size))
          have P1' := Lib.hid (rd_now (B := 0) P1.out bb)
          have L' := L.later bb
          clear oo bb
          clear P1
          have P1 := P1'
          clear P1'
          clear HB
          have HB := HB'
          clear HB'
          clear L
          have L := L'
          clear L'
          refine hK'.out _ _ hkn (fun _ => ?_)
          clear hK' K' hHeld
          have hHeld := hkn
          clear hkn
          try simp only [Act.put, List.setIfInBounds_toArray, List.set_cons_zero, List.set_cons_succ]
          refine wpAnyH_ready (rs := [1]) (by kernel_rfl) (by simp) ?_
          refine AllReadyH.cons (o := ⟨some 18, _, _, _, _, _⟩) rfl (fun K' hK' => ?_) AllReadyH.nil
          refine stepw_mark2 (by rfl) (.tmp 17) rfl rfl L ?_
          have bF : Below GL wk2 (wk2.freeze ⟨GL, (bvs vst).length, none⟩ 1) := below_freeze wk2 _ 1 (Nat.le_refl _)
          have hkn := hHeld.below bF xL.1
          have HB' := Lib.hid (HB.out.trans (bF.mono xL.2))
          have P1' := Lib.hid ((Rd.freeze P1.out ⟨GL, (bvs vst).length, none⟩ 1).mono (Nat.le_of_eq (size_freeze wk2 ⟨GL, (bvs vst).length, none⟩ 1).symm))
          have P2' := Lib.hid ((Rd.freeze P2.out ⟨GL, (bvs vst).length, none⟩ 1).mono (Nat.le_of_eq (size_freeze wk2 ⟨GL, (bvs vst).length, none⟩ 1).symm))
          have PL := Lib.hid ((Rd.freeze (L.rd (n := 4) rfl (by decide)) ⟨GL, (bvs vst).length, none⟩ 1).mono (Nat.le_of_eq (size_freeze wk2 ⟨GL, (bvs vst).length, none⟩ 1).symm))
          clear bF xL L
          clear P1
          have P1 := P1'
          clear P1'
          clear P2
          have P2 := P2'
          clear P2'
          clear HB
          have HB := HB'
          clear HB'
          generalize wk2.freeze ⟨GL, (bvs vst).length, none⟩ 1 = wk3 at hkn PL HB P1 P2 ⊢
          refine hK'.out _ _ hkn (fun _ => ?_)
          clear hK' K' hHeld
          have hHeld := hkn
          clear hkn
          try simp only [Act.put, List.setIfInBounds_toArray, List.set_cons_zero, List.set_cons_succ]
          refine wpAnyH_listed (by kernel_rfl) (hT _ _ ⟨_, _, _, rfl, hHeld, PL.out, P1.out, P2.out, HB.out⟩)
      · refine stepw_call (R := fun v' w'' => w''.ownsRow wk0.heap.size 5 1 v' (put n).length (bvs (put n)) ∧ Below wk0.heap.size wk0 w'') (by rfl) ?_ ((wput n HNL.out _).mono fun e w'' ⟨v', h1, h2, h3⟩ => ⟨v', h1, h2, h3⟩) ?_
        focus go_simp
        rintro vP2 wk1 ⟨oo, bb⟩
        have hkn := hHeld.later bb
        have P2 := Lib.hid (Rd.of_own oo)
        have HB' := Lib.hid (HB.out.trans (bb.mono HB.out.size))
        have P1' := Lib.hid (rd_now (B := 0) P1.out bb)
        clear oo bb
        clear P1
        have P1 := P1'
        clear P1'
        clear HB
        have HB := HB'
        clear HB'
        refine hK'.out _ _ hkn (fun _ => ?_)
        clear hK' K' hHeld
        have hHeld := hkn
        clear hkn
        try simp only [Act.put, List.setIfInBounds_toArray, List.set_cons_zero, List.set_cons_succ]
        refine wpAnyH_ready (rs := [0]) (by kernel_rfl) (by simp) ?_
        refine AllReadyH.cons (o := ⟨some 17, _, _, _, _, _⟩) rfl (fun K' hK' => ?_) AllReadyH.nil
        go_simp
        have hb : Below wk1.heap.size wk1 (wk1.alloc (.cells #[.int .u8 86, .int .u8 83, .int .u8 84, .int .u8 49] 5)) := (Below.refl _ _).alloc (Nat.le_refl _) _
        have hkn := hHeld.later hb
        have P1' := Lib.hid (rd_now (B := 0) P1.out hb)
        have P2' := Lib.hid (rd_now (B := 0) P2.out hb)
        have L : LitAt (wk1.alloc (.cells #[.int .u8 86, .int .u8 83, .int .u8 84, .int .u8 49] 5)) wk1.heap.size vst := LitAt.new wk1 vst #[.int .u8 86, .int .u8 83, .int .u8 84, .int .u8 49] rfl
        have xL : g < wk1.heap.size ∧ w.heap.size ≤ wk1.heap.size := ⟨hHeld.lt, HB.out.size⟩
        have HB' := Lib.hid (HB.out.trans (hb.mono HB.out.size))
        clear hb
        clear P1
        have P1 := P1'
        clear P1'
        clear P2
        have P2 := P2'
        clear P2'
        clear HB
        have HB := HB'
        clear HB'
        generalize wk1.alloc (.cells #[.int .u8 86, .int .u8 83, .int .u8 84, .int .u8 49] 5) = wk2 at hkn L HB P1 P2 ⊢
        obtain ⟨GL, hGL⟩ : ∃ x, x = wk1.heap.size := ⟨_, rfl⟩
        rw [← hGL] at L xL ⊢
        clear hGL
        refine hK'.out _ _ hkn (fun _ => ?_)
        clear hK' K' hHeld
        have hHeld := hkn
        clear hkn
        try simp only [Act.put, List.setIfInBounds_toArray, List.set_cons_zero, List.set_cons_succ]
        refine wpAnyH_ready (rs := [1]) (by kernel_rfl) (by simp) ?_
        refine AllReadyH.cons (o := ⟨some 18, _, _, _, _, _⟩) rfl (fun K' hK' => ?_) AllReadyH.nil
        refine stepw_mark2 (by rfl) (.tmp 17) rfl rfl L ?_
        have bF : Below GL wk2 (wk2.freeze ⟨GL, (bvs vst).length, none⟩ 1) := below_freeze wk2 _ 1 (Nat.le_refl _)
        have hkn := hHeld.below bF xL.1
        have HB' := Lib.hid (HB.out.trans (bF.mono xL.2))
        have P1' := Lib.hid ((Rd.freeze P1.out ⟨GL, (bvs vst).length, none⟩ 1).mono (Nat.le_of_eq (size_freeze wk2 ⟨GL, (bvs vst).length, none⟩ 1).symm))
        have P2' := Lib.hid ((Rd.freeze P2.out ⟨GL, (bvs vst).length, none⟩ 1).mono (Nat.le_of_eq (size_freeze wk2 ⟨GL, (bvs vst).length, none⟩ 1).symm))
        have PL := Lib.hid ((Rd.freeze (L.rd (n := 4) rfl (by decide)) ⟨GL, (bvs vst).length, none⟩ 1).mono (Nat.le_of_eq (size_freeze wk2 ⟨GL, (bvs vst).length, none⟩ 1).symm))
        clear bF xL L
        clear P1
        have P1 := P1'
        clear P1'
        clear P2
        have P2 := P2'
        clear P2'
        clear HB
        have HB := HB'
        clear HB'
        generalize wk2.freeze ⟨GL, (bvs vst).length, none⟩ 1 = wk3 at hkn PL HB P1 P2 ⊢
        refine hK'.out _ _ hkn (fun _ => ?_)
        clear hK' K' hHeld
        have hHeld := hkn
        clear hkn
        try simp only [Act.put, List.setIfInBounds_toArray, List.set_cons_zero, List.set_cons_succ]
        refine wpAnyH_listed (by kernel_rfl) (hT _ _ ⟨_, _, _, rfl, hHeld, PL.out, P1.out, P2.out, HB.out⟩)
  · obtain ⟨gl, v1, v2, rfl, hHeld, pl, p1, p2, pb⟩ := hF
    have HB := Lib.hid pb
    have HRA := Lib.hid (rd_four (t := 27) pl p1 p2 (rdH hHeld HD.out))
    obtain ⟨q1, c1, rfl⟩ := rd_form p1
    obtain ⟨q2, c2, rfl⟩ := rd_form p2
    clear pl p1 p2 pb
    try simp only [Act.put, List.setIfInBounds_toArray, List.set_cons_zero, List.set_cons_succ]
    refine wpAnyH_ready (rs := [11]) (by kernel_rfl) (by simp) ?_
    refine AllReadyH.cons (o := ⟨some 28, _, _, _, _, _⟩) rfl (fun K' hK' => ?_) AllReadyH.nil
    go_simp
    have hb0 : Below w'.heap.size w' (w'.alloc (.cells #[.slice (some ⟨gl, 0, none⟩) 4 4, .slice q1 (put r).length c1, .slice q2 (put n).length c2, .slice (some ⟨g, 2, none⟩) 32 32] 27)) := (Below.refl _ _).alloc (Nat.le_refl _) _
    have hkn := hHeld.later hb0
    refine hK'.out _ _ hkn (fun _ => ?_)
    clear hK' K' hHeld
    have hHeld := hkn
    clear hkn
    have HB6 := Lib.hid (HB.out.trans (hb0.mono HB.out.size))
    generalize w'.heap.size = n15 at HRA ⊢
    generalize w'.alloc (.cells #[.slice (some ⟨gl, 0, none⟩) 4 4, .slice q1 (put r).length c1, .slice q2 (put n).length c2, .slice (some ⟨g, 2, none⟩) 32 32] 27) = w6 at hHeld HRA HB6 ⊢
    clear hb0 HB
    try simp only [List.setIfInBounds_toArray, List.set_cons_zero, List.set_cons_succ]
    refine wpAnyH_ready (rs := [12]) (by kernel_rfl) (by simp) ?_
    refine AllReadyH.cons (o := ⟨some 29, _, _, _, _, _⟩) rfl (fun K' hK' => ?_) AllReadyH.nil
    refine stepw_call (R := fun v' w'' => w''.ownsRow w6.heap.size 5 1 v' (payH r n d).length (bvs (payH r n d)) ∧ Below w6.heap.size w6 w'') (by rfl) ?_ ((join_any (cap := 4) HRA.out (Nat.le_refl _) (by simp) (by have h1 := put_len10 (x := r) HRL.out; have h2 := put_len10 (x := n) HNL.out; have := HD.out; simp [total, vst]; omega)).mono fun e w'' ⟨v', h1, h2, h3⟩ => ⟨v', h1, by simpa [payH] using h2, h3⟩) ?_
    focus go_simp
    rintro v16 w7 ⟨o16, b16⟩
    have hkn := hHeld.later b16
    refine hK'.out _ _ hkn (fun _ => ?_)
    clear hK' K' hHeld
    have hHeld := hkn
    clear hkn
    have HV16 := Lib.hid (Rd.of_own o16)
    have HB7 := Lib.hid (HB6.out.trans (b16.mono HB6.out.size))
    clear o16 b16 HB6 HRA
    try simp only [Act.put, List.setIfInBounds_toArray, List.set_cons_zero, List.set_cons_succ]
    refine wpAnyH_take (i := 13) (oi := ⟨some 2, _, _, _, _, _⟩) (v := v16) rfl (by kernel_rfl) (by kernel_rfl) (by kernel_rfl) (fun _ _ _ h => h) (.inl ⟨by rfl, fun w' hSw => ?_⟩) hHeld ?_
    focus (skip; clear hHeld; go_simp)
    try simp only [Act.put, List.setIfInBounds_toArray, List.set_cons_zero, List.set_cons_succ]
    refine wpAnyH_take (i := 14) (oi := ⟨some 3, _, _, _, _, _⟩) (v := .bool true) rfl (by kernel_rfl) (by kernel_rfl) (by kernel_rfl) (fun _ _ _ h => h) (.inl ⟨by rfl, fun w' hSw => ?_⟩) hHeld ?_
    focus (skip; clear hHeld; go_simp)
    try simp only [Act.put, List.setIfInBounds_toArray, List.set_cons_zero, List.set_cons_succ]
    refine wpAnyH_done (by kernel_rfl) ?_ _
    refine NoPanic.normal ?_
    obtain ⟨q16, c16, rfl⟩ := rd_form HV16.out
    clear hHeld
    go_wp2_with fail
    go_ret2
    exact ⟨_, rfl, HV16.out, HB7.out⟩
end Go.Proofs.YtlngicddojoogaaGreatDoor
/-
  vestryref25: Right, PutHeader.
-/
namespace Go.Proofs.YtlngicddojoogaaGreatDoor
open Go.ChangeShapes Go.WideShapes Go.ChangeAt Go.RowKit
open errAs (ErrT)
set_option linter.unusedVariables false

def rightH (r : Nat) (n : Int) : Bool := decide (r < limR) && (decide (0 ≤ n) && decide (n ≤ 65536))
set_option maxRecDepth 100000 in
theorem rsright_any (r : Nat) (n : Int) (d : List UInt8) (w : World) :
    Calls Tryz.prog 8 #[hV r n d] w fun e w' => e = .returned (.bool (rightH r n)) ∧ Below w.heap.size w w' := by
  obtain ⟨h0, h1⟩ := boxH r n d w 25
  have HB : Hid (Below w.heap.size w (w.alloc (.cells (Go.Proofs.YtlngicddojoogaaGreatDoor.hc r n d).toArray 25))) := (Below.refl _ _).alloc (Nat.le_refl _) _
  by_cases a : r < 9223372036854775808
  · have a' : (r : Int) < 9223372036854775808 := by omega
    by_cases b : 0 ≤ n
    · by_cases c : n ≤ 65536
      · have HR : Hid (rightH r n = true) := by show _ = _; unfold rightH limR; rw [decide_eq_true a, decide_eq_true b, decide_eq_true c]; rfl
        clear a
        go_enter Tryz.func8, Tryz.ntmps8
        go_wp2_with fail
        go_ret
        exact ⟨by rw [HR.out]; rfl, HB.out⟩
      · have HR : Hid (rightH r n = false) := by show _ = _; unfold rightH limR; rw [decide_eq_true a, decide_eq_true b, decide_eq_false c]; rfl
        have c' : 65536 < n := by omega
        clear a
        go_enter Tryz.func8, Tryz.ntmps8
        go_wp2_with fail
        go_ret
        exact ⟨by rw [HR.out]; rfl, HB.out⟩
    · have HR : Hid (rightH r n = false) := by show _ = _; unfold rightH limR; rw [decide_eq_true a, decide_eq_false b]; rfl
      have b' : n < 0 := by omega
      clear a
      go_enter Tryz.func8, Tryz.ntmps8
      go_wp2_with fail
      go_ret
      exact ⟨by rw [HR.out]; rfl, HB.out⟩
  · have HR : Hid (rightH r n = false) := by show _ = _; unfold rightH limR; rw [decide_eq_false a]; rfl
    have a' : decide ((r : Int) < 9223372036854775808) = false := decide_eq_false (by omega)
    clear a
    go_enter Tryz.func8, Tryz.ntmps8
    go_wp2_with fail
    go_ret
    exact ⟨by rw [HR.out]; rfl, HB.out⟩
/-- A marked literal may be appended to: its mark lies behind its cells. -/
theorem held_marked (w : World) (base : Nat) (hb : base ≤ w.heap.size) (l : List UInt8) (cs : Array Value) (n : Nat) (hn : l.length = n) (hcs : cs.toList = bvs l) (hm : n ≤ maxLen) :
    Held base (w.alloc (.cells cs 5 (n, n + 1))) (.slice (some ⟨w.heap.size, 0, none⟩) n n) l := by
  subst hn
  have hs : cs.size = l.length := by rw [← Array.length_toList, hcs, bvs_length]
  have hrow := heap_alloc_new w (.cells cs 5 (l.length, l.length + 1))
  refine .inr ⟨w.heap.size, 0, l.length, rfl, Nat.le_refl _, hm, hb, by simp, fun i hi => ?_, fun i hi => ?_⟩
  · rw [Nat.zero_add, cell_of_row _ w.heap.size i _ _ _ hrow, ← Array.getElem?_toList, hcs]
    exact bvs_getElem l i hi
  · refine ⟨by rw [Nat.zero_add, cell_of_row _ w.heap.size i _ _ _ hrow, Array.getElem?_eq_getElem (by omega)]; rfl, ?_⟩
    unfold World.frozen?
    simp only [hrow]
    rw [Bool.and_eq_false_iff]
    left
    rw [decide_eq_false_iff_not]
    omega
set_option maxRecDepth 100000 in
set_option maxHeartbeats 1000000 in
theorem rsput_any (r n : Nat) (d : List UInt8) (hr : r < limR) (hn : n ≤ limC) (hd : d.length = 32) (w : World) :
    Calls Tryz.prog 11 #[hV r (n : Nat) d] w fun e w' => ∃ v, e = .returned v ∧ Rd w'.heap.size w' v (payH r n d) ∧ Below w.heap.size w w' := by
  have HA : Hid (Arr (w.alloc (.cells (hc r (n : Nat) d).toArray 25)) 25 w.heap.size (hc r (n : Nat) d)) := Arr.new' w _ _ _ rfl
  have HB : Hid (Below w.heap.size w (w.alloc (.cells (hc r (n : Nat) d).toArray 25))) := (Below.refl _ _).alloc (Nat.le_refl _) _
  have HS : Hid (w.heap.size + 1 ≤ (w.alloc (.cells (hc r (n : Nat) d).toArray 25)).heap.size) := by show _ ≤ _; simp
  have HD := Lib.hid hd
  have HRL : Hid (r < lim64) := by show _ < _; unfold limR at hr; unfold lim64; omega
  have HNL : Hid (n < lim64) := by show _ < _; unfold limC at hn; unfold lim64; omega
  have HCV : Hid (∀ w, (convert 3 22 (.int .i64 (n : Nat))).run Tryz.prog w = .ok (.int .u64 n) w) := convU n hn
  have hsz : (w.alloc (.cells (hc r (n : Nat) d).toArray 25)).heap.size = w.heap.size + 1 := by simp
  have hcl := Joins.run_convert_bytes_const_at (P := Tryz.prog) (w.alloc (.cells (hc r (n : Nat) d).toArray 25)) 27 5 #[.int .u8 86, .int .u8 83, .int .u8 84, .int .u8 49] 4 4 (w.heap.size + 1) hsz.symm Tryz.underlying27 Tryz.underlying5
  have HM := Lib.hid (held_marked (w.alloc (.cells (hc r (n : Nat) d).toArray 25)) (w.heap.size + 1) HS.out vst #[.int .u8 86, .int .u8 83, .int .u8 84, .int .u8 49] 4 rfl rfl (by decide))
  rw [hsz] at HM
  have hb2 : Below (w.alloc (.cells (hc r (n : Nat) d).toArray 25)).heap.size (w.alloc (.cells (hc r (n : Nat) d).toArray 25)) ((w.alloc (.cells (hc r (n : Nat) d).toArray 25)).alloc (.cells #[.int .u8 86, .int .u8 83, .int .u8 84, .int .u8 49] 5 (4, 5))) := (Below.refl _ _).alloc (Nat.le_refl _) _
  have HA1 := Lib.hid (HA.out.later hb2)
  have HB1 := Lib.hid (HB.out.trans (hb2.mono HB.out.size))
  have q0 := (HA1.out.cell 0).trans (hc0 _ _ _)
  have q1 := (HA1.out.cell 1).trans (hc1 _ _ _)
  clear hd hr hn hb2 HA HB HS hsz
  go_enter Tryz.func11, Tryz.ntmps11
  go_wp2_with fail
  refine (rput r HRL.out _).mono ?_
  rintro e w2 ⟨v2, rfl, o2, b2⟩
  have HA2 := Lib.hid (HA1.out.later b2)
  have HB2 := Lib.hid (HB1.out.trans (b2.mono HB1.out.size))
  have HH2 := Lib.hid (HM.out.later b2)
  have HP2 := Lib.hid (Rd.of_own o2)
  obtain ⟨qa, ca, rfl⟩ := rd_form HP2.out
  have HG2 : Hid (w.heap.size + 1 ≤ w2.heap.size) := HA2.out.lt
  have HL2 : Hid (vst.length + (put r).length ≤ 140737488355328) := by have := put_len10 (x := r) HRL.out; show _ ≤ _; simp [vst]; omega
  clear o2 b2 HA1 HB1 HM q0 q1 hcl
  go_wp2_with (at_builtin; refine app_held rfl (.tmp 5) (.tmp 8) rfl rfl HH2.out rfl HP2.out HL2.out HG2.out ?_)
  intro v3 w3 h3 b3
  have HA3 := Lib.hid (HA2.out.below b3 (by omega))
  have HB3 := Lib.hid (HB2.out.trans (b3.mono (by omega)))
  have HG3 := Lib.hid (Nat.le_trans HG2.out b3.size)
  obtain ⟨l3, hl3⟩ : ∃ l3, l3 = vst ++ put r := ⟨_, rfl⟩
  rw [← hl3] at h3
  have HL3 : Hid (l3.length ≤ 14) := by have := put_len10 (x := r) HRL.out; show _ ≤ _; rw [hl3, List.length_append]; simp [vst]; omega
  have HI3 := Lib.hid hl3
  have HH3 := Lib.hid h3
  have q0 := (HA3.out.cell 0).trans (hc0 _ _ _)
  have q1 := (HA3.out.cell 1).trans (hc1 _ _ _)
  have hcv := HCV.out
  clear b3 h3 hl3 HA2 HB2 HH2 HP2 HG2 HL2
  go_wp2_with fail
  refine (rput n HNL.out _).mono ?_
  rintro e w4 ⟨v4, rfl, o4, b4⟩
  have HA4 := Lib.hid (HA3.out.later b4)
  have HB4 := Lib.hid (HB3.out.trans (b4.mono HB3.out.size))
  have HH4 := Lib.hid (HH3.out.later b4)
  have HP4 := Lib.hid (Rd.of_own o4)
  obtain ⟨qb, cb, rfl⟩ := rd_form HP4.out
  have HG4 := Lib.hid (Nat.le_trans HG3.out b4.size)
  have HL4 : Hid (l3.length + (put n).length ≤ 140737488355328) := by have := put_len10 (x := n) HNL.out; have := HL3.out; show _ ≤ _; omega
  clear o4 b4 HA3 HB3 HH3 HG3 q0 q1 hcv
  go_wp2_with (at_builtin; refine app_held rfl (.tmp 10) (.tmp 14) rfl rfl HH4.out rfl HP4.out HL4.out HG4.out ?_)
  intro v5 w5 h5 b5
  have HA5 := Lib.hid (HA4.out.below b5 (by omega))
  have HB5 := Lib.hid (HB4.out.trans (b5.mono (by omega)))
  have HG5 := Lib.hid (Nat.le_trans HG4.out b5.size)
  have HR5 : Hid (Rd w5.heap.size w5 (.slice (some ⟨w.heap.size, 2, none⟩) 32 32) d) := rdH HA5.out HD.out
  have HL5 : Hid ((l3 ++ put n).length + d.length ≤ 140737488355328) := by have := put_len10 (x := n) HNL.out; have := HL3.out; have := HD.out; show _ ≤ _; rw [List.length_append]; omega
  have HH5 := Lib.hid h5
  clear b5 h5 HA4 HB4 HH4 HG4 HL4 HP4
  go_wp2_with (at_builtin; refine app_held rfl (.tmp 16) (.tmp 18) rfl rfl HH5.out rfl HR5.out HL5.out HG5.out ?_)
  intro v6 w6 h6 b6
  have HB6 := Lib.hid (HB5.out.trans (b6.mono (by omega)))
  have HR6 : Hid (Rd w6.heap.size w6 v6 (payH r n d)) := by
    have := h6.rd
    rw [HI3.out] at this
    show Rd _ _ _ _
    simpa [payH, List.append_assoc] using this
  clear b6 h6 HA5 HB5 HH5 HG5 HL5 HR5
  obtain ⟨qd, cd, rfl⟩ := rd_form HR6.out
  go_wp2_with fail
  go_ret
  exact ⟨_, rfl, HR6.out, HB6.out⟩
end Go.Proofs.YtlngicddojoogaaGreatDoor
/-
  stream.Footer.
-/
namespace Go.Proofs.YtlngicddojoogaaGreatDoor
open Go.ChangeShapes Go.WideShapes Go.ChangeAt Go.RowKit
open errAs (ErrT)
set_option linter.unusedVariables false

def vend : List UInt8 := [86, 69, 78, 68]
def footL (ls : List (List UInt8)) : List UInt8 := vend ++ (put ls.length ++ digest ls.flatten)
theorem convN (n : Nat) (h : n ≤ 140737488355328) (w : World) : (convert 3 22 (.int .i64 (n : Nat))).run Tryz.prog w = .ok (.int .u64 n) w := by
  have e : IntKind.wrap .u64 (n : Int) = n := by
    unfold IntKind.wrap; simp [IntKind.bits, IntKind.signed]; omega
  simp [convert, run_underlying Tryz.underlying3, run_underlying Tryz.underlying22, Conv.intToInt, e]
theorem rd_bvs {w : World} {t : TypeId} {g : Nat} {d : List UInt8} (h : Arr w t g (bvs d)) (hd : d.length = 32) : Rd w.heap.size w (.slice (some ⟨g, 0, none⟩) 32 32) d := by
  refine .inr ⟨g, 0, 32, by rw [hd], by omega, by unfold maxLen; omega, h.lt, fun i hi => ?_⟩
  rw [Nat.zero_add, h.cell i]
  exact bvs_getElem d i hi
theorem rd_three {w : World} {t : TypeId} {v0 v1 v2 : Value} {l0 l1 l2 : List UInt8} (h0 : Rd w.heap.size w v0 l0) (h1 : Rd w.heap.size w v1 l1) (h2 : Rd w.heap.size w v2 l2) :
    RdAll (w.alloc (.cells #[v0, v1, v2] t)).heap.size (w.alloc (.cells #[v0, v1, v2] t)) (some ⟨w.heap.size, 0, none⟩) [l0, l1, l2] := by
  intro _
  have hb : Below w.heap.size w (w.alloc (.cells #[v0, v1, v2] t)) := (Below.refl _ _).alloc (Nat.le_refl _) _
  refine ⟨w.heap.size, 0, rfl, by simp, fun i hi => ?_⟩
  have hA := Arr.new' w t #[v0, v1, v2] [v0, v1, v2] rfl
  have hi3 : i = 0 ∨ i = 1 ∨ i = 2 := by simp at hi; omega
  rcases hi3 with rfl | rfl | rfl
  · exact ⟨v0, hA.cell 0, (h0.below hb (Nat.le_refl _)).mono hb.size⟩
  · exact ⟨v1, hA.cell 1, (h1.below hb (Nat.le_refl _)).mono hb.size⟩
  · exact ⟨v2, hA.cell 2, (h2.below hb (Nat.le_refl _)).mono hb.size⟩
set_option maxRecDepth 100000 in
set_option maxHeartbeats 4000000 in
theorem sfoot_any {B : Nat} {w : World} {oa : Option Addr} {cap : Nat} {ls : List (List UInt8)} (hr : RdAll B w oa ls) (hB : B ≤ w.heap.size) (hn : ls.length ≤ 1000000) (ht : total ls ≤ 100000000000000) (hE : Env w) :
    Calls Tryz.prog 15 #[.slice oa ls.length cap] w fun e w' => ∃ v, e = .returned v ∧ Rd w'.heap.size w' v (footL ls) ∧ Below w.heap.size w w' := by
  have HSUM := Lib.hid (sum_any (cap := cap) hr hB (by omega) ht hE)
  have HN : Hid (ls.length ≤ 1000000) := hn
  have HNL : Hid (ls.length < lim64) := by show _ < _; unfold lim64; omega
  have HCV : Hid (∀ w, (convert 3 22 (.int .i64 (ls.length : Nat))).run Tryz.prog w = .ok (.int .u64 ls.length) w) := convN ls.length (by omega)
  obtain ⟨D, hD⟩ : ∃ D, D = digest ls.flatten := ⟨_, rfl⟩
  have HDL : Hid (D.length = 32) := by rw [hD]; exact joinS_length _
  have HF : Hid (footL ls = vend ++ (put ls.length ++ D)) := by show _ = _; rw [hD]; rfl
  rw [← hD] at HSUM
  obtain ⟨n, hnn⟩ : ∃ n, n = ls.length := ⟨_, rfl⟩
  rw [← hnn] at HSUM HN HNL HCV HF ⊢
  clear hD hr hn ht hE hnn
  go_enter Tryz.func15, Tryz.ntmps15
  go_wp2_with fail
  refine HSUM.out.mono ?_
  rintro e w1 ⟨rfl, b1⟩
  have hb2 : Below w1.heap.size w1 (w1.alloc (.cells (bvs D).toArray 23)) := (Below.refl _ _).alloc (Nat.le_refl _) _
  have HB := Lib.hid (b1.trans (hb2.mono b1.size))
  have HA := Lib.hid (Arr.new' w1 23 (bvs D).toArray (bvs D) (by simp))
  clear b1 hb2 HSUM
  go_upto_region 2 with ((with_reducible refine at32b w1.heap.size (x := .tmp 3) (y := .tmp 5) (l := D) (o := ⟨none, .store _ _ _, _, _, _, _⟩) HDL.out ?_ ?_); exact ⟨rfl, rfl, rfl, rfl, rfl, rfl⟩)
  obtain ⟨w2, hw2⟩ : ∃ w2, w2 = w1.alloc (.cells (bvs D).toArray 23) := ⟨_, rfl⟩
  rw [← hw2] at HA HB ⊢
  clear hw2
  obtain ⟨g, hg⟩ : ∃ g, g = w1.heap.size := ⟨_, rfl⟩
  rw [← hg] at HA ⊢
  clear hg
  refine wp_region_noPanic ?_
  refine wp_region_held_drew (S := fun W' => Arr W' 23 g (bvs D)) (by kernel_rfl) (HA.out.later (Below.refl _ _).drew) (fun hHeld => ?_)
  try simp only [Act.put]
  have HB3 := Lib.hid (HB.out.drew)
  generalize w2.drew = w3 at hHeld HB3 ⊢
  clear HA HB
  have HB := HB3
  clear HB3
  refine wpAnyH_take (i := 2) (oi := ⟨some 8, _, _, _, _, _⟩) (v := .slice oa n cap) rfl (by kernel_rfl) (by kernel_rfl) (by kernel_rfl) (fun _ _ _ h => h) (.inl ⟨by rfl, fun w' hSw => ?_⟩) hHeld ?_
  focus (skip; clear hHeld; go_simp)
  try simp only [Act.put, List.setIfInBounds_toArray, List.set_cons_zero, List.set_cons_succ]
  refine wpAnyH_take (i := 3) (oi := ⟨some 9, _, _, _, _, _⟩) (v := .int .i64 (n : Nat)) rfl (by kernel_rfl) (by kernel_rfl) (by kernel_rfl) (fun _ _ _ h => h) (.inl ⟨by rfl, fun w' hSw => ?_⟩) hHeld ?_
  focus (skip; clear hHeld; go_simp)
  try simp only [Act.put, List.setIfInBounds_toArray, List.set_cons_zero, List.set_cons_succ]
  refine wpAnyH_take (i := 4) (oi := ⟨some 10, _, _, _, _, _⟩) (v := .int .u64 n) rfl (by kernel_rfl) (by kernel_rfl) (by kernel_rfl) (fun _ _ _ h => h) (.inl ⟨by rfl, fun w' hSw => ?_⟩) hHeld ?_
  focus (have hcv := HCV.out; clear hHeld; go_simp)
  try simp only [Act.put, List.setIfInBounds_toArray, List.set_cons_zero, List.set_cons_succ]
  refine wpAnyH_take (i := 6) (oi := ⟨some 12, _, _, _, _, _⟩) (v := .slice (some ⟨g, 0, none⟩) 32 32) rfl (by kernel_rfl) (by kernel_rfl) (by kernel_rfl) (fun _ _ _ h => h) (.inl ⟨by rfl, fun w' hSw => ?_⟩) hHeld ?_
  focus (skip; clear hHeld; go_simp)
  try simp only [Act.put, List.setIfInBounds_toArray, List.set_cons_zero, List.set_cons_succ]
  refine wpAnyH_later 3 #[true, true, true, true, true, true, true, false, false, false] (fun A a' w' => ∃ (gl : Nat) (v1 : Value), a' = (((A.put (some 6) (.slice (some ⟨gl, 0, none⟩) 4 4)).put (some 7) (.slice (some ⟨gl, 0, none⟩) 4 4)).put (some 11) v1) ∧ Arr w' 23 g (bvs D) ∧ Rd w'.heap.size w' (.slice (some ⟨gl, 0, none⟩) 4 4) vend ∧ Rd w'.heap.size w' v1 (put n) ∧ Below w.heap.size w w') (fun hT => ?_) (fun a' w' hF => ?_)
  · refine wpAnyH_ready (rs := [0, 5]) (by kernel_rfl) (by simp) ?_
    refine AllReadyH.cons (o := ⟨some 6, _, _, _, _, _⟩) rfl (fun K' hK' => ?_) (AllReadyH.cons (o := ⟨some 11, _, _, _, _, _⟩) rfl (fun K' hK' => ?_) AllReadyH.nil)
    · go_simp
      have hb : Below w3.heap.size w3 (w3.alloc (.cells #[.int .u8 86, .int .u8 69, .int .u8 78, .int .u8 68] 5)) := (Below.refl _ _).alloc (Nat.le_refl _) _
      have hkn := hHeld.later hb
      have L : LitAt (w3.alloc (.cells #[.int .u8 86, .int .u8 69, .int .u8 78, .int .u8 68] 5)) w3.heap.size vend := LitAt.new w3 vend #[.int .u8 86, .int .u8 69, .int .u8 78, .int .u8 68] rfl
      have xL : g < w3.heap.size ∧ w.heap.size ≤ w3.heap.size := ⟨hHeld.lt, HB.out.size⟩
      have HB' := Lib.hid (HB.out.trans (hb.mono HB.out.size))
      clear hb
      clear HB
      have HB := HB'
      clear HB'
      generalize w3.alloc (.cells #[.int .u8 86, .int .u8 69, .int .u8 78, .int .u8 68] 5) = wk0 at hkn L HB  ⊢
      obtain ⟨GL, hGL⟩ : ∃ x, x = w3.heap.size := ⟨_, rfl⟩
      rw [← hGL] at L xL ⊢
      clear hGL
      refine hK'.out _ _ hkn (fun _ => ?_)
      clear hK' K' hHeld
      have hHeld := hkn
      clear hkn
      try simp only [Act.put, List.setIfInBounds_toArray, List.set_cons_zero, List.set_cons_succ]
      refine wpAnyH_ready (rs := [1, 5]) (by kernel_rfl) (by simp) ?_
      refine AllReadyH.cons (o := ⟨some 7, _, _, _, _, _⟩) rfl (fun K' hK' => ?_) (AllReadyH.cons (o := ⟨some 11, _, _, _, _, _⟩) rfl (fun K' hK' => ?_) AllReadyH.nil)
      · refine stepw_mark2 (by rfl) (.tmp 6) rfl rfl L ?_
        have bF : Below GL wk0 (wk0.freeze ⟨GL, (bvs vend).length, none⟩ 1) := below_freeze wk0 _ 1 (Nat.le_refl _)
        have hkn := hHeld.below bF xL.1
        have HB' := Lib.hid (HB.out.trans (bF.mono xL.2))
        have PL := Lib.hid ((Rd.freeze (L.rd (n := 4) rfl (by decide)) ⟨GL, (bvs vend).length, none⟩ 1).mono (Nat.le_of_eq (size_freeze wk0 ⟨GL, (bvs vend).length, none⟩ 1).symm))
        clear bF xL L
        clear HB
        have HB := HB'
        clear HB'
        generalize wk0.freeze ⟨GL, (bvs vend).length, none⟩ 1 = wk1 at hkn PL HB  ⊢
        refine hK'.out _ _ hkn (fun _ => ?_)
        clear hK' K' hHeld
        have hHeld := hkn
        clear hkn
        try simp only [Act.put, List.setIfInBounds_toArray, List.set_cons_zero, List.set_cons_succ]
        refine wpAnyH_ready (rs := [5]) (by kernel_rfl) (by simp) ?_
        refine AllReadyH.cons (o := ⟨some 11, _, _, _, _, _⟩) rfl (fun K' hK' => ?_) AllReadyH.nil
        refine stepw_call (R := fun v' w'' => w''.ownsRow wk1.heap.size 5 1 v' (put n).length (bvs (put n)) ∧ Below wk1.heap.size wk1 w'') (by rfl) ?_ ((wput n HNL.out _).mono fun e w'' ⟨v', h1, h2, h3⟩ => ⟨v', h1, h2, h3⟩) ?_
        focus go_simp
        rintro vP1 wk2 ⟨oo, bb⟩
        have hkn := hHeld.later bb
        have P1 := Lib.hid (Rd.of_own oo)
        have HB' := Lib.hid (HB.out.trans (bb.mono HB.out.size))
        have PL' := Lib.hid (rd_now (B := 0) PL.out bb)
        clear oo bb
        clear PL
        have PL := PL'
        clear PL'
        clear HB
        have HB := HB'
        clear HB'
        refine hK'.out _ _ hkn (fun _ => ?_)
        clear hK' K' hHeld
        have hHeld := hkn
        clear hkn
        try simp only [Act.put, List.setIfInBounds_toArray, List.set_cons_zero, List.set_cons_succ]
        refine wpAnyH_listed (by kernel_rfl) (hT _ _ ⟨_, _, rfl, hHeld, PL.out, P1.out, HB.out⟩)
      · refine stepw_call (R := fun v' w'' => w''.ownsRow wk0.heap.size 5 1 v' (put n).length (bvs (put n)) ∧ Below wk0.heap.size wk0 w'') (by rfl) ?_ ((wput n HNL.out _).mono fun e w'' ⟨v', h1, h2, h3⟩ => ⟨v', h1, h2, h3⟩) ?_
        focus go_simp
        rintro vP1 wk1 ⟨oo, bb⟩
        have hkn := hHeld.later bb
        have P1 := Lib.hid (Rd.of_own oo)
        have HB' := Lib.hid (HB.out.trans (bb.mono HB.out.size))
        have L' := L.later bb
        clear oo bb
        clear HB
        have HB := HB'
        clear HB'
        clear L
        have L := L'
        clear L'
        refine hK'.out _ _ hkn (fun _ => ?_)
        clear hK' K' hHeld
        have hHeld := hkn
        clear hkn
        try simp only [Act.put, List.setIfInBounds_toArray, List.set_cons_zero, List.set_cons_succ]
        refine wpAnyH_ready (rs := [1]) (by kernel_rfl) (by simp) ?_
        refine AllReadyH.cons (o := ⟨some 7, _, _, _, _, _⟩) rfl (fun K' hK' => ?_) AllReadyH.nil
        refine stepw_mark2 (by rfl) (.tmp 6) rfl rfl L ?_
        have bF : Below GL wk1 (wk1.freeze ⟨GL, (bvs vend).length, none⟩ 1) := below_freeze wk1 _ 1 (Nat.le_refl _)
        have hkn := hHeld.below bF xL.1
        have HB' := Lib.hid (HB.out.trans (bF.mono xL.2))
        have P1' := Lib.hid ((Rd.freeze P1.out ⟨GL, (bvs vend).length, none⟩ 1).mono (Nat.le_of_eq (size_freeze wk1 ⟨GL, (bvs vend).length, none⟩ 1).symm))
        have PL := Lib.hid ((Rd.freeze (L.rd (n := 4) rfl (by decide)) ⟨GL, (bvs vend).length, none⟩ 1).mono (Nat.le_of_eq (size_freeze wk1 ⟨GL, (bvs vend).length, none⟩ 1).symm))
        clear bF xL L
        clear P1
        have P1 := P1'
        clear P1'
        clear HB
        have HB := HB'
        clear HB'
        generalize wk1.freeze ⟨GL, (bvs vend).length, none⟩ 1 = wk2 at hkn PL HB P1 ⊢
        refine hK'.out _ _ hkn (fun _ => ?_)
        clear hK' K' hHeld
        have hHeld := hkn
        clear hkn
        try simp only [Act.put, List.setIfInBounds_toArray, List.set_cons_zero, List.set_cons_succ]
        refine wpAnyH_listed (by kernel_rfl) (hT _ _ ⟨_, _, rfl, hHeld, PL.out, P1.out, HB.out⟩)
    · refine stepw_call (R := fun v' w'' => w''.ownsRow w3.heap.size 5 1 v' (put n).length (bvs (put n)) ∧ Below w3.heap.size w3 w'') (by rfl) ?_ ((wput n HNL.out _).mono fun e w'' ⟨v', h1, h2, h3⟩ => ⟨v', h1, h2, h3⟩) ?_
      focus go_simp
      rintro vP1 wk0 ⟨oo, bb⟩
      have hkn := hHeld.later bb
      have P1 := Lib.hid (Rd.of_own oo)
      have HB' := Lib.hid (HB.out.trans (bb.mono HB.out.size))
      clear oo bb
      clear HB
      have HB := HB'
      clear HB'
      refine hK'.out _ _ hkn (fun _ => ?_)
      clear hK' K' hHeld
      have hHeld := hkn
      clear hkn
      try simp only [Act.put, List.setIfInBounds_toArray, List.set_cons_zero, List.set_cons_succ]
      refine wpAnyH_ready (rs := [0]) (by kernel_rfl) (by simp) ?_
      refine AllReadyH.cons (o := ⟨some 6, _, _, _, _, _⟩) rfl (fun K' hK' => ?_) AllReadyH.nil
      go_simp
      have hb : Below wk0.heap.size wk0 (wk0.alloc (.cells #[.int .u8 86, .int .u8 69, .int .u8 78, .int .u8 68] 5)) := (Below.refl _ _).alloc (Nat.le_refl _) _
      have hkn := hHeld.later hb
      have P1' := Lib.hid (rd_now (B := 0) P1.out hb)
      have L : LitAt (wk0.alloc (.cells #[.int .u8 86, .int .u8 69, .int .u8 78, .int .u8 68] 5)) wk0.heap.size vend := LitAt.new wk0 vend #[.int .u8 86, .int .u8 69, .int .u8 78, .int .u8 68] rfl
      have xL : g < wk0.heap.size ∧ w.heap.size ≤ wk0.heap.size := ⟨hHeld.lt, HB.out.size⟩
      have HB' := Lib.hid (HB.out.trans (hb.mono HB.out.size))
      clear hb
      clear P1
      have P1 := P1'
      clear P1'
      clear HB
      have HB := HB'
      clear HB'
      generalize wk0.alloc (.cells #[.int .u8 86, .int .u8 69, .int .u8 78, .int .u8 68] 5) = wk1 at hkn L HB P1 ⊢
      obtain ⟨GL, hGL⟩ : ∃ x, x = wk0.heap.size := ⟨_, rfl⟩
      rw [← hGL] at L xL ⊢
      clear hGL
      refine hK'.out _ _ hkn (fun _ => ?_)
      clear hK' K' hHeld
      have hHeld := hkn
      clear hkn
      try simp only [Act.put, List.setIfInBounds_toArray, List.set_cons_zero, List.set_cons_succ]
      refine wpAnyH_ready (rs := [1]) (by kernel_rfl) (by simp) ?_
      refine AllReadyH.cons (o := ⟨some 7, _, _, _, _, _⟩) rfl (fun K' hK' => ?_) AllReadyH.nil
      refine stepw_mark2 (by rfl) (.tmp 6) rfl rfl L ?_
      have bF : Below GL wk1 (wk1.freeze ⟨GL, (bvs vend).length, none⟩ 1) := below_freeze wk1 _ 1 (Nat.le_refl _)
      have hkn := hHeld.below bF xL.1
      have HB' := Lib.hid (HB.out.trans (bF.mono xL.2))
      have P1' := Lib.hid ((Rd.freeze P1.out ⟨GL, (bvs vend).length, none⟩ 1).mono (Nat.le_of_eq (size_freeze wk1 ⟨GL, (bvs vend).length, none⟩ 1).symm))
      have PL := Lib.hid ((Rd.freeze (L.rd (n := 4) rfl (by decide)) ⟨GL, (bvs vend).length, none⟩ 1).mono (Nat.le_of_eq (size_freeze wk1 ⟨GL, (bvs vend).length, none⟩ 1).symm))
      clear bF xL L
      clear P1
      have P1 := P1'
      clear P1'
      clear HB
      have HB := HB'
      clear HB'
      generalize wk1.freeze ⟨GL, (bvs vend).length, none⟩ 1 = wk2 at hkn PL HB P1 ⊢
      refine hK'.out _ _ hkn (fun _ => ?_)
      clear hK' K' hHeld
      have hHeld := hkn
      clear hkn
      try simp only [Act.put, List.setIfInBounds_toArray, List.set_cons_zero, List.set_cons_succ]
      refine wpAnyH_listed (by kernel_rfl) (hT _ _ ⟨_, _, rfl, hHeld, PL.out, P1.out, HB.out⟩)
  · obtain ⟨gl, v1, rfl, hHeld, pl, p1, pb⟩ := hF
    have HB := Lib.hid pb
    have HRA := Lib.hid (rd_three (t := 27) pl p1 (rd_bvs hHeld HDL.out))
    obtain ⟨q1, c1, rfl⟩ := rd_form p1
    clear pl p1 pb
    try simp only [Act.put, List.setIfInBounds_toArray, List.set_cons_zero, List.set_cons_succ]
    refine wpAnyH_ready (rs := [7]) (by kernel_rfl) (by simp) ?_
    refine AllReadyH.cons (o := ⟨some 13, _, _, _, _, _⟩) rfl (fun K' hK' => ?_) AllReadyH.nil
    go_simp
    have hb0 : Below w'.heap.size w' (w'.alloc (.cells #[.slice (some ⟨gl, 0, none⟩) 4 4, .slice q1 (put n).length c1, .slice (some ⟨g, 0, none⟩) 32 32] 27)) := (Below.refl _ _).alloc (Nat.le_refl _) _
    have hkn := hHeld.later hb0
    refine hK'.out _ _ hkn (fun _ => ?_)
    clear hK' K' hHeld
    have hHeld := hkn
    clear hkn
    have HB6 := Lib.hid (HB.out.trans (hb0.mono HB.out.size))
    generalize w'.heap.size = n15 at HRA ⊢
    generalize w'.alloc (.cells #[.slice (some ⟨gl, 0, none⟩) 4 4, .slice q1 (put n).length c1, .slice (some ⟨g, 0, none⟩) 32 32] 27) = w6 at hHeld HRA HB6 ⊢
    clear hb0 HB
    try simp only [List.setIfInBounds_toArray, List.set_cons_zero, List.set_cons_succ]
    refine wpAnyH_ready (rs := [8]) (by kernel_rfl) (by simp) ?_
    refine AllReadyH.cons (o := ⟨some 14, _, _, _, _, _⟩) rfl (fun K' hK' => ?_) AllReadyH.nil
    refine stepw_call (R := fun v' w'' => w''.ownsRow w6.heap.size 5 1 v' (vend ++ (put n ++ D)).length (bvs (vend ++ (put n ++ D))) ∧ Below w6.heap.size w6 w'') (by rfl) ?_ ((join_any (cap := 3) HRA.out (Nat.le_refl _) (by simp) (by have h2 := put_len10 (x := n) HNL.out; have := HDL.out; simp [total, vend]; omega)).mono fun e w'' ⟨v', h1, h2, h3⟩ => ⟨v', h1, by simpa using h2, h3⟩) ?_
    focus go_simp
    rintro v16 w7 ⟨o16, b16⟩
    have hkn := hHeld.later b16
    refine hK'.out _ _ hkn (fun _ => ?_)
    clear hK' K' hHeld
    have hHeld := hkn
    clear hkn
    have HV16 := Lib.hid (Rd.of_own o16)
    have HB7 := Lib.hid (HB6.out.trans (b16.mono HB6.out.size))
    clear o16 b16 HB6 HRA
    try simp only [Act.put, List.setIfInBounds_toArray, List.set_cons_zero, List.set_cons_succ]
    refine wpAnyH_take (i := 9) (oi := ⟨some 2, _, _, _, _, _⟩) (v := v16) rfl (by kernel_rfl) (by kernel_rfl) (by kernel_rfl) (fun _ _ _ h => h) (.inl ⟨by rfl, fun w' hSw => ?_⟩) hHeld ?_
    focus (skip; clear hHeld; go_simp)
    try simp only [Act.put, List.setIfInBounds_toArray, List.set_cons_zero, List.set_cons_succ]
    refine wpAnyH_done (by kernel_rfl) ?_ _
    refine NoPanic.normal ?_
    obtain ⟨q16, c16, rfl⟩ := rd_form HV16.out
    clear hHeld
    go_wp2_with fail
    go_ret
    exact ⟨_, rfl, by rw [HF.out]; exact HV16.out, HB7.out⟩
end Go.Proofs.YtlngicddojoogaaGreatDoor
/-
  An empty schema cloned and sorted.
-/
namespace Go.Proofs.YtlngicddojoogaaGreatDoor
open Go.ChangeShapes Go.WideShapes Go.ChangeAt Go.RowKit
set_option linter.unusedVariables false

theorem eqlT (w : World) : (binOp BinOp.eql 73 (.slice none 0 0) (.slice none 0 0)).run Tryz.prog w = .ok (.bool true) w := by kernel_rfl
theorem eqlD (w : World) : (binOp BinOp.eql 70 (.slice none 0 0) (.slice none 0 0)).run Tryz.prog w = .ok (.bool true) w := by kernel_rfl
set_option maxRecDepth 100000 in
theorem cloneT_nil (w : World) : Calls Tryz.prog 74 #[.slice none 0 0] w fun e w' => e = .returned (.slice none 0 0) ∧ w = w' := by
  have hq := eqlT
  go_enter Tryz.func74, Tryz.ntmps74
  go_wp2_with fail
  go_ret
  exact ⟨rfl, rfl⟩
set_option maxRecDepth 100000 in
theorem cloneD_nil (w : World) : Calls Tryz.prog 111 #[.slice none 0 0] w fun e w' => e = .returned (.slice none 0 0) ∧ w = w' := by
  have hq := eqlD
  go_enter Tryz.func111, Tryz.ntmps111
  go_wp2_with fail
  go_ret
  exact ⟨rfl, rfl⟩
set_option maxRecDepth 100000 in
theorem isort_nil (w : World) (f : Value) : Calls Tryz.prog 137 #[.slice none 0 0, .int .i64 0, .int .i64 0, f] w fun e w' => e = .returned (.tuple #[]) ∧ w = w' := by
  go_enter Tryz.func137, Tryz.ntmps137
  go_wp2_with fail
  go_loopw [8] (fun iv wr => iv = .int .i64 1 ∧ wr = w) (fun _ _ => 0)
  case atStart => exact ⟨rfl, rfl⟩
  case round =>
    obtain ⟨rfl, rfl⟩ := hrel
    go_wp2_with fail
    go_end0
    exact ⟨rfl, rfl⟩
set_option maxRecDepth 100000 in
theorem stable_nil (w : World) (f : Value) : Calls Tryz.prog 113 #[.slice none 0 0, .int .i64 0, f] w fun e w' => e = .returned (.tuple #[]) ∧ w = w' := by
  go_enter Tryz.func113, Tryz.ntmps113
  go_wp2_with fail
  go_loopw [7, 8] (fun av bv wr => av = .int .i64 0 ∧ bv = .int .i64 20 ∧ wr = w) (fun _ _ _ => 0)
  case atStart => exact ⟨rfl, rfl, rfl⟩
  case round =>
    obtain ⟨rfl, rfl, rfl⟩ := hrel
    go_wp2_with fail
    refine (isort_nil _ _).mono ?_
    rintro e w1 ⟨rfl, rfl⟩
    go_wp2_with fail
    go_loopw [6] (fun kv wr' => kv = .int .i64 20 ∧ wr' = wr) (fun _ _ => 0)
    case atStart => exact ⟨rfl, rfl⟩
    case round =>
      obtain ⟨rfl, rfl⟩ := hrel
      go_wp2_with fail
      go_end0
      exact ⟨rfl, rfl⟩
set_option maxRecDepth 100000 in
theorem sorts_nil (w : World) (f : Value) : Calls Tryz.prog 90 #[.slice none 0 0, f] w fun e w' => e = .returned (.tuple #[]) ∧ w = w' := by
  go_enter Tryz.func90, Tryz.ntmps90
  go_wp2_with fail
  refine (stable_nil _ _).mono ?_
  rintro e w1 ⟨rfl, rfl⟩
  go_wp2_with fail
  go_end0
  exact ⟨rfl, rfl⟩
end Go.Proofs.YtlngicddojoogaaGreatDoor
