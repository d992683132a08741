/-
  Slices of words of 64 bits, and what the reference's constants are reckoned from, written down as the code does it.
-/
import Derived.Test.YtbnpnpoddnkaiaaDoorApp
import Derived.Test.YtbnpnpoddnkaiaaDoorHeld
import Derived.OwnWalk
import Derived.Laws.OwnMore
namespace Go.Proofs.YtbnpnpoddnkaiaaDoor
open Go.ChangeShapes Go.WideShapes Go.ChangeAt Go.RowKit
set_option linter.unusedVariables false

theorem Tryd.infoU : (Tryd.prog.info? 30).map (fun i => (i.zero, i.size, i.bytes)) = some (some (.int .u64 0), 1, 8) := by kernel_rfl
def uv (n : Nat) : Value := .int .u64 n
def uvs (l : List Nat) : List Value := l.map uv
theorem uvs_length (l : List Nat) : (uvs l).length = l.length := by simp [uvs]
theorem uvs_append (l m : List Nat) : uvs (l ++ m) = uvs l ++ uvs m := by simp [uvs]
theorem uvs_get (l : List Nat) (i : Nat) (h : i < l.length) : (uvs l)[i]? = some (uv (l.getD i 0)) := by
  simp [uvs, List.getD_eq_getElem?_getD, List.getElem?_eq_getElem h]
theorem uvs_one (l : List Nat) : ∀ v ∈ uvs l, v.oneCell' = true := by
  intro v hv; simp only [uvs, List.mem_map] at hv; obtain ⟨b, _, rfl⟩ := hv; rfl
/-- v reads as l, in a block below B. -/
def URd (B : Nat) (w : World) (v : Value) (l : List Nat) : Prop :=
  (∃ oa, v = .slice oa 0 0 ∧ l = []) ∨ ∃ b off cap, v = .slice (some ⟨b, off, none⟩) l.length cap ∧ l.length ≤ cap ∧ cap ≤ maxLen ∧ b < B ∧ ∀ i, i < l.length → w.cell? ⟨b, off + i, none⟩ = some (uv (l.getD i 0))
theorem URd.below {B C : Nat} {w w' : World} {v : Value} {l : List Nat} (h : URd B w v l) (hb : Below C w w') (hC : B ≤ C) : URd B w' v l := by
  rcases h with h | ⟨b, off, cap, hv, h1, h2, h3, h4⟩
  · exact .inl h
  · exact .inr ⟨b, off, cap, hv, h1, h2, h3, fun i hi => (hb.cell (p := ⟨b, off + i, none⟩) (by show b < C; omega)).trans (h4 i hi)⟩
theorem URd.mono {B C : Nat} {w : World} {v : Value} {l : List Nat} (h : URd B w v l) (hB : B ≤ C) : URd C w v l := by
  rcases h with h | ⟨b, off, cap, hv, h1, h2, h3, h4⟩
  · exact .inl h
  · exact .inr ⟨b, off, cap, hv, h1, h2, by omega, h4⟩
theorem URd.form {B : Nat} {w : World} {v : Value} {l : List Nat} (h : URd B w v l) : ∃ q c, v = .slice q l.length c := by
  rcases h with ⟨oa, rfl, rfl⟩ | ⟨b, off, cap, rfl, _⟩
  · exact ⟨oa, 0, rfl⟩
  · exact ⟨_, _, rfl⟩
theorem URd.at {B : Nat} {w : World} {q : Option Addr} {n c i : Nat} {l : List Nat} (h : URd B w (.slice q n c) l) (hi : i < n) : ∃ b off, q = some ⟨b, off, none⟩ ∧ b < B ∧ i < l.length ∧ w.cell? ⟨b, off + i, none⟩ = some (.int .u64 (l.getD i 0 : Nat)) := by
  rcases h with ⟨oa, hv, rfl⟩ | ⟨b, off, cap, hv, h1, h2, h3, h4⟩
  · simp only [Value.slice.injEq] at hv; omega
  · simp only [Value.slice.injEq] at hv
    obtain ⟨rfl, rfl, rfl⟩ := hv
    exact ⟨b, off, rfl, h3, hi, h4 i hi⟩
def UOwn (base : Nat) (w : World) (v : Value) (l : List Nat) : Prop := w.ownsRow base 30 1 v l.length (uvs l)
theorem UOwn.rd {base : Nat} {w : World} {v : Value} {l : List Nat} (h : UOwn base w v l) : URd w.heap.size w v l := by
  rcases h.2 with ⟨hv, hn⟩ | ⟨g, cap, cur, hv, hb, hg, h1, h2, h3, h4⟩
  · obtain rfl := List.eq_nil_of_length_eq_zero hn
    exact .inl ⟨none, hv, rfl⟩
  · refine .inr ⟨g, 0, cap, hv, h1, h2, (Array.getElem?_eq_some_iff.1 hg).1, fun i hi => ?_⟩
    rw [Nat.zero_add, cell_of_row w g i cur _ (0, 0) hg]
    have := uvs_get l i hi
    rw [← h4, List.getElem?_take] at this
    split at this
    · simpa using this
    · cases this
theorem UOwn.nil (base : Nat) (w : World) : UOwn base w (.slice none 0 0) [] := World.ownsRow_nil _ _ _ _
theorem UOwn.new (w : World) (x : Nat) : UOwn w.heap.size (w.alloc (.cells #[.int .u64 x] 30)) (.slice (some ⟨w.heap.size, 0, none⟩) 1 1) [x] :=
  ⟨rfl, .inr ⟨w.heap.size, 1, _, rfl, Nat.le_refl _, heap_alloc_new w _, Nat.le_refl _, by decide, rfl, rfl⟩⟩
theorem UOwn.later {base : Nat} {w w' : World} {v : Value} {l : List Nat} (h : UOwn base w v l) (hb : Below w.heap.size w w') : UOwn base w' v l := by
  refine ⟨h.1, ?_⟩
  rcases h.2 with h | ⟨g', cap, cur, e, a1, a2, r⟩
  · exact .inl h
  · exact .inr ⟨g', cap, cur, e, a1, (hb.block g' (Array.getElem?_eq_some_iff.1 a2).1).trans a2, r⟩
theorem UOwn.mono {base base' : Nat} {w : World} {v : Value} {l : List Nat} (h : UOwn base w v l) (hb : base' ≤ base) : UOwn base' w v l := by
  refine ⟨h.1, ?_⟩
  rcases h.2 with h | ⟨g', cap, cur, e, a1, r⟩
  · exact .inl h
  · exact .inr ⟨g', cap, cur, e, by omega, r⟩

theorem app_u {ops : Array Oper} {rest : List Oper} {o : Oper} {a : Act} {Q : Exit → Act → World → Prop} {w : World} (hgd : o.guard = none) (s x : Operand)
    (ho : o.op = .call { callee := .builtin .append, args := #[s, x], argTypes := #[57, 57] })
    {base C : Nat} {v vx : Value} {l m : List Nat} (hs : a.eval s = v) (hown : UOwn base w v l) (hx : a.eval x = vx) (hr : URd C w vx m)
    (hlen : l.length + m.length ≤ 1000000) (hbase : base ≤ w.heap.size)
    (h : ∀ v' w', UOwn base w' v' (l ++ m) → Below base w w' → wpList Tryd.prog ops Q rest (a.put o.dst v') w') : wpList Tryd.prog ops Q (o :: rest) a w := by
  obtain ⟨i0, hi, hz0, hz1, hz2⟩ := info_parts Tryd.infoU
  rcases hr with ⟨_ | ad, rfl, rfl⟩ | ⟨b, off, cap, rfl, h1, h2, h3, hc⟩
  · refine wpList_append_own_none hgd s x 57 ho base 30 i0 1 Tryd.underlying57 hi v l.length (uvs l) hs hown hx ?_
    exact h v w (by simpa using hown) (Below.refl _ _)
  · refine wpList_append_own w hgd s x 57 ho base 30 i0 (.int .u64 0) 1 8 Tryd.underlying57 hi hz0 hz1 hz2 rfl (by decide) v l.length (uvs l) hs hown ad 0 0 [] hx rfl (fun j u hu => by simp at hu) (fun u hu => by cases hu) (by unfold maxLen; omega) (by simp at hlen; omega) hbase ?_
    intro v' w' r1 r2 _
    exact h v' w' (by unfold UOwn; simpa [uvs] using r1) ((Below.refl _ _).grown r2 hbase (fun k hk => (hown.lt k hk).1))
  · refine wpList_append_own w hgd s x 57 ho base 30 i0 (.int .u64 0) 1 8 Tryd.underlying57 hi hz0 hz1 hz2 rfl (by decide) v l.length (uvs l) hs hown ⟨b, off, none⟩ m.length cap (uvs m) hx (by simp [uvs]) ?_ (uvs_one m) (by unfold maxLen; omega) (by omega) hbase ?_
    · intro j u hu
      have hj : j < m.length := by
        have := (List.getElem?_eq_some_iff.1 hu).1; simpa [uvs] using this
      rw [uvs_get m j hj] at hu
      simp only [Option.some.injEq] at hu
      subst hu
      rw [Addr.add_mid]; exact hc j hj
    · intro v' w' r1 r2 _
      exact h v' w' (by unfold UOwn; simpa [uvs] using r1) ((Below.refl _ _).grown r2 hbase (fun k hk => (hown.lt k hk).1))

/-! What the code reckons. -/
def digF : Nat → Nat → List Nat
  | 0, _ => []
  | f + 1, x => if x = 0 then [] else x % 65536 :: digF f (x / 65536)
def dig (x : Nat) : List Nat := digF 4 x
def carryM : Nat → List Nat → Nat → Option (List Nat)
  | 0, _, _ => none
  | f + 1, out, j => if j < out.length then
      (if out.getD j 0 < 65536 then some out else if j + 1 < out.length ∧ out.getD (j + 1) 0 + out.getD j 0 / 65536 < 18446744073709551616 then carryM f ((out.set (j + 1) (out.getD (j + 1) 0 + out.getD j 0 / 65536)).set j (out.getD j 0 % 65536)) (j + 1) else none)
    else none
def kLoop : Nat → Nat → List Nat → Nat → List Nat → Nat → Option (List Nat)
  | 0, _, _, _, _, _ => none
  | f + 1, x, b, i, out, k => if k < b.length then
      (if i + k < out.length ∧ out.getD (i + k) 0 + x * b.getD k 0 < 18446744073709551616 then (carryM 20 (out.set (i + k) (out.getD (i + k) 0 + x * b.getD k 0)) (i + k)).bind fun o => kLoop f x b i o (k + 1) else none)
    else some out
def iLoop : Nat → List Nat → List Nat → List Nat → Nat → Option (List Nat)
  | 0, _, _, _, _ => none
  | f + 1, a, b, out, i => if i < a.length then (kLoop 20 (a.getD i 0) b i out 0).bind fun o => iLoop f a b o (i + 1) else some out
def prodM (a b : List Nat) : Option (List Nat) := iLoop 20 a b (List.replicate (a.length + b.length + 1) 0) 0
def grM : Nat → List Nat → List Nat → Bool
  | 0, _, _ => false
  | n + 1, a, b => if a.getD n 0 = b.getD n 0 then grM n a b else decide (b.getD n 0 < a.getD n 0)
def grt (a b : List Nat) : Bool := grM (max a.length b.length) a b
def powF : Nat → List Nat → List Nat → Option (List Nat)
  | 0, p, _ => some p
  | n + 1, p, d => (prodM p d).bind fun q => powF n q d
def rb (deg : Nat) (lim : List Nat) : Nat → Nat → Option Nat
  | 0, x => some x
  | b + 1, x => (powF (deg - 1) (dig (x + 2 ^ b)) (dig (x + 2 ^ b))).bind fun p => rb deg lim b (if grt p lim then x else x + 2 ^ b)
def rootM (n deg : Nat) : Option Nat := (rb deg (List.replicate (2 * deg) 0 ++ dig n) 37 0).map (· % 4294967296)
def ipF : Nat → Nat → Nat → Bool → Bool
  | 0, _, _, p => p
  | f + 1, n, d, p => if d * d ≤ n then ipF f n (d + 1) (p && decide (n % d ≠ 0)) else p
def primeM : Nat → Nat → Nat → Option Nat
  | 0, _, _ => none
  | f + 1, n, i => if ipF n n 2 true then (if i = 0 then some n else primeM f (n + 1) (i - 1)) else primeM f (n + 1) i
end Go.Proofs.YtbnpnpoddnkaiaaDoor
