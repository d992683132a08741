/-
  Plain facts on bytes and on the groups of a number; no program is spoken of.
-/
import Derived.WalkKit
import Derived.Laws.BitsAllLaws
import Derived.Test.YtaikdbbakdicgaaDoorRows
import Derived.ProofKit
import Derived.OpenShut
import Derived.Below
import Derived.Lib.Hide
import Derived.WalkLawsBesides
import Derived.WalkSpells
import Derived.Laws.AppendOwnNone
import Derived.Lib.AppendStr
import Derived.BigQuiet
import Derived.Deep.QuietTactic
import Derived.Laws.BytesArg
import Derived.Deep.RegionLaw
namespace Go.Proofs.YtaikdbbakdicgaaDoor

def bv (b : UInt8) : Value := .int .u8 b.toNat
def bvs (l : List UInt8) : List Value := l.map bv
def lim64 : Nat := 18446744073709551616
def pb (x : Nat) : UInt8 := UInt8.ofNat (x % 128 + 128)
def put (x : Nat) : List UInt8 := if x < 128 then [UInt8.ofNat x] else pb x :: put (x / 128)
theorem put_lt {x : Nat} (h : x < 128) : put x = [UInt8.ofNat x] := by unfold put; rw [if_pos h]
theorem put_ge {x : Nat} (h : ¬ x < 128) : put x = pb x :: put (x / 128) := by rw [put, if_neg h]
theorem bvs_length (l : List UInt8) : (bvs l).length = l.length := by simp [bvs]
theorem bvs_append (l m : List UInt8) : bvs (l ++ m) = bvs l ++ bvs m := by simp [bvs]

theorem put_len : ∀ (n x : Nat), x < 128 ^ (n + 1) → (put x).length ≤ n + 1
  | 0, x, h => by rw [put_lt (by omega)]; simp
  | n + 1, x, h => by
    by_cases hx : x < 128
    · rw [put_lt hx]; simp
    · rw [put_ge hx]
      have := put_len n (x / 128) (by rw [Nat.div_lt_iff_lt_mul (by omega)]; rw [← Nat.pow_succ]; exact h)
      simp only [List.length_cons]; omega
theorem put_len10 {x : Nat} (h : x < lim64) : (put x).length ≤ 10 := put_len 9 x (by unfold lim64 at h; omega)
theorem put_pos (x : Nat) : 1 ≤ (put x).length := by
  by_cases hx : x < 128
  · rw [put_lt hx]; simp
  · rw [put_ge hx]; simp
theorem put_mono : ∀ (x y : Nat), x ≤ y → (put x).length ≤ (put y).length := by
  intro x
  induction x using Nat.strongRecOn with
  | _ x ih =>
    intro y h
    by_cases hx : x < 128
    · rw [put_lt hx]; simpa using put_pos y
    · rw [put_ge hx, put_ge (x := y) (by omega)]
      have := ih (x / 128) (by omega) (y / 128) (by omega)
      simpa using this
theorem or128 (x : Nat) : bits .or .u8 ((x : Int) % 256) 128 = (((pb x).toNat : Nat) : Int) := by
  have e : ((x : Int) % 256) = ((x % 256 : Nat) : Int) := by omega
  have e2 : (128 : Int) = ((128 : Nat) : Int) := rfl
  rw [e, e2, u8_or_nat _ _ (by omega) (by omega)]
  have h : (x % 256) ||| 128 = x % 128 + 128 := by
    have h1 : x % 256 < 256 := by omega
    have h2 : ∀ n : Fin 256, n.val ||| 128 = n.val % 128 + 128 := by decide +kernel
    have := h2 ⟨x % 256, h1⟩
    simp only at this
    rw [this]; omega
  rw [h]; unfold pb; congr 1
  rw [UInt8.toNat_ofNat']; omega
theorem low (x : Nat) (h : x < 128) : bv (UInt8.ofNat x) = .int .u8 x := by
  unfold bv; congr 1; rw [UInt8.toNat_ofNat']; congr 1; omega
theorem pb_val (x : Nat) : ((x : Int) % 128 + 128) = (((pb x).toNat : Nat) : Int) := by
  unfold pb; rw [UInt8.toNat_ofNat']; omega
theorem wrap_div128 {x : Nat} (h : x < lim64) : IntKind.u64.wrap ((x : Int) / 128) = (x : Int) / 128 := by
  unfold lim64 at h; rw [IntKind.wrap_u64]; omega
theorem low' (x : Nat) (h : x < 128) : bv (UInt8.ofNat x) = .int .u8 ((x : Int) % 128) := by
  rw [low x h]; congr 1; omega
theorem and127 (g : Nat) (h : g < 256) : bits .and .u8 (g : Int) 127 = ((g % 128 : Nat) : Int) := by
  have e2 : (127 : Int) = ((127 : Nat) : Int) := rfl
  rw [e2, u8_and_nat _ _ h (by omega)]
  have h2 : ∀ n : Fin 256, n.val &&& 127 = n.val % 128 := by decide +kernel
  congr 1
  exact h2 ⟨g, h⟩
theorem pow128 (k : Nat) : (2 : Nat) ^ (7 * k) = 128 ^ k := by rw [Nat.pow_mul]
theorem grp_lt {k g : Nat} (hk : k ≤ 9) (h9 : k = 9 → g ≤ 1) : g % 128 * 128 ^ k < 18446744073709551616 := by
  have hm : g % 128 ≤ 127 := by omega
  by_cases h : k = 9
  · subst h; have := h9 rfl
    have : g % 128 ≤ 1 := by omega
    calc g % 128 * 128 ^ 9 ≤ 1 * 128 ^ 9 := Nat.mul_le_mul_right _ this
      _ < _ := by decide
  · have hp : 128 ^ k ≤ 128 ^ 8 := Nat.pow_le_pow_right (by decide) (by omega)
    calc g % 128 * 128 ^ k ≤ 127 * 128 ^ 8 := Nat.mul_le_mul hm hp
      _ < _ := by decide
theorem shl_or {x k g : Nat} (hx : x < 128 ^ k) (hk : k ≤ 9) (hg : g < 256) (h9 : k = 9 → g ≤ 1) :
    bits .or .u64 (x : Int) (IntKind.u64.wrap (IntKind.u64.wrap (bits .and .u8 (g : Int) 127) * 2 ^ (7 * k))) = ((x + g % 128 * 128 ^ k : Nat) : Int) := by
  have hlt := grp_lt hk h9
  rw [and127 g hg]
  have w1 : IntKind.u64.wrap ((g % 128 : Nat) : Int) = ((g % 128 : Nat) : Int) := by rw [IntKind.wrap_u64]; omega
  have w2 : (2 : Int) ^ (7 * k) = ((128 ^ k : Nat) : Int) := by rw [← pow128]; simp
  rw [w1, w2, ← Int.natCast_mul]
  have w3 : IntKind.u64.wrap ((g % 128 * 128 ^ k : Nat) : Int) = ((g % 128 * 128 ^ k : Nat) : Int) := by
    rw [IntKind.wrap_u64]
    generalize g % 128 * 128 ^ k = z at *
    omega
  rw [w3]
  have hx64 : x < 18446744073709551616 := by
    have hp : 128 ^ k ≤ 128 ^ 9 := Nat.pow_le_pow_right (by decide) hk
    have : (128 : Nat) ^ 9 < 18446744073709551616 := by decide
    omega
  rw [u64_or_nat _ _ hx64 hlt]
  congr 1
  rw [← pow128] at hx ⊢
  rw [Nat.mul_comm (g % 128), Nat.or_comm, ← Nat.two_pow_add_eq_or_of_lt hx, Nat.add_comm]
theorem grp_next {x k g : Nat} (hx : x < 128 ^ k) : x + g % 128 * 128 ^ k < 128 ^ (k + 1) := by
  rw [Nat.pow_succ]
  have : g % 128 * 128 ^ k ≤ 127 * 128 ^ k := Nat.mul_le_mul_right _ (by omega)
  omega
end Go.Proofs.YtaikdbbakdicgaaDoor
/-
  Vocabulary for byte slices in memory: what a slice value reads as, and that a world that is as it was below a block keeps it.
-/
namespace Go.Proofs.YtaikdbbakdicgaaDoor
open Go.ChangeShapes Go.WideShapes Go.ChangeAt Go.RowKit

theorem Tryd.info5 : (Tryd.prog.info? 5).map (fun i => (i.zero, i.size, i.bytes)) = some (some (.int .u8 0), 1, 1) := by kernel_rfl

/-- The slice value v reads, in w, as the bytes l; where it has room it lies in a block below B. -/
def Rd (B : Nat) (w : World) (v : Value) (l : List UInt8) : Prop :=
  (∃ oa, v = .slice oa 0 0 ∧ l = []) ∨
  ∃ b off cap, v = .slice (some ⟨b, off, none⟩) l.length cap ∧ l.length ≤ cap ∧ cap ≤ maxLen ∧ b < B ∧ ∀ i, i < l.length → w.cell? ⟨b, off + i, none⟩ = some (bv (l.getD i 0))

theorem Rd.below {B C : Nat} {w w' : World} {v : Value} {l : List UInt8} (h : Rd B w v l) (hb : Below C w w') (hC : B ≤ C) : Rd B w' v l := by
  rcases h with h | ⟨b, off, cap, hv, h1, h2, h3, hc⟩
  · exact .inl h
  · exact .inr ⟨b, off, cap, hv, h1, h2, h3, fun i hi => (hb.cell (by show b < C; omega)).trans (hc i hi)⟩
theorem Rd.mono {B C : Nat} {w : World} {v : Value} {l : List UInt8} (h : Rd B w v l) (hC : B ≤ C) : Rd C w v l := by
  rcases h with h | ⟨b, off, cap, hv, h1, h2, h3, hc⟩
  · exact .inl h
  · exact .inr ⟨b, off, cap, hv, h1, h2, by omega, hc⟩

theorem bvs_getElem (l : List UInt8) (i : Nat) (h : i < l.length) : (bvs l)[i]? = some (bv (l.getD i 0)) := by
  simp [bvs, List.getElem?_eq_getElem h]

theorem Rd.of_own {base n : Nat} {w : World} {v : Value} {l : List UInt8} (h : w.ownsRow base 5 1 v n (bvs l)) : Rd w.heap.size w v l := by
  obtain rfl : n = l.length := by have := h.1; rw [bvs_length] at this; omega
  rcases h.2 with ⟨hv, hn⟩ | ⟨g, cap, cur, hv, hb, hg, h1, h2, h3, h4⟩
  · exact .inl ⟨none, hv, List.eq_nil_of_length_eq_zero hn⟩
  · refine .inr ⟨g, 0, cap, hv, h1, h2, (Array.getElem?_eq_some_iff.1 hg).1, fun i hi => ?_⟩
    rw [Nat.zero_add, cell_of_row w g i cur 5 (0, 0) hg]
    have := bvs_getElem l i hi
    rw [← h4, List.getElem?_take] at this
    split at this
    · simpa using this
    · cases this

theorem u64_nat {a : Int} (h : (Lit.int .u64 a).wf = true) : ∃ n : Nat, a = n ∧ n < lim64 := by
  have hb : 0 ≤ a ∧ a ≤ 18446744073709551615 := by simpa [Lit.wf, IntKind.min, IntKind.max, IntKind.signed, IntKind.bits] using h
  exact ⟨a.toNat, by omega, by unfold lim64; omega⟩

/-- A byte slice among the arguments reads as some bytes. -/
theorem rd_open {H : Type} {enc : TypeId × Value → H} {w : World} {a : Option Addr} {len cap : Nat} {d : DataW H} {p : List MemPlace} {fuel : Nat}
    (hf : DataW.trod enc Tryd.prog w 0 (fun _ => true) true fuel 22 (Value.slice a len cap).cells.toList = some (d, p)) : ∃ l, l.length = len ∧ Rd w.heap.size w (.slice a len cap) l := by
  rcases open_ints Tryd.underlying22 Tryd.underlying5 (by kernel_rfl) hf with ⟨hcs, _⟩ | ⟨x, l, c, zs, hcs, _, hl, hm, hz, _, hcell, hwz⟩
  · simp [Value.cells] at hcs
    obtain ⟨rfl, rfl, rfl⟩ := hcs
    exact ⟨[], rfl, .inl ⟨_, rfl, rfl⟩⟩
  · simp [Value.cells] at hcs
    obtain ⟨rfl, rfl, rfl⟩ := hcs
    have hz' : zs.length = cap := by simpa using hz
    have hll : ((zs.take len).map (fun z => UInt8.ofNat z.toNat)).length = len := by simp; omega
    refine ⟨(zs.take len).map (fun z => UInt8.ofNat z.toNat), hll, ?_⟩
    by_cases h0 : len = 0
    · subst h0
      by_cases hc0 : cap = 0
      · subst hc0; exact .inl ⟨_, rfl, by simp⟩
      · obtain ⟨b, off, spot⟩ := x
        have hc := hcell 0 (by omega)
        have hspot : spot = none := by simpa [Addr.add] using World.cell?_spot hc
        subst hspot
        have hb := World.block_lt_of_cell? w _ hc
        exact .inr ⟨b, off, cap, by simp, by simp, hm, by simpa [Addr.add] using hb, fun i hi => by simp at hi⟩
    · obtain ⟨b, off, spot⟩ := x
      have hc := hcell 0 (by omega)
      have hspot : spot = none := by simpa [Addr.add] using World.cell?_spot hc
      subst hspot
      have hb := World.block_lt_of_cell? w _ hc
      refine .inr ⟨b, off, cap, by rw [hll], by omega, hm, by simpa [Addr.add] using hb, fun i hi => ?_⟩
      have hi' : i < zs.length := by omega
      have e : (⟨b, off, none⟩ : Addr).add i = ⟨b, off + i, none⟩ := by unfold Addr.add; split <;> simp_all
      have hci := hcell i hi'
      rw [e] at hci
      rw [hci]
      have hi2 : i < len := by omega
      have hg : zs.getD i 0 = zs[i] := by simp [List.getD_eq_getElem?_getD, List.getElem?_eq_getElem hi']
      have hw := hwz zs[i] (List.getElem_mem hi')
      have hbd : 0 ≤ zs[i] ∧ zs[i] ≤ 255 := by simpa [Lit.wf, IntKind.min, IntKind.max, IntKind.signed, IntKind.bits] using hw
      rw [hg]
      have hgd : ((zs.take len).map (fun z => UInt8.ofNat z.toNat)).getD i 0 = UInt8.ofNat zs[i].toNat := by
        rw [List.getD_eq_getElem?_getD, List.getElem?_map, List.getElem?_take, if_pos hi2, List.getElem?_eq_getElem hi']; rfl
      rw [hgd]
      unfold bv
      congr 2
      rw [UInt8.toNat_ofNat']
      omega

theorem Rd.take {B : Nat} {w : World} {oa : Option Addr} {n cap k : Nat} {p : List UInt8} (h : Rd B w (.slice oa n cap) p) (hk : k ≤ p.length) : Rd B w (.slice oa k cap) (p.take k) := by
  rcases h with ⟨oa', hv, rfl⟩ | ⟨b, off, cap', hv, h1, h2, h3, hc⟩
  · obtain rfl : k = 0 := by simpa using hk
    simp only [Value.slice.injEq] at hv
    obtain ⟨rfl, _, rfl⟩ := hv
    exact .inl ⟨_, rfl, rfl⟩
  · simp only [Value.slice.injEq] at hv
    obtain ⟨rfl, _, rfl⟩ := hv
    have hl : (p.take k).length = k := by rw [List.length_take]; omega
    refine .inr ⟨b, off, cap, by rw [hl], by omega, h2, h3, fun i hi => ?_⟩
    rw [hc i (by omega)]
    congr 2
    simp [List.getD_eq_getElem?_getD, show i < k from by omega]

/-- The call hands back a slice of the bytes l in a block of its own, and changes nothing that was there. -/
def Owned (w : World) (l : List UInt8) (e : Ending) (w' : World) : Prop := ∃ v, e = .returned v ∧ w'.ownsRow w.heap.size 5 1 v l.length (bvs l) ∧ Below w.heap.size w w'

theorem below_append {B : Nat} {w wr w1 : World} {base size n e : Nat} {v : Value} {xs : List Value} {o : Obj} (hb : Below B w wr) (hB : B ≤ wr.heap.size) (hbase : B ≤ base) (hown : wr.ownsRow base e size v n xs) (hg : (wr.alloc o).grownBy w1 v.ownBlock) : Below B w w1 :=
  (hb.alloc hB o).grown hg (by simp; omega) (fun k hk => Nat.le_trans hbase (hown.lt k hk).1)
end Go.Proofs.YtaikdbbakdicgaaDoor
/-
  The laws on append and make at byte slices, at this program's numbers.
-/
namespace Go.Proofs.YtaikdbbakdicgaaDoor
open Go.ChangeShapes Go.WideShapes Go.ChangeAt Go.RowKit

theorem bvs_one (l : List UInt8) : ∀ u ∈ bvs l, u.oneCell' = true := by
  intro u hu; simp only [bvs, List.mem_map] at hu; obtain ⟨b, _, rfl⟩ := hu; rfl

theorem app_bytes {ops : Array Oper} {rest : List Oper} {o : Oper} {a : Act} {Q : Exit → Act → World → Prop} {w : World} (hgd : o.guard = none) (s x : Operand)
    (ho : o.op = .call { callee := .builtin .append, args := #[s, x], argTypes := #[22, 22] })
    {base C : Nat} {v vx : Value} {l m : List UInt8} (hs : a.eval s = v) (hown : w.ownsRow base 5 1 v l.length (bvs l)) (hx : a.eval x = vx) (hr : Rd C w vx m)
    (hlen : l.length + m.length ≤ 140737488355328) (hbase : base ≤ w.heap.size)
    (h : ∀ v' w', w'.ownsRow base 5 1 v' (l ++ m).length (bvs (l ++ m)) → w.grownBy w' v.ownBlock → wpList Tryd.prog ops Q rest (a.put o.dst v') w') : wpList Tryd.prog ops Q (o :: rest) a w := by
  obtain ⟨i0, hi, hz0, hz1, hz2⟩ := info_parts Tryd.info5
  rcases hr with ⟨_ | ad, rfl, rfl⟩ | ⟨b, off, cap, rfl, h1, h2, h3, hc⟩
  · refine wpList_append_own_none hgd s x 22 ho base 5 i0 1 Tryd.underlying22 hi v l.length (bvs l) hs hown hx ?_
    exact h v w (by simpa using hown) (World.grownBy.refl _ _)
  · refine wpList_append_own w hgd s x 22 ho base 5 i0 (.int .u8 0) 1 1 Tryd.underlying22 hi hz0 hz1 hz2 rfl (by decide) v l.length (bvs l) hs hown ad 0 0 [] hx rfl (fun j u hu => by simp at hu) (fun u hu => by cases hu) (by unfold maxLen; omega) (by omega) hbase ?_
    intro v' w' r1 r2 _
    exact h v' w' (by simpa [bvs] using r1) r2
  · refine wpList_append_own w hgd s x 22 ho base 5 i0 (.int .u8 0) 1 1 Tryd.underlying22 hi hz0 hz1 hz2 rfl (by decide) v l.length (bvs l) hs hown ⟨b, off, none⟩ m.length cap (bvs m) hx (by simp [bvs]) ?_ (bvs_one m) (by unfold maxLen; omega) (by omega) hbase ?_
    · intro j u hu
      have hj : j < m.length := by
        have := (List.getElem?_eq_some_iff.1 hu).1; simpa [bvs] using this
      rw [bvs_getElem m j hj] at hu
      simp only [Option.some.injEq] at hu
      subst hu
      have e : (⟨b, off, none⟩ : Addr).add j = ⟨b, off + j, none⟩ := by unfold Addr.add; split <;> simp_all
      rw [e]; exact hc j hj
    · intro v' w' r1 r2 _
      exact h v' w' (by simpa [bvs] using r1) r2

theorem app_str {ops : Array Oper} {rest : List Oper} {o : Oper} {a : Act} {Q : Exit → Act → World → Prop} {w : World} (hgd : o.guard = none) (s x : Operand)
    (ho : o.op = .call { callee := .builtin .append, args := #[s, x], argTypes := #[22, 9] })
    {base : Nat} {v : Value} {l : List UInt8} {t : ByteArray} (hs : a.eval s = v) (hown : w.ownsRow base 5 1 v l.length (bvs l)) (hx : a.eval x = .string t)
    (hlen : l.length + t.size ≤ 140737488355328) (hbase : base ≤ w.heap.size)
    (h : ∀ v' w', w'.ownsRow base 5 1 v' (l ++ t.data.toList).length (bvs (l ++ t.data.toList)) → w.grownBy w' v.ownBlock → wpList Tryd.prog ops Q rest (a.put o.dst v') w') : wpList Tryd.prog ops Q (o :: rest) a w := by
  obtain ⟨i0, hi, hz0, hz1, hz2⟩ := info_parts Tryd.info5
  refine Lib.wpList_append_own_string w hgd s x 22 9 ho base 5 i0 Tryd.underlying22 Tryd.underlying9 hi hz0 hz1 hz2 v l.length (bvs l) hs hown t hx (by unfold maxLen; omega) hlen hbase ?_
  intro v' w' r1 r2 _
  refine h v' w' ?_ r2
  have e : t.size = t.data.toList.length := by rw [Array.length_toList]; rfl
  rw [List.length_append, bvs_append, ← e]
  exact r1

theorem rd_lit (w : World) (l : List UInt8) (cs : Array Value) (hcs : cs.toList = bvs l) (n : Nat) (hn : n = l.length) (hm : l.length ≤ maxLen) : Rd (w.heap.size + 1) (w.alloc (.cells cs 5)) (.slice (some ⟨w.heap.size, 0, none⟩) n n) l := by
  subst hn
  refine .inr ⟨_, 0, _, rfl, Nat.le_refl _, hm, by omega, fun i hi => ?_⟩
  rw [Nat.zero_add, cell_of_row _ _ i cs 5 (0, 0) (heap_alloc_new w _)]
  rw [← Array.getElem?_toList, hcs]
  exact bvs_getElem l i hi

theorem make_bytes {ops : Array Oper} {rest : List Oper} {o : Oper} {a : Act} {Q : Exit → Act → World → Prop} {w : World} (hg : o.guard = none) (l c : Operand) (hop : o.op = Op.makeSlice 22 l c)
    {base : Nat} {kl kc : IntKind} {C : Int} (n : Nat) (hl : a.eval l = .int kl 0) (hc : a.eval c = .int kc C) (hC : C = (n : Int)) (b2 : n ≤ 281474976710656) (b4 : base ≤ w.heap.size)
    (h : ∀ v' w', w'.ownsRow base 5 1 v' ([] : List UInt8).length (bvs []) → w.grownBy w' none → wpList Tryd.prog ops Q rest (a.put o.dst v') w') : wpList Tryd.prog ops Q (o :: rest) a w := by
  obtain ⟨i0, hi, hz0, hz1, hz2⟩ := info_parts Tryd.info5
  exact wpList_make_own w hg l c 22 hop base 5 i0 _ 1 Tryd.underlying22 hi hz0 hz1 kl kc C n hl hc hC (by rw [hz2]; omega) (by unfold maxLen; omega) b4 (fun w' r1 r2 => h _ w' r1 r2)

theorem below_grown {B : Nat} {w wr w1 : World} {base size n e : Nat} {v : Value} {xs : List Value} (hb : Below B w wr) (hB : B ≤ wr.heap.size) (hbase : B ≤ base) (hown : wr.ownsRow base e size v n xs) (hg : wr.grownBy w1 v.ownBlock) : Below B w w1 :=
  hb.grown hg hB (fun k hk => Nat.le_trans hbase (hown.lt k hk).1)
end Go.Proofs.YtaikdbbakdicgaaDoor
/-
  A slice of byte slices in memory.
-/
namespace Go.Proofs.YtaikdbbakdicgaaDoor
open Go.ChangeShapes Go.WideShapes Go.ChangeAt Go.RowKit

/-- The value reads as a slice of byte slices that read as ls. -/
def RdAll (B : Nat) (w : World) (oa : Option Addr) (ls : List (List UInt8)) : Prop :=
  0 < ls.length → ∃ b off, oa = some ⟨b, off, none⟩ ∧ b < B ∧ ∀ i, i < ls.length → ∃ u, w.cell? ⟨b, off + i, none⟩ = some u ∧ Rd B w u (ls.getD i [])

theorem RdAll.below {B C : Nat} {w w' : World} {oa : Option Addr} {ls : List (List UInt8)} (h : RdAll B w oa ls) (hb : Below C w w') (hC : B ≤ C) : RdAll B w' oa ls := by
  intro h0
  obtain ⟨b, off, e, hB, hc⟩ := h h0
  refine ⟨b, off, e, hB, fun i hi => ?_⟩
  obtain ⟨u, hu, hr⟩ := hc i hi
  exact ⟨u, (hb.cell (by show b < C; omega)).trans hu, hr.below hb hC⟩

def total (ls : List (List UInt8)) : Nat := ls.flatten.length
theorem total_take (ls : List (List UInt8)) (k : Nat) (h : k < ls.length) : (ls.take (k + 1)).flatten = (ls.take k).flatten ++ ls.getD k [] := by
  rw [List.take_succ_eq_append_getElem h, List.flatten_append]
  simp [List.getD_eq_getElem?_getD, List.getElem?_eq_getElem h]
theorem total_le (ls : List (List UInt8)) (k : Nat) : (ls.take k).flatten.length ≤ total ls := by
  unfold total
  conv => rhs; rw [← List.take_append_drop k ls, List.flatten_append, List.length_append]
  omega
end Go.Proofs.YtaikdbbakdicgaaDoor
/-
  vestryref01.Same compares two byte slices: true exactly if they read as the same bytes; nothing changes.
-/
namespace Go.Proofs.YtaikdbbakdicgaaDoor
open Go.ChangeShapes Go.WideShapes Go.ChangeAt Go.RowKit

theorem Rd.form {B : Nat} {w : World} {v : Value} {l : List UInt8} (h : Rd B w v l) :
    ∃ oa cap, v = .slice oa l.length cap ∧ l.length ≤ maxLen ∧ (0 < l.length → ∃ b off, oa = some ⟨b, off, none⟩ ∧ l.length ≤ cap ∧ cap ≤ maxLen ∧ b < B ∧ ∀ i, i < l.length → w.cell? ⟨b, off + i, none⟩ = some (bv (l.getD i 0))) := by
  rcases h with ⟨oa, rfl, rfl⟩ | ⟨b, off, cap, rfl, h1, h2, h3, hc⟩
  · exact ⟨oa, 0, rfl, Nat.zero_le _, fun h => absurd h (by simp)⟩
  · exact ⟨_, cap, rfl, by omega, fun _ => ⟨b, off, rfl, h1, h2, h3, hc⟩⟩

def eqB (a b : List UInt8) : Bool := a == b
theorem eqB_len {a b : List UInt8} (h : a.length ≠ b.length) : eqB a b = false := by
  unfold eqB; simp only [beq_eq_false_iff_ne, ne_eq]; intro e; exact h (by rw [e])
theorem eqB_at {a b : List UInt8} {k : Nat} (h : a.getD k 0 ≠ b.getD k 0) : eqB a b = false := by
  unfold eqB; simp only [beq_eq_false_iff_ne, ne_eq]; intro e; exact h (by rw [e])
theorem eqB_all {a b : List UInt8} (hl : a.length = b.length) (h : ∀ i, i < a.length → a.getD i 0 = b.getD i 0) : eqB a b = true := by
  unfold eqB; rw [beq_iff_eq]
  apply List.ext_getElem hl
  intro i h1 h2
  have := h i h1
  simpa [List.getD_eq_getElem?_getD, List.getElem?_eq_getElem h1, List.getElem?_eq_getElem h2] using this
theorem bv_ne {x y : UInt8} (h : x ≠ y) : (((x.toNat : Int)) != (y.toNat : Int)) = true := by
  rw [bne_iff_ne]; intro e; exact h (UInt8.toNat_inj.1 (by omega))
theorem bv_eq {x y : UInt8} (h : x = y) : (((x.toNat : Int)) != (y.toNat : Int)) = false := by subst h; simp

set_option maxRecDepth 100000 in
set_option maxHeartbeats 400000 in
theorem same_any {A B : Nat} {w : World} {va vb : Value} {la lb : List UInt8} (ha : Rd A w va la) (hb : Rd B w vb lb) :
    Calls Tryd.prog 14 #[va, vb] w fun e w' => e = .returned (.bool (eqB la lb)) ∧ ∃ n, w' = w.drewN n := by
  obtain ⟨oa, ca, rfl, hma, ha⟩ := ha.form
  obtain ⟨ob, cb, rfl, hmb, hb⟩ := hb.form
  unfold maxLen at hma hmb
  by_cases hl : la.length = lb.length
  · have HE := Lib.hid hl
    have hne : ((la.length : Int) != (lb.length : Int)) = false := by simp [hl]
    by_cases hz : 0 < la.length
    · obtain ⟨ba, fa, rfl, hla, _, _, hca⟩ := ha hz
      obtain ⟨bb, fb, rfl, hlb, _, _, hcb⟩ := hb (by omega)
      clear ha hb hl
      go_enter Tryd.func14, Tryd.ntmps14
      go_wp2
      go_loopw [5] (fun iv wr => ∃ k : Nat, k ≤ la.length ∧ iv = .int .i64 k ∧ Hid (∃ n, wr = w.drewN n) ∧ Hid (∀ i, i < k → la.getD i 0 = lb.getD i 0))
        (fun iv _ => la.length - (intOf iv).toNat)
      case atStart => exact ⟨0, Nat.zero_le _, rfl, ⟨0, rfl⟩, fun i hi => absurd hi (by omega)⟩
      case round =>
        obtain ⟨k, hk, rfl, HW, HP⟩ := hrel
        by_cases hlt : k < la.length
        · have hltb : k < lb.length := by have := HE.out; omega
          obtain ⟨x, hx⟩ : ∃ x, x = la.getD k 0 := ⟨_, rfl⟩
          obtain ⟨y, hy⟩ : ∃ y, y = lb.getD k 0 := ⟨_, rfl⟩
          have hcx : wr.cell? ⟨ba, fa + k, none⟩ = some (.int .u8 x.toNat) := by
            obtain ⟨n, rfl⟩ := HW.out; rw [hx]; exact hca k hlt
          have hcy : wr.cell? ⟨bb, fb + k, none⟩ = some (.int .u8 y.toNat) := by
            obtain ⟨n, rfl⟩ := HW.out; rw [hy]; exact hcb k hltb
          have hi1 : (k : Int) < la.length := by omega
          have hi2 : (k : Int) < lb.length := by omega
          have hi0 : (0 : Int) ≤ k := by omega
          have HX := Lib.hid hx
          have HY := Lib.hid hy
          clear hx hy hca hcb hne
          by_cases hxy : x = y
          · have hv := bv_eq hxy
            have HXY := Lib.hid hxy
            clear hxy
            go_wp2
            go_quiet (fail)
            go_wp2
            go_roundw
            case rel =>
              refine ⟨k + 1, by omega, by go_num, ?_, ?_⟩
              · obtain ⟨n, hn⟩ := HW.out
                exact ⟨_, by rw [hn, World.drewN_drewN]⟩
              · intro i hi
                by_cases e : i = k
                · subst e; rw [← HX.out, ← HY.out]; exact HXY.out
                · exact HP.out i (by omega)
            case measure => simp [intOf]; omega
          · have hv := bv_ne hxy
            have HXY := Lib.hid hxy
            clear hxy
            go_wp2
            go_quiet (fail)
            go_wp2
            go_ret
            refine ⟨?_, ?_⟩
            · rw [eqB_at (k := k) (by rw [← HX.out, ← HY.out]; exact HXY.out)]; rfl
            · obtain ⟨n, hn⟩ := HW.out
              exact ⟨_, by rw [hn, World.drewN_drewN]⟩
        · go_wp2
          go_ret
          refine ⟨?_, HW.out⟩
          rw [eqB_all HE.out (fun i hi => HP.out i (by omega))]; rfl
    · have hz0 : la.length = 0 := by omega
      have hzb : lb.length = 0 := by omega
      obtain rfl := List.eq_nil_of_length_eq_zero hz0
      obtain rfl := List.eq_nil_of_length_eq_zero hzb
      go_enter Tryd.func14, Tryd.ntmps14
      go_wp2
      go_loopw [5] (fun iv wr => iv = .int .i64 0 ∧ Hid (wr = w)) (fun _ _ => 0)
      case atStart => exact ⟨rfl, rfl⟩
      case round =>
        obtain ⟨rfl, HW⟩ := hrel
        go_wp2
        go_ret
        exact ⟨rfl, 0, HW.out⟩
  · have hne : ((la.length : Int) != (lb.length : Int)) = true := by rw [bne_iff_ne]; omega
    have hE := eqB_len hl
    go_enter Tryd.func14, Tryd.ntmps14
    go_wp2
    go_ret
    exact ⟨by rw [hE]; rfl, 0, rfl⟩
end Go.Proofs.YtaikdbbakdicgaaDoor
/-
  wire.Join returns the bytes of all parts in order, in new memory, where they are at most 2^47 together.
-/
namespace Go.Proofs.YtaikdbbakdicgaaDoor
open Go.ChangeShapes Go.WideShapes Go.ChangeAt Go.RowKit

set_option maxRecDepth 100000 in
set_option maxHeartbeats 400000 in
theorem join_any {B : Nat} {w : World} {oa : Option Addr} {cap : Nat} {ls : List (List UInt8)} (hr : RdAll B w oa ls) (hB : B ≤ w.heap.size) (hn : ls.length ≤ 140737488355328) (ht : total ls ≤ 140737488355328) :
    Calls Tryd.prog 23 #[.slice oa ls.length cap] w (Owned w ls.flatten) := by
  by_cases hz : 0 < ls.length
  · obtain ⟨b, off, rfl, hbB, hc⟩ := hr hz
    go_enter Tryd.func23, Tryd.ntmps23
    go_wp2
    go_loop [3, 11] (fun sv iv => ∃ k : Nat, k ≤ ls.length ∧ iv = .int .i64 k ∧ sv = .int .i64 (ls.take k).flatten.length) (fun _ iv => ls.length - (intOf iv).toNat)
    case atStart => exact ⟨0, Nat.zero_le _, rfl, rfl⟩
    case round =>
      obtain ⟨k, hk, rfl, rfl⟩ := hrel
      have htl := total_le ls k
      obtain ⟨s, hs⟩ : ∃ s, s = (ls.take k).flatten.length := ⟨_, rfl⟩
      by_cases hlt : k < ls.length
      · obtain ⟨u, hu, hru⟩ := hc k hlt
        obtain ⟨ou, cu, rfl, hmu, _⟩ := hru.form
        have hnx := total_le ls (k + 1)
        have hsm := total_take ls k hlt
        obtain ⟨m, hm⟩ : ∃ m, m = (ls.getD k []).length := ⟨_, rfl⟩
        have hsm' : ((ls.take (k + 1)).flatten).length = s + m := by rw [hsm, List.length_append, ← hs, ← hm]
        rw [← hs] at htl
        rw [hsm'] at hnx
        rw [← hm] at hu hmu
        have HS := Lib.hid hsm'
        rw [← hs]
        clear hsm hsm' hc hru hs hm
        have hi1 : (k : Int) < ls.length := by omega
        have hi0 : (0 : Int) ≤ k := by omega
        go_wp2
        go_round
        case rel => exact ⟨k + 1, by omega, by go_num, by rw [HS.out]; go_num⟩
        case measure => simp [intOf]; omega
      · obtain rfl : k = ls.length := by omega
        rw [List.take_length] at hs htl
        rw [List.take_length, ← hs]
        rw [← hs] at htl
        have HS := Lib.hid hs
        clear hs
        go_wp2_with (at_make; refine make_bytes rfl _ _ rfl (base := w.heap.size) s rfl rfl rfl (by omega) (Nat.le_refl _) ?_)
        intro v0 w0 hown0 hg0
        have hb0 : Below w.heap.size w w0 := (Below.refl _ _).grown hg0 (Nat.le_refl _) (by simp)
        go_wp2
        go_loopw [6, 24] (fun v iv wr => ∃ k : Nat, k ≤ ls.length ∧ iv = .int .i64 k ∧ wr.ownsRow w.heap.size 5 1 v (ls.take k).flatten.length (bvs (ls.take k).flatten) ∧ Below w.heap.size w wr) (fun _ iv _ => ls.length - (intOf iv).toNat)
        case atStart => exact ⟨0, Nat.zero_le _, rfl, hown0, hb0⟩
        case round =>
          obtain ⟨k, hk, rfl, hown, hb⟩ := hrel
          clear hown0 hb0 hg0
          have hsz := hb.size
          by_cases hlt : k < ls.length
          · obtain ⟨p, ou, cu, HT, hu', hru', hnx, hmu⟩ : ∃ (p : List UInt8) (ou : Option Addr) (cu : Nat), Hid ((ls.take (k + 1)).flatten = (ls.take k).flatten ++ p) ∧ wr.cell? ⟨b, off + k, none⟩ = some (.slice ou p.length cu) ∧ Rd B wr (.slice ou p.length cu) p ∧ (ls.take k).flatten.length + p.length ≤ total ls ∧ p.length ≤ maxLen := by
              obtain ⟨u, hu, hru⟩ := hc k hlt
              obtain ⟨ou, cu, rfl, hmu, _⟩ := hru.form
              have hnx := total_le ls (k + 1)
              rw [total_take ls k hlt, List.length_append] at hnx
              exact ⟨_, ou, cu, total_take ls k hlt, (hb.cell (by show b < w.heap.size; omega)).trans hu, hru.below hb (by omega), hnx, hmu⟩
            have hi1 : (k : Int) < ls.length := by omega
            have hi0 : (0 : Int) ≤ k := by omega
            clear hc
            go_wp2_with (at_builtin; refine app_bytes rfl _ _ rfl rfl hown rfl hru' (by omega) hsz ?_)
            intro v1 w1 hown1 hg1
            have hb1 := below_grown hb hsz (Nat.le_refl _) hown hg1
            clear hown hg1 hru'
            go_wp2
            go_roundw
            case rel => exact ⟨k + 1, by omega, by go_num, by rw [HT.out]; simpa using hown1, hb1⟩
            case measure => simp [intOf]; omega
          · obtain rfl : k = ls.length := by omega
            rw [List.take_length] at hown
            clear hc
            go_wp2
            go_ret
            exact ⟨_, rfl, hown, hb⟩
  · obtain rfl : ls = [] := List.eq_nil_of_length_eq_zero (by omega)
    go_enter Tryd.func23, Tryd.ntmps23
    go_wp2
    go_loop [3, 11] (fun sv iv => iv = .int .i64 0 ∧ sv = .int .i64 0) (fun _ iv => 0)
    case atStart => exact ⟨rfl, rfl⟩
    case round =>
      obtain ⟨rfl, rfl⟩ := hrel
      go_wp2_with (at_make; refine make_bytes rfl _ _ rfl (base := w.heap.size) 0 rfl rfl rfl (by omega) (Nat.le_refl _) ?_)
      intro v0 w0 hown0 hg0
      have hb0 : Below w.heap.size w w0 := (Below.refl _ _).grown hg0 (Nat.le_refl _) (by simp)
      go_wp2
      go_loopw [6, 24] (fun v iv wr => iv = .int .i64 0 ∧ wr.ownsRow w.heap.size 5 1 v ([] : List UInt8).length (bvs []) ∧ Below w.heap.size w wr) (fun _ iv _ => 0)
      case atStart => exact ⟨rfl, hown0, hb0⟩
      case round =>
        obtain ⟨rfl, hown, hb⟩ := hrel
        go_wp2
        go_ret
        exact ⟨_, rfl, hown, hb⟩
end Go.Proofs.YtaikdbbakdicgaaDoor
/-
  wire.New returns a cursor over a copy of the bytes.
-/
namespace Go.Proofs.YtaikdbbakdicgaaDoor
open Go.ChangeShapes Go.WideShapes Go.ChangeAt Go.RowKit

/-- Block c of w is a cursor over the bytes l, of which 'at' were read. -/
def Cur (w : World) (c : Nat) (l : List UInt8) (at' : Nat) : Prop :=
  ∃ v, w.heap[c]? = some (.cells #[v, .int .i64 at'] 90 (0, 0)) ∧ Rd c w v l ∧ at' ≤ l.length ∧ l.length ≤ 140737488355328

theorem Cur.below {C : Nat} {w w' : World} {c at' : Nat} {l : List UInt8} (h : Cur w c l at') (hb : Below C w w') (hc : c < C) : Cur w' c l at' := by
  obtain ⟨v, h1, h2, h3, h4⟩ := h
  exact ⟨v, (hb.block c hc).trans h1, h2.below hb (by omega), h3, h4⟩
theorem Cur.lt {w : World} {c at' : Nat} {l : List UInt8} (h : Cur w c l at') : c < w.heap.size := by
  obtain ⟨v, h1, _⟩ := h
  exact (Array.getElem?_eq_some_iff.1 h1).1

def NewPost (w : World) (l : List UInt8) (e : Ending) (w' : World) : Prop :=
  ∃ c, e = .returned (.pointer (some ⟨c, 0, none⟩)) ∧ w.heap.size ≤ c ∧ Cur w' c l 0 ∧ Below w.heap.size w w'

set_option maxRecDepth 100000 in
set_option maxHeartbeats 400000 in
theorem new_any {B : Nat} {w : World} {vb : Value} {l : List UInt8} (hr : Rd B w vb l) (hB : B ≤ w.heap.size) (hl : l.length ≤ 140737488355328) :
    Calls Tryd.prog 27 #[vb] w (NewPost w l) := by
  obtain ⟨ov, cv, rfl, _, _⟩ := hr.form
  go_enter Tryd.func27, Tryd.ntmps27
  have hb0 : Below w.heap.size w (w.alloc (.cells #[.slice ov l.length cv] 22)) := (Below.refl _ _).alloc (Nat.le_refl _) _
  have hra : RdAll (w.heap.size + 1) (w.alloc (.cells #[.slice ov l.length cv] 22)) (some ⟨w.heap.size, 0, none⟩) [l] := by
    intro _
    refine ⟨w.heap.size, 0, rfl, by omega, fun i hi => ?_⟩
    have hi0 : i = 0 := by simpa using hi
    subst hi0
    refine ⟨.slice ov l.length cv, ?_, ?_⟩
    · rw [cell_of_row _ _ _ #[.slice ov l.length cv] 22 (0, 0) (heap_alloc_new w _)]; rfl
    · exact (hr.below hb0 hB).mono (by omega)
  have hj := join_any (cap := 1) hra (by simp) (by simp) (by simpa [total] using hl)
  have HJ := Lib.hid hj
  clear hj hra
  go_wp2_with (go_at_call 23; refine HJ.out.mono ?_; rintro e w1 ⟨v, rfl, hown, hb⟩; have hr1 := Rd.of_own hown; have hwl : [l].flatten = l := List.append_nil l; rw [hwl] at hr1; obtain ⟨oj, cj, rfl, _, _⟩ := hr1.form; clear hown)
  go_ret
  clear HJ
  refine ⟨w1.heap.size, rfl, ?_, ⟨.slice oj l.length cj, ?_, ?_, Nat.zero_le _, hl⟩, ?_⟩
  · have := hb.size; simp at this; omega
  · exact heap_alloc_new w1 _
  · exact hr1.below ((Below.refl _ _).alloc (Nat.le_refl _) _) (Nat.le_refl _)
  · exact (hb0.trans (hb.mono (by simp))).alloc (by have := hb.size; simp at this; omega) _
end Go.Proofs.YtaikdbbakdicgaaDoor
/-
  The methods of a cursor that only read it: rest, At, Left, End; also at a nil cursor.
-/
namespace Go.Proofs.YtaikdbbakdicgaaDoor
open Go.ChangeShapes Go.WideShapes Go.ChangeAt Go.RowKit

def RestPost (w : World) (c : Nat) (l : List UInt8) (e : Ending) (w' : World) : Prop :=
  ∃ v, e = .returned v ∧ Rd c w v l ∧ ∃ n, w' = w.drewN n

theorem Cur.cells {w : World} {c at' : Nat} {l : List UInt8} (h : Cur w c l at') :
    ∃ v, w.cell? ⟨c, 0, none⟩ = some v ∧ w.cell? ⟨c, 1, none⟩ = some (.int .i64 at') ∧ w.frozen? ⟨c, 1, none⟩ = false ∧ Rd c w v l ∧ at' ≤ l.length ∧ l.length ≤ 140737488355328 := by
  obtain ⟨v, h1, h2, h3, h4⟩ := h
  refine ⟨v, ?_, ?_, ?_, h2, h3, h4⟩
  · rw [cell_of_row _ _ _ _ _ _ h1]; rfl
  · rw [cell_of_row _ _ _ _ _ _ h1]; rfl
  · simp [World.frozen?, h1]

theorem Rd.drop {B : Nat} {w : World} {b off cap k : Nat} {l : List UInt8} (h1 : l.length ≤ cap) (h2 : cap ≤ maxLen) (h3 : b < B) (hc : ∀ i, i < l.length → w.cell? ⟨b, off + i, none⟩ = some (bv (l.getD i 0))) (hk : k ≤ l.length) :
    Rd B w (.slice (some ⟨b, off + k, none⟩) (l.length - k) (cap - k)) (l.drop k) := by
  refine .inr ⟨b, off + k, cap - k, by rw [List.length_drop], by rw [List.length_drop]; omega, by omega, h3, fun i hi => ?_⟩
  rw [List.length_drop] at hi
  have := hc (k + i) (by omega)
  rw [← Nat.add_assoc] at this
  rw [this]
  simp [List.getD_eq_getElem?_getD, List.getElem?_drop]

set_option maxRecDepth 100000 in
set_option maxHeartbeats 400000 in
theorem rest_any {w : World} {c at' : Nat} {l : List UInt8} (h : Cur w c l at') :
    Calls Tryd.prog 50 #[.pointer (some ⟨c, 0, none⟩)] w (RestPost w c (l.drop at')) := by
  obtain ⟨v, hc0, hc1, _, hr, hle, hm⟩ := h.cells
  rcases hr with ⟨_ | ad, rfl, rfl⟩ | ⟨b, off, cap, rfl, h1, h2, h3, hc⟩
  · obtain rfl : at' = 0 := by simpa using hle
    clear hle hm
    go_enter Tryd.func50, Tryd.ntmps50
    go_wp2
    go_quiet (fail)
    go_wp2
    go_ret
    exact ⟨_, rfl, .inl ⟨_, rfl, rfl⟩, _, rfl⟩
  · obtain rfl : at' = 0 := by simpa using hle
    clear hle hm
    go_enter Tryd.func50, Tryd.ntmps50
    go_wp2
    go_quiet (fail)
    go_wp2
    go_ret
    exact ⟨_, rfl, .inl ⟨_, rfl, rfl⟩, _, rfl⟩
  · obtain ⟨n, hn⟩ : ∃ n, n = l.length := ⟨_, rfl⟩
    unfold maxLen at h2
    rw [← hn] at hc0 hle h1 hm
    have HN := Lib.hid hn
    have HC := Lib.hid hc
    clear hn hc
    go_enter Tryd.func50, Tryd.ntmps50
    go_wp2
    go_quiet (fail)
    go_wp2
    · go_ret
      have he : cap = at' := by assumption
      have hn := HN.out
      have hd : (l.drop at').length = 0 := by rw [List.length_drop]; omega
      refine ⟨_, rfl, .inr ⟨b, off, 0, ?_, by omega, by unfold maxLen; omega, h3, fun i hi => absurd hi (by omega)⟩, _, rfl⟩
      rw [hd, show n - at' = 0 from by omega]; rfl
    · go_ret
      have hn := HN.out
      have := Rd.drop (hn ▸ h1) (by unfold maxLen; omega) h3 HC.out (hn ▸ hle)
      rw [← hn] at this
      exact ⟨_, rfl, this, _, rfl⟩

set_option maxRecDepth 100000 in
theorem rest_nil (w : World) : Calls Tryd.prog 50 #[.pointer none] w fun e w' => e = .returned (.slice none 0 0) ∧ w = w' := by
  go_enter Tryd.func50, Tryd.ntmps50
  go_wp2
  go_ret
  exact ⟨rfl, rfl⟩

set_option maxRecDepth 100000 in
theorem at_any {w : World} {c at' : Nat} {l : List UInt8} (h : Cur w c l at') :
    Calls Tryd.prog 31 #[.pointer (some ⟨c, 0, none⟩)] w fun e w' => e = .returned (.int .i64 at') ∧ w = w' := by
  obtain ⟨v, _, hc1, _, _, _, _⟩ := h.cells
  clear h
  go_enter Tryd.func31, Tryd.ntmps31
  go_wp2
  go_ret
  exact ⟨rfl, rfl⟩

set_option maxRecDepth 100000 in
theorem left_any {w : World} {c at' : Nat} {l : List UInt8} (h : Cur w c l at') :
    Calls Tryd.prog 49 #[.pointer (some ⟨c, 0, none⟩)] w fun e w' => e = .returned (.int .i64 (l.length - at' : Nat)) ∧ ∃ n, w' = w.drewN n := by
  obtain ⟨n, hn⟩ : ∃ n, n = l.length - at' := ⟨_, rfl⟩
  rw [← hn]
  have HN := Lib.hid hn
  clear hn
  go_enter Tryd.func49, Tryd.ntmps49
  go_wp2_with (go_at_call 50; refine (rest_any h).mono ?_; rintro e w1 ⟨v, rfl, hr, nq, rfl⟩; obtain ⟨ov, cv, rfl, _, _⟩ := hr.form; rw [List.length_drop, ← HN.out]; clear hr)
  go_ret
  exact ⟨rfl, _, rfl⟩

set_option maxRecDepth 100000 in
theorem left_nil (w : World) : Calls Tryd.prog 49 #[.pointer none] w fun e w' => e = .returned (.int .i64 0) ∧ w = w' := by
  go_enter Tryd.func49, Tryd.ntmps49
  go_wp2_with (go_at_call 50; refine (rest_nil _).mono ?_; rintro e w1 ⟨rfl, rfl⟩)
  go_ret
  exact ⟨rfl, rfl⟩

/-- An error of package api: its code; 0 for none. -/
def errV (c : Nat) : Value := if c = 0 then .nilIface else .iface 35 (.int .i64 c)

set_option maxRecDepth 100000 in
theorem end_left {w : World} {c at' : Nat} {l : List UInt8} (h : Cur w c l at') (hl : at' < l.length) :
    Calls Tryd.prog 33 #[.pointer (some ⟨c, 0, none⟩)] w fun e w' => e = .returned (.iface 35 (.int .i64 16)) ∧ ∃ n, w' = w.drewN n := by
  have hp : (0 : Int) < ((l.length - at' : Nat) : Int) := by omega
  go_enter Tryd.func33, Tryd.ntmps33
  go_wp2_with (go_at_call 49; refine (left_any h).mono ?_; rintro e w1 ⟨rfl, nq, rfl⟩)
  go_ret
  exact ⟨rfl, _, rfl⟩

set_option maxRecDepth 100000 in
theorem end_nil (w : World) : Calls Tryd.prog 33 #[.pointer none] w fun e w' => e = .returned .nilIface ∧ w = w' := by
  go_enter Tryd.func33, Tryd.ntmps33
  go_wp2_with (go_at_call 49; refine (left_nil _).mono ?_; rintro e w1 ⟨rfl, rfl⟩)
  go_ret
  exact ⟨rfl, rfl⟩
end Go.Proofs.YtaikdbbakdicgaaDoor
/-
  wire.number and Cursor.Number read the number with which bytes begin, as numGo says.
-/
namespace Go.Proofs.YtaikdbbakdicgaaDoor
open Go.ChangeShapes Go.WideShapes Go.ChangeAt Go.RowKit

/-- Number, size, code of the error: the groups l from the i-th on, x is what the groups before gave. -/
def numGo : Nat → Nat → List UInt8 → Nat × Nat × Nat
  | _, _, [] => (0, 0, 1)
  | i, x, g :: r => if i = 9 ∧ 1 < g.toNat then (0, 0, 2) else if 0 < i ∧ g.toNat = 0 then (0, 0, 3) else
      if g.toNat < 128 then (x + g.toNat % 128 * 128 ^ i, i + 1, 0) else numGo (i + 1) (x + g.toNat % 128 * 128 ^ i) r
theorem go_long {i x : Nat} {g : UInt8} {r : List UInt8} (h : i = 9 ∧ 1 < g.toNat) : numGo i x (g :: r) = (0, 0, 2) := by rw [numGo, if_pos h]
theorem go_min {i x : Nat} {g : UInt8} {r : List UInt8} (h : ¬ (i = 9 ∧ 1 < g.toNat)) (h2 : 0 < i ∧ g.toNat = 0) : numGo i x (g :: r) = (0, 0, 3) := by rw [numGo, if_neg h, if_pos h2]
theorem go_last {i x : Nat} {g : UInt8} {r : List UInt8} (h : ¬ (i = 9 ∧ 1 < g.toNat)) (h2 : ¬ (0 < i ∧ g.toNat = 0)) (h3 : g.toNat < 128) : numGo i x (g :: r) = (x + g.toNat % 128 * 128 ^ i, i + 1, 0) := by rw [numGo, if_neg h, if_neg h2, if_pos h3]
theorem go_next {i x : Nat} {g : UInt8} {r : List UInt8} (h : ¬ (i = 9 ∧ 1 < g.toNat)) (h2 : ¬ (0 < i ∧ g.toNat = 0)) (h3 : ¬ g.toNat < 128) : numGo i x (g :: r) = numGo (i + 1) (x + g.toNat % 128 * 128 ^ i) r := by rw [numGo, if_neg h, if_neg h2, if_neg h3]
theorem drop_at (l : List UInt8) (k : Nat) (h : k < l.length) : l.drop k = l.getD k 0 :: l.drop (k + 1) := by
  rw [List.drop_eq_getElem_cons h]; simp [List.getD_eq_getElem?_getD, List.getElem?_eq_getElem h]
def num (l : List UInt8) : Nat × Nat × Nat := numGo 0 0 l

def NumPost (w : World) (r : Nat × Nat × Nat) (e : Ending) (w' : World) : Prop := e = .returned (.tuple #[.int .u64 r.1, .int .i64 r.2.1, errV r.2.2]) ∧ w = w'

set_option maxRecDepth 100000 in
set_option maxHeartbeats 800000 in
theorem number_any {B : Nat} {w : World} {vb : Value} {l : List UInt8} (hr : Rd B w vb l) :
    Calls Tryd.prog 51 #[vb] w (NumPost w (num l)) := by
  rcases hr with ⟨oa, rfl, rfl⟩ | ⟨b, off, cap, rfl, h1, h2, h3, hc⟩
  · go_enter Tryd.func51, Tryd.ntmps51
    go_wp2
    go_loop [2, 3, 4, 9] (fun xv sv ev iv => iv = .int .i64 0 ∧ sv = .int .i64 0 ∧ ev = .nilIface ∧ xv = .int .u64 0) (fun _ _ _ iv => 0)
    case atStart => exact ⟨rfl, rfl, rfl, rfl⟩
    case round =>
      obtain ⟨rfl, rfl, rfl, rfl⟩ := hrel
      go_wp2
      go_ret3
      exact ⟨rfl, rfl⟩
  · unfold maxLen at h2
    have hlen : l.length ≤ 9223372036854775807 := by omega
    go_enter Tryd.func51, Tryd.ntmps51
    go_wp2
    go_loop [2, 3, 4, 9] (fun xv sv ev iv => ∃ (k x : Nat), k ≤ l.length ∧ iv = .int .i64 k ∧ sv = .int .i64 0 ∧ ev = .nilIface ∧ xv = .int .u64 x ∧ Hid (x < 128 ^ k ∧ num l = numGo k x (l.drop k)) ∧ k ≤ 9)
      (fun _ _ _ iv => l.length - (intOf iv).toNat)
    case atStart => exact ⟨0, 0, Nat.zero_le _, rfl, rfl, rfl, rfl, ⟨by decide, rfl⟩, by omega⟩
    case round =>
      obtain ⟨k, x, hk, rfl, rfl, rfl, rfl, HP, hk9⟩ := hrel
      by_cases hlt : k < l.length
      · obtain ⟨g, HG, hg⟩ : ∃ g : UInt8, Hid (num l = numGo k x (g :: l.drop (k + 1))) ∧ w.cell? ⟨b, off + k, none⟩ = some (.int .u8 g.toNat) :=
          ⟨_, by have := HP.out.2; rw [drop_at l k hlt] at this; exact this, hc k hlt⟩
        have hi1 : (k : Int) < l.length := by omega
        have hi0 : (0 : Int) ≤ k := by omega
        have hg0 : (0 : Int) ≤ (g.toNat : Int) := by omega
        have hgn := g.toNat_lt
        have hg1 : (g.toNat : Int) < 256 := by omega
        clear hc h1 h2 h3
        by_cases hA : k = 9 ∧ 1 < g.toNat
        · obtain ⟨rfl, hA⟩ := hA
          have hA' : (1 : Int) < g.toNat := by omega
          have hn := HG.out.trans (go_long ⟨rfl, hA⟩)
          have HN := Lib.hid hn
          clear hn
          go_wp2
          go_ret3
          exact ⟨by rw [HN.out]; rfl, rfl⟩
        · by_cases hB : 0 < k ∧ g.toNat = 0
          · have hn := HG.out.trans (go_min hA hB)
            have HN := Lib.hid hn
            clear hn
            obtain ⟨hB1, hB2⟩ := hB
            have hB1' : (0 : Int) < k := by omega
            have t1 : ((k : Int) == 9 && decide ((1 : Int) < g.toNat)) = false := by simp; omega
            have t2 : ((g.toNat : Int) == 0) = true := by rw [beq_iff_eq]; omega
            have hng : ¬ (1 : Int) < g.toNat := by omega
            have hng' : decide ((1 : Int) < g.toNat) = false := by simpa using hng
            clear hA hB2
            go_wp2
            all_goals go_ret3
            all_goals exact ⟨by rw [HN.out]; rfl, rfl⟩
          · obtain ⟨y, HY, hy⟩ : ∃ y : Nat, Hid (y = x + g.toNat % 128 * 128 ^ k) ∧ bits .or .u64 (x : Int) (IntKind.u64.wrap (IntKind.u64.wrap (bits .and .u8 (g.toNat : Int) 127) * 2 ^ (7 * k))) = (y : Int) :=
              ⟨_, rfl, shl_or HP.out.1 hk9 hgn (by omega)⟩
            have hng : k = 9 → ¬ 1 < g.toNat := fun e h => hA ⟨e, h⟩
            have hnz : 0 < k → ¬ g.toNat = 0 := fun e h => hB ⟨e, h⟩
            by_cases hC : g.toNat < 128
            · have hn := HG.out.trans (go_last hA hB hC)
              rw [← HY.out] at hn
              have HN := Lib.hid hn
              clear hn hA hB
              have hC' : (g.toNat : Int) < 128 := by omega
              have HNG := Lib.hid hng
              have HNZ := Lib.hid hnz
              clear hng hnz
              by_cases h9 : k = 9
              · have t0 : ((k : Int) == 9) = true := by rw [beq_iff_eq]; omega
                have t1 : ¬ (1 : Int) < g.toNat := by have := HNG.out h9; omega
                have t1' : decide ((1 : Int) < g.toNat) = false := by simpa using t1
                have t2 : ((g.toNat : Int) == 0) = false := by rw [beq_eq_false_iff_ne]; have := HNZ.out (by omega); omega
                have t3 : (0 : Int) < k := by omega
                clear h9
                go_wp2
                all_goals go_ret3
                all_goals exact ⟨by rw [HN.out]; rfl, rfl⟩
              · have t0 : ((k : Int) == 9) = false := by rw [beq_eq_false_iff_ne]; omega
                clear h9
                by_cases h0 : 0 < k
                · have t2 : ((g.toNat : Int) == 0) = false := by rw [beq_eq_false_iff_ne]; have := HNZ.out h0; omega
                  have t3 : (0 : Int) < k := by omega
                  go_wp2
                  all_goals go_ret3
                  all_goals exact ⟨by rw [HN.out]; rfl, rfl⟩
                · have t3 : ¬ (0 : Int) < k := by omega
                  have t3' : decide ((0 : Int) < k) = false := by simpa using t3
                  go_wp2
                  all_goals go_ret3
                  all_goals exact ⟨by rw [HN.out]; rfl, rfl⟩
            · have hk8 : k ≠ 9 := fun e => hA ⟨e, by omega⟩
              have hn := HG.out.trans (go_next hA hB hC)
              rw [← HY.out] at hn
              have HN := Lib.hid hn
              have hyl : y < 128 ^ (k + 1) := by rw [HY.out]; exact grp_next HP.out.1
              have HYL := Lib.hid hyl
              have hC' : (128 : Int) ≤ g.toNat := by omega
              have t1 : ((k : Int) == 9) = false := by rw [beq_eq_false_iff_ne]; omega
              have t2 : ((g.toNat : Int) == 0) = false := by rw [beq_eq_false_iff_ne]; omega
              clear hA hB hC hn hng hnz hyl
              go_wp2
              all_goals
                go_round
                case rel => exact ⟨k + 1, y, by omega, by go_num, rfl, rfl, rfl, ⟨HYL.out, HN.out⟩, by omega⟩
                case measure => simp [intOf]; omega
      · obtain rfl : k = l.length := by omega
        have hn : num l = (0, 0, 1) := by have := HP.out.2; rw [List.drop_length] at this; exact this
        have HN := Lib.hid hn
        clear hn hc
        go_wp2
        go_ret3
        exact ⟨by rw [HN.out]; rfl, rfl⟩
end Go.Proofs.YtaikdbbakdicgaaDoor
/-
  The method Cursor.Number reads the number at the cursor and goes on behind it; where there is none the cursor stays.
-/
namespace Go.Proofs.YtaikdbbakdicgaaDoor
open Go.ChangeShapes Go.WideShapes Go.ChangeAt Go.RowKit

theorem numGo_size : ∀ (l : List UInt8) (i x : Nat), (numGo i x l).2.2 = 0 → (numGo i x l).2.1 ≤ i + l.length := by
  intro l
  induction l with
  | nil => intro i x h; simp [numGo] at h
  | cons g r ih =>
    intro i x h
    by_cases hA : i = 9 ∧ 1 < g.toNat
    · rw [go_long hA] at h; simp at h
    · by_cases hB : 0 < i ∧ g.toNat = 0
      · rw [go_min hA hB] at h; simp at h
      · by_cases hC : g.toNat < 128
        · rw [go_last hA hB hC]; simp only [List.length_cons]; omega
        · rw [go_next hA hB hC] at h ⊢
          have := ih _ _ h
          simp only [List.length_cons]; omega
theorem numGo_bad : ∀ (l : List UInt8) (i x : Nat), (numGo i x l).2.2 ≠ 0 → (numGo i x l).1 = 0 ∧ (numGo i x l).2.1 = 0 := by
  intro l
  induction l with
  | nil => intro i x h; simp [numGo]
  | cons g r ih =>
    intro i x h
    by_cases hA : i = 9 ∧ 1 < g.toNat
    · rw [go_long hA]; simp
    · by_cases hB : 0 < i ∧ g.toNat = 0
      · rw [go_min hA hB]; simp
      · by_cases hC : g.toNat < 128
        · rw [go_last hA hB hC] at h; simp at h
        · rw [go_next hA hB hC] at h ⊢
          exact ih _ _ h
theorem num_size (l : List UInt8) (h : (num l).2.2 = 0) : (num l).2.1 ≤ l.length := by have := numGo_size l 0 0 h; unfold num; omega

/-- What Put writes is read again as the number, whatever follows. -/
theorem numGo_put : ∀ (n x i acc : Nat) (r : List UInt8), i + n = 9 → x < 2 * 128 ^ n → (0 < i → 0 < x) → numGo i acc (put x ++ r) = (acc + x * 128 ^ i, i + (put x).length, 0) := by
  intro n
  induction n with
  | zero =>
    intro x i acc r hi hx hp
    have hx2 : x < 2 := by simpa using hx
    have e : (UInt8.ofNat x).toNat = x := by rw [UInt8.toNat_ofNat']; omega
    rw [put_lt (by omega), List.cons_append, go_last (by rw [e]; omega) (by rw [e]; omega) (by rw [e]; omega), e, Nat.mod_eq_of_lt (by omega)]
    rfl
  | succ n ih =>
    intro x i acc r hi hx hp
    by_cases h : x < 128
    · have e : (UInt8.ofNat x).toNat = x := by rw [UInt8.toNat_ofNat']; omega
      rw [put_lt h, List.cons_append, go_last (by rw [e]; omega) (by rw [e]; omega) (by rw [e]; omega), e, Nat.mod_eq_of_lt (by omega)]
      rfl
    · have e : (pb x).toNat = x % 128 + 128 := by unfold pb; rw [UInt8.toNat_ofNat']; omega
      rw [put_ge h, List.cons_append, go_next (by rw [e]; omega) (by rw [e]; omega) (by rw [e]; omega), e]
      rw [ih (x / 128) (i + 1) _ r (by omega) (by rw [Nat.pow_succ] at hx; omega) (by omega)]
      have e2 : (x % 128 + 128) % 128 = x % 128 := by omega
      rw [e2, List.length_cons]
      refine Prod.ext ?_ (Prod.ext (by simp only []; omega) rfl)
      show acc + x % 128 * 128 ^ i + x / 128 * 128 ^ (i + 1) = acc + x * 128 ^ i
      rw [Nat.pow_succ]
      have h1 : x / 128 * (128 ^ i * 128) = (x / 128 * 128) * 128 ^ i := by
        rw [Nat.mul_comm (128 ^ i) 128, Nat.mul_assoc]
      rw [h1, Nat.add_assoc, ← Nat.add_mul]
      congr 2
      omega
theorem num_put {x : Nat} (h : x < lim64) (r : List UInt8) : num (put x ++ r) = (x, (put x).length, 0) := by
  unfold num
  rw [numGo_put 9 x 0 0 r rfl (by unfold lim64 at h; omega) (by omega)]
  simp
/-- No beginning of what Put writes is a number. -/
theorem numGo_short : ∀ (n x i acc k : Nat), i + n = 9 → x < 2 * 128 ^ n → k < (put x).length → numGo i acc ((put x).take k) = (0, 0, 1) := by
  intro n
  induction n with
  | zero =>
    intro x i acc k hi hx hk
    have hx2 : x < 2 := by simpa using hx
    rw [put_lt (by omega)] at hk ⊢
    obtain rfl : k = 0 := by simpa using hk
    rfl
  | succ n ih =>
    intro x i acc k hi hx hk
    by_cases h : x < 128
    · rw [put_lt h] at hk ⊢
      obtain rfl : k = 0 := by simpa using hk
      rfl
    · rw [put_ge h] at hk ⊢
      cases k with
      | zero => rfl
      | succ k =>
        have e : (pb x).toNat = x % 128 + 128 := by unfold pb; rw [UInt8.toNat_ofNat']; omega
        rw [List.take_succ_cons, go_next (by rw [e]; omega) (by rw [e]; omega) (by rw [e]; omega)]
        exact ih (x / 128) (i + 1) _ k (by omega) (by rw [Nat.pow_succ] at hx; omega) (by simpa using hk)
theorem num_short {x k : Nat} (h : x < lim64) (hk : k < (put x).length) : num ((put x).take k) = (0, 0, 1) :=
  numGo_short 9 x 0 0 k rfl (by unfold lim64 at h; omega) hk

def NumberPost (w : World) (c : Nat) (l : List UInt8) (at' : Nat) (e : Ending) (w' : World) : Prop :=
  e = .returned (.tuple #[.int .u64 (num (l.drop at')).1, errV (num (l.drop at')).2.2]) ∧ Cur w' c l (at' + (num (l.drop at')).2.1) ∧ w.grownBy w' (some c)

theorem grown_set (w : World) (n c o : Nat) (v : Value) : w.grownBy ((w.drewN n).setCell ⟨c, o, none⟩ v) (some c) :=
  ⟨rfl, rfl, rfl, by simp [World.setCell], fun k _ hk => by
    have := Below.heap_setCell (w.drewN n) ⟨c, o, none⟩ v k (fun e => hk (by rw [e]))
    rw [this]; rfl⟩
theorem grown_drew (w : World) (n : Nat) (r : Option Nat) : w.grownBy (w.drewN n) r := ⟨rfl, rfl, rfl, Nat.le_refl _, fun _ _ _ => rfl⟩

theorem Cur.moved {w : World} {c at' n : Nat} {l : List UInt8} (h : Cur w c l at') (m : Nat) (hm : m ≤ l.length) : Cur ((w.drewN n).setCell ⟨c, 1, none⟩ (.int .i64 m)) c l m := by
  obtain ⟨v, h1, h2, _, h4⟩ := h
  refine ⟨v, ?_, ?_, hm, h4⟩
  · have h1' : (w.drewN n).heap[c]? = _ := h1
    simp only [World.setCell, Array.getElem?_modify, h1']
    simp
  · rcases h2 with h2 | ⟨b, off, cap, hv, g1, g2, g3, hc⟩
    · exact .inl h2
    · refine .inr ⟨b, off, cap, hv, g1, g2, g3, fun i hi => ?_⟩
      rw [World.cell?_of_block (Below.heap_setCell (w.drewN n) ⟨c, 1, none⟩ _ b (by show b ≠ c; omega))]
      exact hc i hi

set_option maxRecDepth 100000 in
set_option maxHeartbeats 800000 in
theorem Number_any {w : World} {c at' : Nat} {l : List UInt8} (h : Cur w c l at') :
    Calls Tryd.prog 32 #[.pointer (some ⟨c, 0, none⟩)] w (NumberPost w c l at') := by
  obtain ⟨r, hr⟩ : ∃ r, r = num (l.drop at') := ⟨_, rfl⟩
  obtain ⟨v, _, hc1, hf1, _, hle, hm⟩ := h.cells
  by_cases h0 : r.2.2 = 0
  · have hv : errV r.2.2 = .nilIface := by rw [h0]; rfl
    have hsz : r.2.1 + at' ≤ l.length := by
      have := num_size (l.drop at') (by rw [← hr]; exact h0)
      rw [List.length_drop, ← hr] at this; omega
    have hsz2 : r.2.1 ≤ l.length := by omega
    have HR := Lib.hid hr
    have HV := Lib.hid hv
    have H0 := Lib.hid h0
    obtain ⟨x, hx⟩ : ∃ x, x = r.1 := ⟨_, rfl⟩
    obtain ⟨s, hs⟩ : ∃ s, s = r.2.1 := ⟨_, rfl⟩
    rw [← hs] at hsz hsz2
    have HX := Lib.hid hx
    have HS := Lib.hid hs
    clear hr hv h0 hx hs
    go_enter Tryd.func32, Tryd.ntmps32
    go_wp2_with (first | (go_at_call 50; refine (rest_any h).mono ?_; rintro e w1 ⟨v1, rfl, hr1, nq, rfl⟩) | (go_at_call 51; refine (number_any (by assumption)).mono ?_; rintro e w1 ⟨rfl, rfl⟩; rw [← HR.out, HV.out, ← HX.out, ← HS.out]))
    go_ret2
    refine ⟨by rw [← HR.out, HV.out, ← HX.out]; rfl, ?_, grown_set _ _ _ _ _⟩
    rw [← HR.out, ← HS.out]
    exact h.moved (n := nq) (at' + s) (by omega)
  · have hv : errV r.2.2 = .iface 35 (.int .i64 r.2.2) := by unfold errV; rw [if_neg h0]
    obtain ⟨hb1, hb2⟩ := numGo_bad (l.drop at') 0 0 (by rw [hr] at h0; exact h0)
    have hb1' : r.1 = 0 := by rw [hr]; exact hb1
    have hb2' : r.2.1 = 0 := by rw [hr]; exact hb2
    have HR := Lib.hid hr
    have HV := Lib.hid hv
    have H1 := Lib.hid hb1'
    have H2 := Lib.hid hb2'
    obtain ⟨k, hk⟩ : ∃ k, k = r.2.2 := ⟨_, rfl⟩
    have HK := Lib.hid hk
    clear hr hv h0 hb1 hb2 hb1' hb2' hk
    go_enter Tryd.func32, Tryd.ntmps32
    go_wp2_with (first | (go_at_call 50; refine (rest_any h).mono ?_; rintro e w1 ⟨v1, rfl, hr1, nq, rfl⟩) | (go_at_call 51; refine (number_any (by assumption)).mono ?_; rintro e w1 ⟨rfl, rfl⟩; rw [← HR.out, HV.out, H1.out, H2.out, ← HK.out]))
    go_ret2
    refine ⟨by rw [← HR.out, HV.out, H1.out, ← HK.out]; rfl, ?_, grown_drew _ _ _⟩
    rw [← HR.out, H2.out]
    obtain ⟨v', g1, g2, g3, g4⟩ := h
    exact ⟨v', g1, g2.below (w' := w.drewN nq) ⟨rfl, rfl, rfl, Nat.le_refl _, fun _ _ => rfl⟩ (Nat.le_refl _), g3, g4⟩
end Go.Proofs.YtaikdbbakdicgaaDoor
/-
  Plain facts on numbers read from bytes: how many bytes are read, and that they are those of the number.
-/
namespace Go.Proofs.YtaikdbbakdicgaaDoor
open Go.ChangeShapes Go.WideShapes Go.ChangeAt Go.RowKit
set_option linter.unusedVariables false

theorem numGo_at : ∀ (l : List UInt8) (i x : Nat), i ≤ 9 → (numGo i x l).2.2 = 0 → i < (numGo i x l).2.1 ∧ (numGo i x l).2.1 ≤ i + l.length ∧ (numGo i x l).2.1 ≤ 10
  | [], i, x, _, h => by simp [numGo] at h
  | g :: r, i, x, hi, h => by
    by_cases h1 : i = 9 ∧ 1 < g.toNat
    · rw [go_long h1] at h; cases h
    · by_cases h2 : 0 < i ∧ g.toNat = 0
      · rw [go_min h1 h2] at h; cases h
      · by_cases h3 : g.toNat < 128
        · rw [go_last h1 h2 h3]
          simp; omega
        · rw [go_next h1 h2 h3] at h ⊢
          have := numGo_at r (i + 1) _ (by omega) h
          simp only [List.length_cons]
          omega
theorem num_at {l : List UInt8} (h : (num l).2.2 = 0) : 0 < (num l).2.1 ∧ (num l).2.1 ≤ l.length ∧ (num l).2.1 ≤ 10 := by
  have := numGo_at l 0 0 (by omega) h
  unfold num
  omega
theorem numGo_back : ∀ (l : List UInt8) (i acc : Nat), (numGo i acc l).2.2 = 0 → ∃ x, numGo i acc l = (acc + x * 128 ^ i, i + (put x).length, 0) ∧ l.take (put x).length = put x ∧ (0 < i → 0 < x)
  | [], i, acc, h => by simp [numGo] at h
  | g :: r, i, acc, h => by
    by_cases h1 : i = 9 ∧ 1 < g.toNat
    · rw [go_long h1] at h; cases h
    · by_cases h2 : 0 < i ∧ g.toNat = 0
      · rw [go_min h1 h2] at h; cases h
      · by_cases h3 : g.toNat < 128
        · rw [go_last h1 h2 h3]
          have hp : put g.toNat = [g] := by rw [put_lt h3, UInt8.ofNat_toNat]
          refine ⟨g.toNat, ?_, ?_, fun hi => by omega⟩
          · rw [hp, Nat.mod_eq_of_lt h3]; rfl
          · rw [hp]; rfl
        · rw [go_next h1 h2 h3] at h ⊢
          obtain ⟨x, e, ht, hx⟩ := numGo_back r (i + 1) _ h
          have hx0 := hx (by omega)
          have hg := g.toNat_lt
          have hge : ¬ (g.toNat % 128 + 128 * x) < 128 := by omega
          have hd : (g.toNat % 128 + 128 * x) / 128 = x := by omega
          have hb : pb (g.toNat % 128 + 128 * x) = g := by
            unfold pb
            apply UInt8.toNat_inj.1
            rw [UInt8.toNat_ofNat']
            omega
          have hp : put (g.toNat % 128 + 128 * x) = g :: put x := by rw [put_ge hge, hd, hb]
          refine ⟨g.toNat % 128 + 128 * x, ?_, ?_, fun _ => by omega⟩
          · rw [e, hp]
            have e2 : acc + g.toNat % 128 * 128 ^ i + x * 128 ^ (i + 1) = acc + (g.toNat % 128 + 128 * x) * 128 ^ i := by
              rw [Nat.pow_succ, Nat.add_mul, Nat.add_assoc]
              congr 2
              rw [Nat.mul_comm (128 ^ i) 128, ← Nat.mul_assoc, Nat.mul_comm x 128]
            rw [e2, List.length_cons]
            simp only [Prod.mk.injEq, true_and, and_true]
            omega
          · rw [hp, List.length_cons, List.take_succ_cons, ht]
theorem num_back {l : List UInt8} (h : (num l).2.2 = 0) : l.take (num l).2.1 = put (num l).1 ∧ (num l).2.1 = (put (num l).1).length := by
  obtain ⟨x, e, ht, _⟩ := numGo_back l 0 0 h
  have e' : num l = (x, (put x).length, 0) := by
    unfold num
    rw [e, Nat.pow_zero, Nat.mul_one, Nat.zero_add, Nat.zero_add]
  rw [e']
  exact ⟨ht, rfl⟩
end Go.Proofs.YtaikdbbakdicgaaDoor
/-
  vestryref01.Put returns the groups of the number, in new memory.
-/
namespace Go.Proofs.YtaikdbbakdicgaaDoor
open Go.ChangeShapes Go.WideShapes Go.ChangeAt Go.RowKit

set_option maxRecDepth 100000 in
set_option maxHeartbeats 400000 in
theorem rput (x0 : Nat) (hx : x0 < lim64) (w : World) : Calls Tryd.prog 36 #[.int .u64 x0] w (Owned w (put x0)) := by
  obtain ⟨i0, hi, hz0, hz1, hz2⟩ := info_parts Tryd.info5
  have HX := Lib.hid hx
  clear hx
  go_enter Tryd.func36, Tryd.ntmps36
  go_wp2
  go_loopw [0, 3] (fun xv v wr => ∃ (x : Nat) (acc : List UInt8), Hid (x < lim64) ∧ xv = .int .u64 x ∧ wr.ownsRow w.heap.size 5 1 v acc.length (bvs acc) ∧ Below w.heap.size w wr ∧ Hid (acc ++ put x = put x0))
    (fun xv _ _ => (intOf xv).toNat)
  case atStart => exact ⟨x0, [], HX, rfl, World.ownsRow_nil _ _ _ _, Below.refl _ _, by simp [Hid]⟩
  case round =>
    obtain ⟨x, acc, hxl, rfl, hown, hb, HP⟩ := hrel
    have hal : acc.length ≤ 10 := by
      have h1 := put_len10 HX.out
      rw [← HP.out, List.length_append] at h1; omega
    have hsz := hb.size
    by_cases hlt : x < 128
    · have hlt' : (x : Int) < 128 := by omega
      have h0 : (((x : Int) / 128) == 0) = true := by rw [beq_iff_eq]; omega
      go_wp2_with (at_builtin; refine wpList_append_own _ rfl _ _ 22 rfl w.heap.size 5 i0 (.int .u8 0) 1 1 Tryd.underlying22 hi hz0 hz1 hz2 rfl (by decide) _ _ _ rfl (hown.alloc _) ⟨wr.heap.size, 0, none⟩ 1 1 [.int .u8 ((x : Int) % 128)] rfl rfl ?c1 ?c2 ?c3 ?c4 ?c5 ?_)
      case c1 => exact cell_one_new _ _ _
      case c2 => intro u hu; simp at hu; subst hu; rfl
      case c3 => unfold maxLen; omega
      case c4 => omega
      case c5 => simp; omega
      intro v' w1 hown' hgrow _
      have hb1 := below_append hb hsz (Nat.le_refl _) hown hgrow
      clear hown hgrow
      go_wp2
      go_ret
      refine ⟨v', rfl, ?_, hb1⟩
      rw [← HP.out, put_lt hlt]
      simpa [bvs, low' x hlt] using hown'
    · have hge : 128 ≤ x := by omega
      have hge' : (128 : Int) ≤ x := by omega
      have h0 : (((x : Int) / 128) == 0) = false := by rw [beq_eq_false_iff_ne]; omega
      have hw := wrap_div128 hxl.out
      have hpb := pb_val x
      go_wp2_with (at_builtin; refine wpList_append_own _ rfl _ _ 22 rfl w.heap.size 5 i0 (.int .u8 0) 1 1 Tryd.underlying22 hi hz0 hz1 hz2 rfl (by decide) _ _ _ rfl (hown.alloc _) ⟨wr.heap.size, 0, none⟩ 1 1 [.int .u8 (pb x).toNat] rfl rfl ?d1 ?d2 ?d3 ?d4 ?d5 ?_)
      case d1 => exact cell_one_new _ _ _
      case d2 => intro u hu; simp at hu; subst hu; rfl
      case d3 => unfold maxLen; omega
      case d4 => omega
      case d5 => simp; omega
      intro v' w1 hown' hgrow _
      have hb1 := below_append hb hsz (Nat.le_refl _) hown hgrow
      clear hpb hw hown hgrow
      go_wp2
      go_roundw
      case rel =>
        refine ⟨x / 128, acc ++ [pb x], Nat.lt_of_le_of_lt (Nat.div_le_self _ _) hxl, by rfl, ?_, hb1, ?_⟩
        · simpa [bvs, bv] using hown'
        · show (acc ++ [pb x]) ++ put (x / 128) = put x0
          rw [← HP.out, put_ge (x := x) hlt]; simp
      case measure => simp [intOf]; omega
end Go.Proofs.YtaikdbbakdicgaaDoor
/-
  wire.Put returns the groups of the number, in new memory.
-/
namespace Go.Proofs.YtaikdbbakdicgaaDoor
open Go.ChangeShapes Go.WideShapes Go.ChangeAt Go.RowKit

set_option maxRecDepth 100000 in
set_option maxHeartbeats 400000 in
theorem wput (x0 : Nat) (hx : x0 < lim64) (w : World) : Calls Tryd.prog 24 #[.int .u64 x0] w (Owned w (put x0)) := by
  obtain ⟨i0, hi, hz0, hz1, hz2⟩ := info_parts Tryd.info5
  have HX := Lib.hid hx
  clear hx
  go_enter Tryd.func24, Tryd.ntmps24
  go_wp2
  go_loopw [0, 3] (fun xv v wr => ∃ (x : Nat) (acc : List UInt8), Hid (x < lim64) ∧ xv = .int .u64 x ∧ wr.ownsRow w.heap.size 5 1 v acc.length (bvs acc) ∧ Below w.heap.size w wr ∧ Hid (acc ++ put x = put x0))
    (fun xv _ _ => (intOf xv).toNat)
  case atStart => exact ⟨x0, [], HX, rfl, World.ownsRow_nil _ _ _ _, Below.refl _ _, by simp [Hid]⟩
  case round =>
    obtain ⟨x, acc, hxl, rfl, hown, hb, HP⟩ := hrel
    have hal : acc.length ≤ 10 := by
      have h1 := put_len10 HX.out
      rw [← HP.out, List.length_append] at h1; omega
    have hsz := hb.size
    by_cases hlt : x < 128
    · have hlt' : (x : Int) < 128 := by omega
      go_wp2_with (at_builtin; refine wpList_append_own _ rfl _ _ 22 rfl w.heap.size 5 i0 (.int .u8 0) 1 1 Tryd.underlying22 hi hz0 hz1 hz2 rfl (by decide) _ _ _ rfl (hown.alloc _) ⟨wr.heap.size, 0, none⟩ 1 1 [.int .u8 x] rfl rfl ?c1 ?c2 ?c3 ?c4 ?c5 ?_)
      case c1 => exact cell_one_new _ _ _
      case c2 => intro u hu; simp at hu; subst hu; rfl
      case c3 => unfold maxLen; omega
      case c4 => omega
      case c5 => simp; omega
      intro v' w1 hown' hgrow _
      have hb1 := below_append hb hsz (Nat.le_refl _) hown hgrow
      clear hown hgrow
      go_wp2
      go_ret
      refine ⟨v', rfl, ?_, hb1⟩
      rw [← HP.out, put_lt hlt]
      simpa [bvs, low x hlt] using hown'
    · have hge : 128 ≤ x := by omega
      have hge' : (128 : Int) ≤ x := by omega
      have hor := or128 x
      go_wp2_with (at_builtin; refine wpList_append_own _ rfl _ _ 22 rfl w.heap.size 5 i0 (.int .u8 0) 1 1 Tryd.underlying22 hi hz0 hz1 hz2 rfl (by decide) _ _ _ rfl (hown.alloc _) ⟨wr.heap.size, 0, none⟩ 1 1 [.int .u8 (pb x).toNat] rfl rfl ?d1 ?d2 ?d3 ?d4 ?d5 ?_)
      case d1 => exact cell_one_new _ _ _
      case d2 => intro u hu; simp at hu; subst hu; rfl
      case d3 => unfold maxLen; omega
      case d4 => omega
      case d5 => simp; omega
      intro v' w1 hown' hgrow _
      have hb1 := below_append hb hsz (Nat.le_refl _) hown hgrow
      clear hor hown hgrow
      go_wp2
      go_roundw
      case rel =>
        refine ⟨x / 128, acc ++ [pb x], Nat.lt_of_le_of_lt (Nat.div_le_self _ _) hxl, by rfl, ?_, hb1, ?_⟩
        · simpa [bvs, bv] using hown'
        · show (acc ++ [pb x]) ++ put (x / 128) = put x0
          rw [← HP.out, put_ge (x := x) hlt]; simp
      case measure => simp [intOf]; omega
end Go.Proofs.YtaikdbbakdicgaaDoor
/-
  wire.Text returns the length of the text as a number, then the bytes of the text.
-/
namespace Go.Proofs.YtaikdbbakdicgaaDoor
open Go.ChangeShapes Go.WideShapes Go.ChangeAt Go.RowKit

theorem wrap_size {n : Nat} (h : n < lim64) : IntKind.u64.wrap (n : Int) = (n : Int) := by
  unfold lim64 at h; rw [IntKind.wrap_u64]; omega

end Go.Proofs.YtaikdbbakdicgaaDoor
/-
  A byte slice turned into a string.
-/
namespace Go.Proofs.YtaikdbbakdicgaaDoor
open Go.ChangeShapes Go.WideShapes Go.ChangeAt Go.RowKit

def str (l : List UInt8) : ByteArray := ⟨l.toArray⟩
theorem str_size (l : List UInt8) : (str l).size = l.length := rfl
theorem str_data (s : ByteArray) : str s.data.toList = s := rfl

theorem conv_bytes {B : Nat} {w : World} {oa : Option Addr} {n cap : Nat} {l : List UInt8} (hr : Rd B w (.slice oa n cap) l) :
    (convert 22 9 (.slice oa n cap)).run Tryd.prog w = .ok (.string (str l)) w := by
  rcases hr with ⟨oa', hv, rfl⟩ | ⟨b, off, cap', hv, h1, h2, h3, hc⟩
  · simp only [Value.slice.injEq] at hv
    obtain ⟨rfl, rfl, rfl⟩ := hv
    cases oa with
    | none => exact run_convert_bytes_nil w _ _ Tryd.underlying22 Tryd.underlying5 0 0 _ Tryd.underlying9
    | some a =>
      rw [run_convert_bytes_string w _ _ _ _ 0 0 Tryd.underlying22 Tryd.underlying5 Tryd.underlying9]
      rw [run_bytesToString w a 0 0 [] (by simpa using run_loadCells_list (P := Tryd.prog) w a [] (fun j v hj => by simp at hj))]
      rfl
  · simp only [Value.slice.injEq] at hv
    obtain ⟨rfl, rfl, rfl⟩ := hv
    rw [run_convert_bytes_arg w _ _ Tryd.underlying22 Tryd.underlying5 b off l.length cap (l.map fun x => (x.toNat : Int)) (by simp) (fun i hi => by
      rw [hc i hi]; simp [bv, List.getD_eq_getElem?_getD, List.getElem?_eq_getElem hi]) _ Tryd.underlying9]
    unfold strOfNums str
    congr 3
    congr 1
    rw [List.map_map]
    conv => rhs; rw [← List.map_id l]
    apply List.map_congr_left
    intro x _
    show UInt8.ofNat ((x.toNat : Int)).toNat = x
    rw [Int.toNat_natCast, UInt8.ofNat_toNat]

end Go.Proofs.YtaikdbbakdicgaaDoor
/-
  vestryref01.Join.
-/
namespace Go.Proofs.YtaikdbbakdicgaaDoor
open Go.ChangeShapes Go.WideShapes Go.ChangeAt Go.RowKit

end Go.Proofs.YtaikdbbakdicgaaDoor
/-
  vestryref01.Text; gathers what was in this file before.
-/
namespace Go.Proofs.YtaikdbbakdicgaaDoor
open Go.ChangeShapes Go.WideShapes Go.ChangeAt Go.RowKit

end Go.Proofs.YtaikdbbakdicgaaDoor
/-
  The closures of package base that append one byte to the text that is being made.
-/
namespace Go.Proofs.YtaikdbbakdicgaaDoor
open Go.ChangeShapes Go.WideShapes Go.ChangeAt Go.RowKit

def alpha : ByteArray := ⟨#[65, 66, 67, 68, 69, 70, 71, 72, 73, 74, 75, 76, 77, 78, 79, 80, 81, 82, 83, 84, 85, 86, 87, 88, 89, 90, 97, 98, 99, 100, 101, 102, 103, 104, 105, 106, 107, 108, 109, 110, 111, 112, 113, 114, 115, 116, 117, 118, 119, 120, 121, 122, 48, 49, 50, 51, 52, 53, 54, 55, 56, 57, 45, 95]⟩
def sgn (g : Nat) : UInt8 := alpha.data.toList.getD g 0
def byt (g : Nat) : UInt8 := UInt8.ofNat g

/-- Block tb holds the variable of a text under way: its value owns the bytes acc in a block from base on. -/
def TV (W : World) (tb base : Nat) (acc : List UInt8) : Prop :=
  base ≤ tb ∧ ∃ v, W.heap[tb]? = some (.cells #[v] 22 (0, 0)) ∧ W.ownsRow base 5 1 v acc.length (bvs acc)

/-- Nothing has changed but block tb, rows of bytes from base on, and new blocks. -/
structure Kept (base tb : Nat) (W W' : World) : Prop where
  os : W'.os = W.os
  tape : W'.tape = W.tape
  output : W'.output = W.output
  size : W.heap.size ≤ W'.heap.size
  block : ∀ k, k < W.heap.size → k ≠ tb → (k < base ∨ ¬ ∃ cur fr, W.heap[k]? = some (.cells cur 5 fr)) → W'.heap[k]? = W.heap[k]?

theorem Kept.refl (base tb : Nat) (W : World) : Kept base tb W W := ⟨rfl, rfl, rfl, Nat.le_refl _, fun _ _ _ _ => rfl⟩
theorem Kept.trans {base tb : Nat} {a b c : World} (h : Kept base tb a b) (k : Kept base tb b c) : Kept base tb a c :=
  ⟨k.os.trans h.os, k.tape.trans h.tape, k.output.trans h.output, Nat.le_trans h.size k.size, fun i hi ht hc => by
    have h1 := h.block i hi ht hc
    have h2 := k.block i (Nat.lt_of_lt_of_le hi h.size) ht (by
      rcases hc with hc | hc
      · exact .inl hc
      · right; rw [h1]; exact hc)
    exact h2.trans h1⟩
theorem Kept.below {base tb : Nat} {W W' : World} (h : Kept base tb W W') (hb : base ≤ tb) (hs : base ≤ W.heap.size) : Below base W W' :=
  ⟨h.os, h.tape, h.output, h.size, fun k hk => h.block k (by omega) (by omega) (.inl hk)⟩
theorem Kept.drewN {base tb : Nat} {W W' : World} (h : Kept base tb W W') (n : Nat) : Kept base tb W (W'.drewN n) := h.trans ⟨rfl, rfl, rfl, Nat.le_refl _, fun _ _ _ _ => rfl⟩
theorem Kept.alloc {base tb : Nat} (W : World) (o : Obj) : Kept base tb W (W.alloc o) :=
  ⟨rfl, rfl, rfl, by simp, fun k hk _ _ => Below.heap_alloc W o k hk⟩
theorem Kept.set {base tb : Nat} (W : World) (o : Nat) (u : Value) : Kept base tb W (W.setCell ⟨tb, o, none⟩ u) :=
  ⟨rfl, rfl, rfl, by simp [World.setCell], fun k _ ht _ => Below.heap_setCell W ⟨tb, o, none⟩ u k ht⟩
theorem Kept.grown {base tb : Nat} {W W' : World} {v : Value} {n : Nat} {xs : List Value} (hown : W.ownsRow base 5 1 v n xs) (hg : W.grownBy W' v.ownBlock) : Kept base tb W W' := by
  refine ⟨hg.os, hg.tape, hg.output, hg.size, fun k hk _ hc => hg.block k hk (fun e => ?_)⟩
  rcases hown.2 with ⟨rfl, _⟩ | ⟨g, cap, cur, rfl, hb, hh, _⟩
  · simp [Value.ownBlock] at e
  · simp [Value.ownBlock] at e
    subst e
    rcases hc with hc | hc
    · omega
    · exact hc ⟨_, _, hh⟩

theorem ne_of_type {W : World} {g tb : Nat} {cur : Array Value} {v : Value} (h1 : W.heap[g]? = some (.cells cur 5 (0, 0))) (h2 : W.heap[tb]? = some (.cells #[v] 22 (0, 0))) : g ≠ tb := by
  rintro rfl
  rw [h1] at h2
  simp at h2

/-- The variable behind an append and the store of what it gave. -/
theorem TV.stored {W W1 : World} {tb base : Nat} {acc acc' : List UInt8} {v v' : Value} (hb : base ≤ tb) (hv : W.heap[tb]? = some (.cells #[v] 22 (0, 0))) (hown : W.ownsRow base 5 1 v acc.length (bvs acc))
    (hg : W.grownBy W1 v.ownBlock) (hown1 : W1.ownsRow base 5 1 v' acc'.length (bvs acc')) : TV (W1.setCell ⟨tb, 0, none⟩ v') tb base acc' := by
  have hne : some tb ≠ v.ownBlock := by
    intro e
    rcases hown.2 with ⟨rfl, _⟩ | ⟨g, cap, cur, rfl, _, hh, _⟩
    · simp [Value.ownBlock] at e
    · simp [Value.ownBlock] at e
      exact ne_of_type hh hv e.symm
  have hv1 : W1.heap[tb]? = some (.cells #[v] 22 (0, 0)) := (hg.block tb (Array.getElem?_eq_some_iff.1 hv).1 hne).trans hv
  refine ⟨hb, v', ?_, hown1.1, ?_⟩
  · simp only [World.setCell, Array.getElem?_modify, hv1]; simp
  · rcases hown1.2 with h | ⟨g, cap, cur, rfl, h1, hh, r⟩
    · exact .inl h
    · exact .inr ⟨g, cap, cur, rfl, h1, (Below.heap_setCell W1 ⟨tb, 0, none⟩ _ g (ne_of_type hh hv1)).trans hh, r⟩

def EmitPost (W : World) (tb base : Nat) (acc : List UInt8) (e : Ending) (W' : World) : Prop := e = .returned (.tuple #[]) ∧ TV W' tb base acc ∧ Kept base tb W W'

/-- What an emitting closure needs ahead of its append, and what it has behind its store. -/
theorem emit_step {W : World} {tb base : Nat} {acc : List UInt8} {b : UInt8} {v : Value} (hb : base ≤ tb) (hv : W.heap[tb]? = some (.cells #[v] 22 (0, 0))) (hown : W.ownsRow base 5 1 v acc.length (bvs acc)) (o : Obj) {v' : Value} {W1 : World}
    {n : Nat} (hown1' : W1.ownsRow base 5 1 v' n (bvs (acc ++ [b]))) (hg : (W.alloc o).grownBy W1 v.ownBlock) :
    (W1.cell? ⟨tb, 0, none⟩ = some v ∧ W1.frozen? ⟨tb, 0, none⟩ = false) ∧ TV (W1.setCell ⟨tb, 0, none⟩ v') tb base (acc ++ [b]) ∧ Kept base tb W (W1.setCell ⟨tb, 0, none⟩ v') := by
  have hown1 : W1.ownsRow base 5 1 v' (acc ++ [b]).length (bvs (acc ++ [b])) := by
    obtain rfl : n = (acc ++ [b]).length := by have := hown1'.1; rw [bvs_length] at this; omega
    exact hown1'
  have htb : tb < W.heap.size := (Array.getElem?_eq_some_iff.1 hv).1
  have hv2 : (W.alloc o).heap[tb]? = some (.cells #[v] 22 (0, 0)) := (Below.heap_alloc W o tb htb).trans hv
  have hown2 := hown.alloc o
  have hne : some tb ≠ v.ownBlock := by
    intro e
    rcases hown2.2 with ⟨rfl, _⟩ | ⟨g, cap, cur, rfl, _, hh, _⟩
    · simp [Value.ownBlock] at e
    · simp [Value.ownBlock] at e
      exact ne_of_type hh hv2 e.symm
  have hv1 : W1.heap[tb]? = some (.cells #[v] 22 (0, 0)) := (hg.block tb (Array.getElem?_eq_some_iff.1 hv2).1 hne).trans hv2
  refine ⟨⟨?_, ?_⟩, TV.stored hb hv2 hown2 hg hown1, ((Kept.alloc W o).trans (Kept.grown hown2 hg)).trans (Kept.set W1 0 v')⟩
  · rw [cell_of_row _ _ _ _ _ _ hv1]; rfl
  · simp [World.frozen?, hv1]

theorem byt_val {g : Nat} (h : g < 256) : bv (byt g) = .int .u8 g := by
  unfold bv byt; congr 1; rw [UInt8.toNat_ofNat']; congr 1; omega

set_option maxRecDepth 100000 in
set_option maxHeartbeats 400000 in
theorem emitB {W : World} {tb base g : Nat} {acc : List UInt8} (h : TV W tb base acc) (hg : g < 256) (hl : acc.length ≤ 140737488355000) :
    Calls Tryd.prog 52 #[.int .i64 g, .pointer (some ⟨tb, 0, none⟩)] W (EmitPost W tb base (acc ++ [byt g])) := by
  obtain ⟨hb, v, hv, hown⟩ := h
  have hr := Rd.of_own hown
  obtain ⟨ov, cv, rfl, _, _⟩ := hr.form
  have hc : W.cell? ⟨tb, 0, none⟩ = some (.slice ov acc.length cv) := by rw [cell_of_row _ _ _ _ _ _ hv]; rfl
  have htb : tb < W.heap.size := (Array.getElem?_eq_some_iff.1 hv).1
  have hgi : (0 : Int) ≤ g ∧ (g : Int) < 256 := by omega
  obtain ⟨hg0, hg1⟩ := hgi
  have hrl := rd_lit W [byt g] #[.int .u8 g] (by simp only [bvs, List.map_cons, List.map_nil, byt_val hg]) 1 rfl (by show 1 ≤ maxLen; decide)
  have HV := Lib.hid hv
  clear hv hr
  go_enter Tryd.func52, Tryd.ntmps52
  go_wp2_with (at_builtin; refine app_bytes rfl _ _ rfl rfl (hown.alloc _) rfl hrl ?c1 ?c2 ?_)
  case c1 => simp; omega
  case c2 => simp; omega
  intro v' W1 hown1 hg1'
  obtain ⟨⟨e1, e2⟩, e3, e4⟩ := emit_step hb HV.out hown _ hown1 hg1'
  obtain ⟨ov', cv', rfl, _, _⟩ := (Rd.of_own hown1).form
  have hl1 : (acc ++ [byt g]).length = acc.length + 1 := by simp
  rw [hl1] at e3 e4
  clear hown hown1 hg1' hrl hc HV hl1
  go_wp2
  go_end0
  exact ⟨rfl, e3, e4⟩

theorem sgn_at {g : Nat} : ∀ (hp : g < alpha.size), (alpha[g]'hp).toNat = (sgn g).toNat := by
  intro hp
  unfold sgn
  rw [List.getD_eq_getElem?_getD, List.getElem?_eq_getElem (by exact hp)]
  rfl

/-- Append of one byte, as one step of a region that draws its order. -/
theorem step_app_one {ops : Array Oper} {o : Oper} {a : Act} {w : World} {K : Act → World → Prop} {Q : Exit → Act → World → Prop} {E : Prop} (hgd : o.guard = none) (s x : Operand)
    (ho : o.op = .call { callee := .builtin .append, args := #[s, x], argTypes := #[22, 22] })
    {base n : Nat} {v : Value} {l : List UInt8} {b : UInt8} (hs : a.eval s = v) (hown : w.ownsRow base 5 1 v l.length (bvs l)) (hx : a.eval x = .slice (some ⟨n, 0, none⟩) 1 1) (hc : w.cell? ⟨n, 0, none⟩ = some (bv b))
    (hlen : l.length + 1 ≤ 140737488355328) (hbase : base ≤ w.heap.size)
    (h : ∀ v' w', w'.ownsRow base 5 1 v' (l ++ [b]).length (bvs (l ++ [b])) → w.grownBy w' v.ownBlock → K (a.put o.dst v') w') :
    if Region.wanted o (yielded ops a.tmps) = true then Oper.wp Tryd.prog o a w K Q else E := by
  have hw : Region.wanted o (yielded ops a.tmps) = true := by simp [Region.wanted, hgd]
  rw [if_pos hw]
  obtain ⟨i0, hi, hz0, hz1, hz2⟩ := info_parts Tryd.info5
  refine wp_append_own w s x 22 ho base 5 i0 (.int .u8 0) 1 1 Tryd.underlying22 hi hz0 hz1 hz2 rfl (by decide) v l.length (bvs l) hs hown ⟨n, 0, none⟩ 1 1 [bv b] hx rfl ?_ ?_ (by unfold maxLen; omega) (by omega) hbase ?_
  · intro j u hu
    match j, hu with
    | 0, hu => simp at hu; subst hu; simpa [Addr.add] using hc
  · intro u hu; simp at hu; subst hu; rfl
  · intro v' w' r1 r2 _
    exact h v' w' (by simpa [bvs] using r1) r2

set_option maxRecDepth 100000 in
set_option maxHeartbeats 400000 in
theorem emitS {W : World} {tb base g : Nat} {acc : List UInt8} (h : TV W tb base acc) (hg : g < 64) (hl : acc.length ≤ 140737488355000) :
    Calls Tryd.prog 48 #[.int .i64 g, .pointer (some ⟨tb, 0, none⟩)] W (EmitPost W tb base (acc ++ [sgn g])) := by
  obtain ⟨hb, v, hv, hown⟩ := h
  have hr := Rd.of_own hown
  obtain ⟨ov, cv, rfl, _, _⟩ := hr.form
  have hc : W.cell? ⟨tb, 0, none⟩ = some (.slice ov acc.length cv) := by rw [cell_of_row _ _ _ _ _ _ hv]; rfl
  have htb : tb < W.heap.size := (Array.getElem?_eq_some_iff.1 hv).1
  have hgi : (0 : Int) ≤ g ∧ (g : Int) < 64 := by omega
  obtain ⟨hg0, hg1⟩ := hgi
  have HV := Lib.hid hv
  clear hv hr
  go_enter Tryd.func48, Tryd.ntmps48
  have hcell : ∀ (x : Value) (n : Nat), x = bv (sgn g) → ((W.alloc (.cells #[x] 5)).drewN n).cell? ⟨W.heap.size, 0, none⟩ = some (bv (sgn g)) := by
    intro x n hx
    rw [hx]
    exact cell_of_row _ _ _ #[bv (sgn g)] 5 (0, 0) (heap_alloc_new W _)
  have HC := Lib.hid hcell
  clear hcell
  have hbW : base ≤ W.heap.size := by omega
  have hgs : g < alpha.size := hg
  go_region_law ((refine step_app_one (b := sgn g) (base := base) rfl (.tmp 3) (.tmp 6) rfl rfl (hown.alloc _).drew rfl (HC.out _ 1 (congrArg (fun n : Nat => Value.int .u8 (n : Int)) (sgn_at hgs))) (by omega) (by simp; omega) ?_); intro v' W1 hown1 hg1'; have hgg : (W.alloc _).grownBy W1 _ := ⟨hg1'.os, hg1'.tape, hg1'.output, hg1'.size, hg1'.block⟩; obtain ⟨⟨e1, e2⟩, e3, e4⟩ := emit_step hb HV.out hown _ hown1 hgg; obtain ⟨ov', cv', rfl, _, _⟩ := (Rd.of_own hown1).form; have hl1 : (acc ++ [sgn g]).length = acc.length + 1 := (by simp); rw [hl1] at e3 e4; clear hown1 hg1' hgg)
  all_goals (go_end0; exact ⟨rfl, e3, e4⟩)
end Go.Proofs.YtaikdbbakdicgaaDoor
