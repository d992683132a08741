/-
  Vocabulary for byte slices in memory: what a slice value reads as, and that a world that is as it was below a block keeps it.
-/
import Derived.Test.YtdnmgemjhpkekaaGreatRows
import Derived.Test.YtdnmgemjhpkekaaGreatPlain
import Derived.WalkKit
import Derived.ProofKit
import Derived.OpenShut
import Derived.Below
import Derived.Lib.Hide
import Derived.WalkLawsBesides
import Derived.WalkSpells
namespace Go.Proofs.YtdnmgemjhpkekaaGreat
open Go.ChangeShapes Go.WideShapes Go.ChangeAt Go.RowKit

theorem Tryz.info5 : (Tryz.prog.info? 5).map (fun i => (i.zero, i.size, i.bytes)) = some (some (.int .u8 0), 1, 1) := by kernel_rfl

/-- The slice value v reads, in w, as the bytes l; where it has room it lies in a block below B. -/
def Rd (B : Nat) (w : World) (v : Value) (l : List UInt8) : Prop :=
  (∃ oa, v = .slice oa 0 0 ∧ l = []) ∨
  ∃ b off cap, v = .slice (some ⟨b, off, none⟩) l.length cap ∧ l.length ≤ cap ∧ cap ≤ maxLen ∧ b < B ∧ ∀ i, i < l.length → w.cell? ⟨b, off + i, none⟩ = some (bv (l.getD i 0))

theorem Rd.below {B C : Nat} {w w' : World} {v : Value} {l : List UInt8} (h : Rd B w v l) (hb : Below C w w') (hC : B ≤ C) : Rd B w' v l := by
  rcases h with h | ⟨b, off, cap, hv, h1, h2, h3, hc⟩
  · exact .inl h
  · exact .inr ⟨b, off, cap, hv, h1, h2, h3, fun i hi => (hb.cell (by show b < C; omega)).trans (hc i hi)⟩
theorem Rd.mono {B C : Nat} {w : World} {v : Value} {l : List UInt8} (h : Rd B w v l) (hC : B ≤ C) : Rd C w v l := by
  rcases h with h | ⟨b, off, cap, hv, h1, h2, h3, hc⟩
  · exact .inl h
  · exact .inr ⟨b, off, cap, hv, h1, h2, by omega, hc⟩

theorem bvs_getElem (l : List UInt8) (i : Nat) (h : i < l.length) : (bvs l)[i]? = some (bv (l.getD i 0)) := by
  simp [bvs, List.getElem?_eq_getElem h]

theorem Rd.of_own {base n : Nat} {w : World} {v : Value} {l : List UInt8} (h : w.ownsRow base 5 1 v n (bvs l)) : Rd w.heap.size w v l := by
  obtain rfl : n = l.length := by have := h.1; rw [bvs_length] at this; omega
  rcases h.2 with ⟨hv, hn⟩ | ⟨g, cap, cur, hv, hb, hg, h1, h2, h3, h4⟩
  · exact .inl ⟨none, hv, List.eq_nil_of_length_eq_zero hn⟩
  · refine .inr ⟨g, 0, cap, hv, h1, h2, (Array.getElem?_eq_some_iff.1 hg).1, fun i hi => ?_⟩
    rw [Nat.zero_add, cell_of_row w g i cur 5 (0, 0) hg]
    have := bvs_getElem l i hi
    rw [← h4, List.getElem?_take] at this
    split at this
    · simpa using this
    · cases this

theorem u64_nat {a : Int} (h : (Lit.int .u64 a).wf = true) : ∃ n : Nat, a = n ∧ n < lim64 := by
  have hb : 0 ≤ a ∧ a ≤ 18446744073709551615 := by simpa [Lit.wf, IntKind.min, IntKind.max, IntKind.signed, IntKind.bits] using h
  exact ⟨a.toNat, by omega, by unfold lim64; omega⟩

theorem Rd.take {B : Nat} {w : World} {oa : Option Addr} {n cap k : Nat} {p : List UInt8} (h : Rd B w (.slice oa n cap) p) (hk : k ≤ p.length) : Rd B w (.slice oa k cap) (p.take k) := by
  rcases h with ⟨oa', hv, rfl⟩ | ⟨b, off, cap', hv, h1, h2, h3, hc⟩
  · obtain rfl : k = 0 := by simpa using hk
    simp only [Value.slice.injEq] at hv
    obtain ⟨rfl, _, rfl⟩ := hv
    exact .inl ⟨_, rfl, rfl⟩
  · simp only [Value.slice.injEq] at hv
    obtain ⟨rfl, _, rfl⟩ := hv
    have hl : (p.take k).length = k := by rw [List.length_take]; omega
    refine .inr ⟨b, off, cap, by rw [hl], by omega, h2, h3, fun i hi => ?_⟩
    rw [hc i (by omega)]
    congr 2
    simp [List.getD_eq_getElem?_getD, show i < k from by omega]

/-- The call hands back a slice of the bytes l in a block of its own, and changes nothing that was there. -/
def Owned (w : World) (l : List UInt8) (e : Ending) (w' : World) : Prop := ∃ v, e = .returned v ∧ w'.ownsRow w.heap.size 5 1 v l.length (bvs l) ∧ Below w.heap.size w w'

theorem below_append {B : Nat} {w wr w1 : World} {base size n e : Nat} {v : Value} {xs : List Value} {o : Obj} (hb : Below B w wr) (hB : B ≤ wr.heap.size) (hbase : B ≤ base) (hown : wr.ownsRow base e size v n xs) (hg : (wr.alloc o).grownBy w1 v.ownBlock) : Below B w w1 :=
  (hb.alloc hB o).grown hg (by simp; omega) (fun k hk => Nat.le_trans hbase (hown.lt k hk).1)
end Go.Proofs.YtdnmgemjhpkekaaGreat
