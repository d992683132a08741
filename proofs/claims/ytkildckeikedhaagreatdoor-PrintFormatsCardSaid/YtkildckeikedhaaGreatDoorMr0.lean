/-
  Plain facts on bytes and on the groups of a number; no program is spoken of.
-/
import Derived.WalkKit
import Derived.Laws.BitsAllLaws
import Derived.Shelf.Strings.Builder1
import Derived.Shelf.Strings.Builder2
import Derived.Shelf.Strings.OnBuilder
import Derived.Shelf.Small.Strs
import Derived.Shelf.Small.Wraps
import Derived.Shelf.Strings.BuilderF
import Derived.Shelf.Strings.BuilderK
import Derived.Shelf.Strings.Builder2Cap
import Derived.Shelf.Strings.Search1
import Derived.Shelf.Strings.Prefix
import Derived.Ground.Names2Prog
import Derived.Shelf.Slices.SearchI
import Derived.Test.YtkildckeikedhaaGreatDoorProg
import Derived.Test.YtkildckeikedhaaGreatDoorRows
import Derived.ProofKit
import Derived.OpenShut
import Derived.Below
import Derived.Lib.Hide
import Derived.WalkLawsBesides
import Derived.WalkSpells
import Derived.Deep.MidRow
import Derived.Laws.Tables
import Derived.Lib.SmallJoins
import Derived.StillTailTactics
import Derived.Lib.Hide
namespace Go.Proofs.YtkildckeikedhaaGreatDoor
theorem hiD {p : Prop} (h : p) : RowKit.Hid p := h
theorem pz0 (l : List Value) (i : Nat) (a : Value) : l.toArray.setIfInBounds i a = (l.set i a).toArray := by simp
theorem pz1 (a b : Value) (l : List Value) : (a :: l).set 0 b = b :: l := rfl
theorem pz2 (a b : Value) (l : List Value) (n : Nat) : (a :: l).set (n + 1) b = a :: l.set n b := rfl
end Go.Proofs.YtkildckeikedhaaGreatDoor
namespace Go.Proofs.YtkildckeikedhaaGreatDoor

def bv (b : UInt8) : Value := .int .u8 b.toNat
def bvs (l : List UInt8) : List Value := l.map bv
def lim64 : Nat := 18446744073709551616
def pb (x : Nat) : UInt8 := UInt8.ofNat (x % 128 + 128)
def put (x : Nat) : List UInt8 := if x < 128 then [UInt8.ofNat x] else pb x :: put (x / 128)
theorem put_lt {x : Nat} (h : x < 128) : put x = [UInt8.ofNat x] := by unfold put; rw [if_pos h]
theorem put_ge {x : Nat} (h : ¬ x < 128) : put x = pb x :: put (x / 128) := by rw [put, if_neg h]
theorem bvs_length (l : List UInt8) : (bvs l).length = l.length := by simp [bvs]
theorem bvs_append (l m : List UInt8) : bvs (l ++ m) = bvs l ++ bvs m := by simp [bvs]

theorem put_len : ∀ (n x : Nat), x < 128 ^ (n + 1) → (put x).length ≤ n + 1
 | 0, x, h => by rw [put_lt (by omega)]; simp
 | n + 1, x, h => by
  by_cases hx : x < 128
  ·rw [put_lt hx]; simp
  ·rw [put_ge hx]
   have := put_len n (x / 128) (by rw [Nat.div_lt_iff_lt_mul (by omega)]; rw [← Nat.pow_succ]; exact h)
   simp only [List.length_cons]; omega
theorem put_len10 {x : Nat} (h : x < lim64) : (put x).length ≤ 10 := put_len 9 x (by unfold lim64 at h; omega)
theorem put_pos (x : Nat) : 1 ≤ (put x).length := by
 by_cases hx : x < 128
 ·rw [put_lt hx]; simp
 ·rw [put_ge hx]; simp
theorem put_mono : ∀ (x y : Nat), x ≤ y → (put x).length ≤ (put y).length := by
 intro x
 induction x using Nat.strongRecOn with
 | _ x ih =>
  intro y h
  by_cases hx : x < 128
  ·rw [put_lt hx]; simpa using put_pos y
  ·rw [put_ge hx, put_ge (x := y) (by omega)]
   have := ih (x / 128) (by omega) (y / 128) (by omega)
   simpa using this
theorem or128 (x : Nat) : bits .or .u8 ((x : Int) % 256) 128 = (((pb x).toNat : Nat) : Int) := by
 have e : ((x : Int) % 256) = ((x % 256 : Nat) : Int) := by omega
 have e2 : (128 : Int) = ((128 : Nat) : Int) := rfl
 rw [e, e2, u8_or_nat _ _ (by omega) (by omega)]
 have h : (x % 256) ||| 128 = x % 128 + 128 := by
  have h1 : x % 256 < 256 := by omega
  have h2 : ∀ n : Fin 256, n.val ||| 128 = n.val % 128 + 128 := by decide +kernel
  have := h2 ⟨x % 256, h1⟩
  simp only at this
  rw [this]; omega
 rw [h]; unfold pb; congr 1
 rw [UInt8.toNat_ofNat']; omega
theorem low (x : Nat) (h : x < 128) : bv (UInt8.ofNat x) = .int .u8 x := by
 unfold bv; congr 1; rw [UInt8.toNat_ofNat']; congr 1; omega
theorem pb_val (x : Nat) : ((x : Int) % 128 + 128) = (((pb x).toNat : Nat) : Int) := by
 unfold pb; rw [UInt8.toNat_ofNat']; omega
theorem wrap_div128 {x : Nat} (h : x < lim64) : IntKind.u64.wrap ((x : Int) / 128) = (x : Int) / 128 := by
 unfold lim64 at h; rw [IntKind.wrap_u64]; omega
theorem low' (x : Nat) (h : x < 128) : bv (UInt8.ofNat x) = .int .u8 ((x : Int) % 128) := by
 rw [low x h]; congr 1; omega
theorem and127 (g : Nat) (h : g < 256) : bits .and .u8 (g : Int) 127 = ((g % 128 : Nat) : Int) := by
 have e2 : (127 : Int) = ((127 : Nat) : Int) := rfl
 rw [e2, u8_and_nat _ _ h (by omega)]
 have h2 : ∀ n : Fin 256, n.val &&& 127 = n.val % 128 := by decide +kernel
 congr 1
 exact h2 ⟨g, h⟩
theorem pow128 (k : Nat) : (2 : Nat) ^ (7 * k) = 128 ^ k := by rw [Nat.pow_mul]
theorem grp_lt {k g : Nat} (hk : k ≤ 9) (h9 : k = 9 → g ≤ 1) : g % 128 * 128 ^ k < 18446744073709551616 := by
 have hm : g % 128 ≤ 127 := by omega
 by_cases h : k = 9
 ·subst h; have := h9 rfl
  have : g % 128 ≤ 1 := by omega
  calc g % 128 * 128 ^ 9 ≤ 1 * 128 ^ 9 := Nat.mul_le_mul_right _ this
   _ < _ := by decide
 ·have hp : 128 ^ k ≤ 128 ^ 8 := Nat.pow_le_pow_right (by decide) (by omega)
  calc g % 128 * 128 ^ k ≤ 127 * 128 ^ 8 := Nat.mul_le_mul hm hp
   _ < _ := by decide
theorem shl_or {x k g : Nat} (hx : x < 128 ^ k) (hk : k ≤ 9) (hg : g < 256) (h9 : k = 9 → g ≤ 1) :
  bits .or .u64 (x : Int) (IntKind.u64.wrap (IntKind.u64.wrap (bits .and .u8 (g : Int) 127) * 2 ^ (7 * k))) = ((x + g % 128 * 128 ^ k : Nat) : Int) := by
 have hlt := grp_lt hk h9
 rw [and127 g hg]
 have w1 : IntKind.u64.wrap ((g % 128 : Nat) : Int) = ((g % 128 : Nat) : Int) := by rw [IntKind.wrap_u64]; omega
 have w2 : (2 : Int) ^ (7 * k) = ((128 ^ k : Nat) : Int) := by rw [← pow128]; simp
 rw [w1, w2, ← Int.natCast_mul]
 have w3 : IntKind.u64.wrap ((g % 128 * 128 ^ k : Nat) : Int) = ((g % 128 * 128 ^ k : Nat) : Int) := by
  rw [IntKind.wrap_u64]
  generalize g % 128 * 128 ^ k = z at *
  omega
 rw [w3]
 have hx64 : x < 18446744073709551616 := by
  have hp : 128 ^ k ≤ 128 ^ 9 := Nat.pow_le_pow_right (by decide) hk
  have : (128 : Nat) ^ 9 < 18446744073709551616 := by decide
  omega
 rw [u64_or_nat _ _ hx64 hlt]
 congr 1
 rw [← pow128] at hx ⊢
 rw [Nat.mul_comm (g % 128), Nat.or_comm, ← Nat.two_pow_add_eq_or_of_lt hx, Nat.add_comm]
theorem grp_next {x k g : Nat} (hx : x < 128 ^ k) : x + g % 128 * 128 ^ k < 128 ^ (k + 1) := by
 rw [Nat.pow_succ]
 have : g % 128 * 128 ^ k ≤ 127 * 128 ^ k := Nat.mul_le_mul_right _ (by omega)
 omega
end Go.Proofs.YtkildckeikedhaaGreatDoor
namespace Go.Proofs
open Go.Shelf
def Tryz.lays169_ren : Go.Shelf.Ren := ⟨fun | 169 => 25 | n => n, fun | 70 => 70 | 9 => 9 | 0 => 0 | 72 => 73 | 37 => 71 | 127 => 103 | 3 => 3 | 5 => 5 | n => n, fun | n => n⟩
theorem Tryz.lays169 : Go.Proofs.Lays.n169 Tryz.prog Tryz.lays169_ren := {
 mixed := by kernel_rfl
 f169 := Tryz.func25.trans (congrArg some (by kernel_rfl))
 t0 := Tryz.underlying0
 a0 := Tryz.isAgg0
 z0 := Tryz.sizeOf0
 v0 := Tryz.zeroValue0
 t3 := Tryz.underlying3
 a3 := Tryz.isAgg3
 z3 := Tryz.sizeOf3
 v3 := Tryz.zeroValue3
 t9 := Tryz.underlying9
 a9 := Tryz.isAgg9
 z9 := Tryz.sizeOf9
 v9 := Tryz.zeroValue9
 t37 := Tryz.underlying71
 a37 := Tryz.isAgg71
 z37 := Tryz.sizeOf71
 v37 := Tryz.zeroValue71
 t70 := Tryz.underlying70
 a70 := Tryz.isAgg70
 z70 := Tryz.sizeOf70
 v70 := Tryz.zeroValue70
 t72 := Tryz.underlying73
 a72 := Tryz.isAgg73
 z72 := Tryz.sizeOf73
 v72 := Tryz.zeroValue73
 t127 := Tryz.underlying103
 a127 := Tryz.isAgg103
 z127 := Tryz.sizeOf103
 v127 := Tryz.zeroValue103 }
theorem Tryz.Builder_Extra_169 : Builder.Extra Tryz.prog Tryz.lays169_ren := {
 sizeBuilder := by kernel_rfl
 liesBuilder := by kernel_rfl
 t5 := Tryz.underlying5
 a5 := Tryz.isAgg5
 z5 := Tryz.sizeOf5
 v5 := Tryz.zeroValue5
 infoByte := by kernel_rfl
 cellsByte := by kernel_rfl
 sizeByte := by kernel_rfl
 neB5 := by decide }
open Go.RowKit in
theorem Tryz.Builder_String (B b : Nat) (l : List UInt8) (w : World) (h : Lib.IsBuilder 73 5 B b (Lib.byteCells l) w) (h0 : l ≠ []) :
  Calls Tryz.prog 25 #[.pointer (some ⟨b, 0, none⟩)] w fun e w' => e = .returned (.string ⟨l.toArray⟩) ∧ Below B w w' := Any.Builder_String Tryz.lays169 Tryz.Builder_Extra_169 B b l w h h0
open Go.RowKit in
theorem Tryz.Builder_String_empty (B b : Nat) (w : World) (h : Lib.IsBuilder 73 5 B b [] w) (hBw : B ≤ w.heap.size) :
  Calls Tryz.prog 25 #[.pointer (some ⟨b, 0, none⟩)] w fun e w' => e = .returned (.string ⟨#[]⟩) ∧ Below B w w' := Any.Builder_String_empty Tryz.lays169 Tryz.Builder_Extra_169 B b w h hBw
open Go.RowKit in
theorem Tryz.Builder_String_any (B b : Nat) (l : List UInt8) (w : World) (h : Lib.IsBuilder 73 5 B b (Lib.byteCells l) w) (hBw : B ≤ w.heap.size) :
  Calls Tryz.prog 25 #[.pointer (some ⟨b, 0, none⟩)] w fun e w' => e = .returned (.string ⟨l.toArray⟩) ∧ Below B w w' := Any.Builder_String_any Tryz.lays169 Tryz.Builder_Extra_169 B b l w h hBw
def Tryz.lays241_ren : Go.Shelf.Ren := ⟨fun | 241 => 97 | 277 => 114 | n => n, fun | 70 => 70 | 3 => 3 | 0 => 0 | 72 => 73 | 37 => 71 | 5 => 5 | n => n, fun | n => n⟩
theorem Tryz.lays241 : Go.Proofs.Lays.n241 Tryz.prog Tryz.lays241_ren := {
 mixed := by kernel_rfl
 f241 := Tryz.func97.trans (congrArg some (by kernel_rfl))
 f277 := Tryz.func114.trans (congrArg some (by kernel_rfl))
 t0 := Tryz.underlying0
 a0 := Tryz.isAgg0
 z0 := Tryz.sizeOf0
 v0 := Tryz.zeroValue0
 t3 := Tryz.underlying3
 a3 := Tryz.isAgg3
 z3 := Tryz.sizeOf3
 v3 := Tryz.zeroValue3
 t37 := Tryz.underlying71
 a37 := Tryz.isAgg71
 z37 := Tryz.sizeOf71
 v37 := Tryz.zeroValue71
 t70 := Tryz.underlying70
 a70 := Tryz.isAgg70
 z70 := Tryz.sizeOf70
 v70 := Tryz.zeroValue70
 t72 := Tryz.underlying73
 a72 := Tryz.isAgg73
 z72 := Tryz.sizeOf73
 v72 := Tryz.zeroValue73 }
theorem Tryz.Builder_Extra_241 : Builder.Extra Tryz.prog Tryz.lays241_ren := {
 sizeBuilder := by kernel_rfl
 liesBuilder := by kernel_rfl
 t5 := Tryz.underlying5
 a5 := Tryz.isAgg5
 z5 := Tryz.sizeOf5
 v5 := Tryz.zeroValue5
 infoByte := by kernel_rfl
 cellsByte := by kernel_rfl
 sizeByte := by kernel_rfl
 neB5 := by decide }
open Go.RowKit in
theorem Tryz.Builder_grow_fresh (B b n : Nat) (w : World) (hB : B ≤ b) (hbk : w.heap[b]? = some (.cells #[.pointer (some ⟨b, 0, none⟩), .slice none 0 0] 73 (0, 0))) (hBw : B ≤ w.heap.size) (hn : n ≤ 281474976710656) :
  Calls Tryz.prog 97 #[.pointer (some ⟨b, 0, none⟩), .int .i64 n] w fun e w' => e = .returned (.tuple #[]) ∧ (Lib.BuilderAt 73 5 B b (.pointer (some ⟨b, 0, none⟩)) [] w' ∧ Below B w w') := Any.Builder_grow_fresh Tryz.lays241 Tryz.Builder_Extra_241 B b n w hB hbk hBw hn
def Tryz.lays165_ren : Go.Shelf.Ren := ⟨fun | 165 => 67 | 240 => 41 | 241 => 97 | 276 => 64 | 277 => 114 | n => n, fun | 70 => 70 | 3 => 3 | 0 => 0 | 4 => 4 | 9 => 9 | 20 => 20 | 72 => 73 | 37 => 71 | 164 => 121 | 5 => 5 | n => n, fun | n => n⟩
theorem Tryz.lays165 : Go.Proofs.Lays.n165 Tryz.prog Tryz.lays165_ren := {
 mixed := by kernel_rfl
 f165 := Tryz.func67.trans (congrArg some (by kernel_rfl))
 f240 := Tryz.func41.trans (congrArg some (by kernel_rfl))
 f241 := Tryz.func97.trans (congrArg some (by kernel_rfl))
 f276 := Tryz.func64.trans (congrArg some (by kernel_rfl))
 f277 := Tryz.func114.trans (congrArg some (by kernel_rfl))
 t0 := Tryz.underlying0
 a0 := Tryz.isAgg0
 z0 := Tryz.sizeOf0
 v0 := Tryz.zeroValue0
 t3 := Tryz.underlying3
 a3 := Tryz.isAgg3
 z3 := Tryz.sizeOf3
 v3 := Tryz.zeroValue3
 t4 := Tryz.underlying4
 a4 := Tryz.isAgg4
 z4 := Tryz.sizeOf4
 v4 := Tryz.zeroValue4
 t9 := Tryz.underlying9
 a9 := Tryz.isAgg9
 z9 := Tryz.sizeOf9
 v9 := Tryz.zeroValue9
 t20 := Tryz.underlying20
 a20 := Tryz.isAgg20
 z20 := Tryz.sizeOf20
 v20 := Tryz.zeroValue20
 t37 := Tryz.underlying71
 a37 := Tryz.isAgg71
 z37 := Tryz.sizeOf71
 v37 := Tryz.zeroValue71
 t70 := Tryz.underlying70
 a70 := Tryz.isAgg70
 z70 := Tryz.sizeOf70
 v70 := Tryz.zeroValue70
 t72 := Tryz.underlying73
 a72 := Tryz.isAgg73
 z72 := Tryz.sizeOf73
 v72 := Tryz.zeroValue73
 t164 := Tryz.underlying121
 a164 := Tryz.isAgg121
 z164 := Tryz.sizeOf121
 v164 := Tryz.zeroValue121 }
theorem Tryz.Builder_Extra_165 : Builder.Extra Tryz.prog Tryz.lays165_ren := {
 sizeBuilder := by kernel_rfl
 liesBuilder := by kernel_rfl
 t5 := Tryz.underlying5
 a5 := Tryz.isAgg5
 z5 := Tryz.sizeOf5
 v5 := Tryz.zeroValue5
 infoByte := by kernel_rfl
 cellsByte := by kernel_rfl
 sizeByte := by kernel_rfl
 neB5 := by decide }
open Go.RowKit in
theorem Tryz.Builder_Grow_fresh (B b n : Nat) (w : World) (hB : B ≤ b) (hbk : w.heap[b]? = some (.cells #[.pointer none, .slice none 0 0] 73 (0, 0))) (hBw : B ≤ w.heap.size) (hn : n ≤ 281474976710656) :
  Calls Tryz.prog 67 #[.pointer (some ⟨b, 0, none⟩), .int .i64 n] w fun e w' => e = .returned (.tuple #[]) ∧ (Lib.BuilderAt 73 5 B b (.pointer (some ⟨b, 0, none⟩)) [] w' ∧ Below B w w') := Any.Builder_Grow_fresh Tryz.lays165 Tryz.Builder_Extra_165 B b n w hB hbk hBw hn
def Tryz.lays156_ren : Go.Shelf.Ren := ⟨fun | 156 => 44 | 165 => 67 | 166 => 22 | 169 => 25 | 240 => 41 | 241 => 97 | 276 => 64 | 277 => 114 | n => n, fun | 31 => 75 | 9 => 9 | 3 => 3 | 4 => 4 | 0 => 0 | 20 => 20 | 72 => 73 | 76 => 76 | 70 => 70 | 37 => 71 | 75 => 24 | 127 => 103 | 164 => 121 | 5 => 5 | 80 => 78 | n => n, fun | n => n⟩
theorem Tryz.lays156 : Go.Proofs.Lays.n156 Tryz.prog Tryz.lays156_ren := {
 mixed := by kernel_rfl
 f156 := Tryz.func44.trans (congrArg some (by kernel_rfl))
 f165 := Tryz.func67.trans (congrArg some (by kernel_rfl))
 f166 := Tryz.func22.trans (congrArg some (by kernel_rfl))
 f169 := Tryz.func25.trans (congrArg some (by kernel_rfl))
 f240 := Tryz.func41.trans (congrArg some (by kernel_rfl))
 f241 := Tryz.func97.trans (congrArg some (by kernel_rfl))
 f276 := Tryz.func64.trans (congrArg some (by kernel_rfl))
 f277 := Tryz.func114.trans (congrArg some (by kernel_rfl))
 t0 := Tryz.underlying0
 a0 := Tryz.isAgg0
 z0 := Tryz.sizeOf0
 v0 := Tryz.zeroValue0
 t3 := Tryz.underlying3
 a3 := Tryz.isAgg3
 z3 := Tryz.sizeOf3
 v3 := Tryz.zeroValue3
 t4 := Tryz.underlying4
 a4 := Tryz.isAgg4
 z4 := Tryz.sizeOf4
 v4 := Tryz.zeroValue4
 t9 := Tryz.underlying9
 a9 := Tryz.isAgg9
 z9 := Tryz.sizeOf9
 v9 := Tryz.zeroValue9
 t20 := Tryz.underlying20
 a20 := Tryz.isAgg20
 z20 := Tryz.sizeOf20
 v20 := Tryz.zeroValue20
 t31 := Tryz.underlying75
 a31 := Tryz.isAgg75
 z31 := Tryz.sizeOf75
 v31 := Tryz.zeroValue75
 t37 := Tryz.underlying71
 a37 := Tryz.isAgg71
 z37 := Tryz.sizeOf71
 v37 := Tryz.zeroValue71
 t70 := Tryz.underlying70
 a70 := Tryz.isAgg70
 z70 := Tryz.sizeOf70
 v70 := Tryz.zeroValue70
 t72 := Tryz.underlying73
 a72 := Tryz.isAgg73
 z72 := Tryz.sizeOf73
 v72 := Tryz.zeroValue73
 t75 := Tryz.underlying24
 a75 := Tryz.isAgg24
 z75 := Tryz.sizeOf24
 v75 := Tryz.zeroValue24
 t76 := Tryz.underlying76
 a76 := Tryz.isAgg76
 z76 := Tryz.sizeOf76
 v76 := Tryz.zeroValue76
 t127 := Tryz.underlying103
 a127 := Tryz.isAgg103
 z127 := Tryz.sizeOf103
 v127 := Tryz.zeroValue103
 t164 := Tryz.underlying121
 a164 := Tryz.isAgg121
 z164 := Tryz.sizeOf121
 v164 := Tryz.zeroValue121 }
theorem Tryz.Builder_Extra_156 : Builder.Extra Tryz.prog Tryz.lays156_ren := {
 sizeBuilder := by kernel_rfl
 liesBuilder := by kernel_rfl
 t5 := Tryz.underlying5
 a5 := Tryz.isAgg5
 z5 := Tryz.sizeOf5
 v5 := Tryz.zeroValue5
 infoByte := by kernel_rfl
 cellsByte := by kernel_rfl
 sizeByte := by kernel_rfl
 neB5 := by decide }
open Go.RowKit in
theorem Tryz.strings_Join_none (a : Option Addr) (c : Nat) (sep : ByteArray) (w : World) :
  Calls Tryz.prog 44 #[.slice a 0 c, .string sep] w fun e w' => e = .returned (.string ⟨#[]⟩) ∧ w' = w := Any.strings_Join_none Tryz.lays156 Tryz.Builder_Extra_156 a c sep w
open Go.RowKit in
theorem Tryz.strings_Join (bk o c : Nat) (xs : List ByteArray) (sep : ByteArray) (w : World) (hcells : ∀ (j : Nat) x, xs[j]? = some x → w.cell? ⟨bk, o + j, none⟩ = some (.string x)) (hbk : bk < w.heap.size) (hN : xs.length ≤ 140737488355328) (hcap : xs.length ≤ c) (hlen : (Lib.join (xs.map (·.data.toList)) sep.data.toList).length ≤ 140737488355328) :
  Calls Tryz.prog 44 #[.slice (some ⟨bk, o, none⟩) xs.length c, .string sep] w fun e w' => e = .returned (.string ⟨(Lib.join (xs.map (·.data.toList)) sep.data.toList).toArray⟩) ∧ Below w.heap.size w w' := Any.strings_Join Tryz.lays156 Tryz.Builder_Extra_156 bk o c xs sep w hcells hbk hN hcap hlen
def Tryz.lays213_ren : Go.Shelf.Ren := ⟨fun | 213 => 132 | 265 => 135 | n => n, fun | 9 => 9 | 3 => 3 | n => n, fun | n => n⟩
theorem Tryz.lays213 : Go.Proofs.Lays.n213 Tryz.prog Tryz.lays213_ren := {
 mixed := by kernel_rfl
 f213 := Tryz.func132.trans (congrArg some (by kernel_rfl))
 f265 := Tryz.func135.trans (congrArg some (by kernel_rfl))
 t3 := Tryz.underlying3
 a3 := Tryz.isAgg3
 z3 := Tryz.sizeOf3
 v3 := Tryz.zeroValue3
 t9 := Tryz.underlying9
 a9 := Tryz.isAgg9
 z9 := Tryz.sizeOf9
 v9 := Tryz.zeroValue9 }
open Go.RowKit in
theorem Tryz.bytealg_CompareString (a b : ByteArray) (w : World) :
  Calls Tryz.prog 132 #[.string a, .string b] w fun e w' => e = .returned (.int .i64 (Lib.compareBytes a.data.toList b.data.toList)) ∧ w' = w := Any.bytealg_CompareString Tryz.lays213 a b w
def Tryz.lays106_ren : Go.Shelf.Ren := ⟨fun | 106 => 121 | 213 => 132 | 265 => 135 | n => n, fun | 9 => 9 | 3 => 3 | n => n, fun | n => n⟩
theorem Tryz.lays106 : Go.Proofs.Lays.n106 Tryz.prog Tryz.lays106_ren := {
 mixed := by kernel_rfl
 f106 := Tryz.func121.trans (congrArg some (by kernel_rfl))
 f213 := Tryz.func132.trans (congrArg some (by kernel_rfl))
 f265 := Tryz.func135.trans (congrArg some (by kernel_rfl))
 t3 := Tryz.underlying3
 a3 := Tryz.isAgg3
 z3 := Tryz.sizeOf3
 v3 := Tryz.zeroValue3
 t9 := Tryz.underlying9
 a9 := Tryz.isAgg9
 z9 := Tryz.sizeOf9
 v9 := Tryz.zeroValue9 }
open Go.RowKit in
theorem Tryz.strings_Compare (a b : ByteArray) (w : World) :
  Calls Tryz.prog 121 #[.string a, .string b] w fun e w' => e = .returned (.int .i64 (Lib.compareBytes a.data.toList b.data.toList)) ∧ w' = w := Any.strings_Compare Tryz.lays106 a b w
def Tryz.lays137_ren : Go.Shelf.Ren := ⟨fun | 137 => 98 | 217 => 115 | 266 => 128 | n => n, fun | 9 => 9 | 5 => 5 | 3 => 3 | n => n, fun | n => n⟩
theorem Tryz.lays137 : Go.Proofs.Lays.n137 Tryz.prog Tryz.lays137_ren := {
 mixed := by kernel_rfl
 f137 := Tryz.func98.trans (congrArg some (by kernel_rfl))
 f217 := Tryz.func115.trans (congrArg some (by kernel_rfl))
 f266 := Tryz.func128.trans (congrArg some (by kernel_rfl))
 t3 := Tryz.underlying3
 a3 := Tryz.isAgg3
 z3 := Tryz.sizeOf3
 v3 := Tryz.zeroValue3
 t5 := Tryz.underlying5
 a5 := Tryz.isAgg5
 z5 := Tryz.sizeOf5
 v5 := Tryz.zeroValue5
 t9 := Tryz.underlying9
 a9 := Tryz.isAgg9
 z9 := Tryz.sizeOf9
 v9 := Tryz.zeroValue9 }
open Go.RowKit in
theorem Tryz.strings_IndexByte (s : ByteArray) (c : Int) (w : World) :
  Calls Tryz.prog 98 #[.string s, .int .u8 c] w fun e w' => e = .returned (.int .i64 (Lib.indexByte s.data.toList c.toNat.toUInt8)) ∧ w' = w := Any.strings_IndexByte Tryz.lays137 s c w
def Tryz.lays215_ren : Go.Shelf.Ren := ⟨fun | 215 => 131 | n => n, fun | 3 => 3 | 4 => 4 | n => n, fun | n => n⟩
theorem Tryz.lays215 : Go.Proofs.Lays.n215 Tryz.prog Tryz.lays215_ren := {
 mixed := by kernel_rfl
 f215 := Tryz.func131.trans (congrArg some (by kernel_rfl))
 t3 := Tryz.underlying3
 a3 := Tryz.isAgg3
 z3 := Tryz.sizeOf3
 v3 := Tryz.zeroValue3
 t4 := Tryz.underlying4
 a4 := Tryz.isAgg4
 z4 := Tryz.sizeOf4
 v4 := Tryz.zeroValue4 }
open Go.RowKit in
theorem Tryz.cmp_isNaN_int (x : Int) (w : World) :
  Calls Tryz.prog 131 #[.int .i64 x] w fun e w' => e = .returned (.bool false) ∧ w' = w := Any.cmp_isNaN_int Tryz.lays215 x w
def Tryz.lays122_ren : Go.Shelf.Ren := ⟨fun | 122 => 120 | 215 => 131 | n => n, fun | 3 => 3 | 4 => 4 | n => n, fun | n => n⟩
theorem Tryz.lays122 : Go.Proofs.Lays.n122 Tryz.prog Tryz.lays122_ren := {
 mixed := by kernel_rfl
 f122 := Tryz.func120.trans (congrArg some (by kernel_rfl))
 f215 := Tryz.func131.trans (congrArg some (by kernel_rfl))
 t3 := Tryz.underlying3
 a3 := Tryz.isAgg3
 z3 := Tryz.sizeOf3
 v3 := Tryz.zeroValue3
 t4 := Tryz.underlying4
 a4 := Tryz.isAgg4
 z4 := Tryz.sizeOf4
 v4 := Tryz.zeroValue4 }
open Go.RowKit in
theorem Tryz.cmp_Compare_int (x y : Int) (w : World) :
  Calls Tryz.prog 120 #[.int .i64 x, .int .i64 y] w fun e w' => e = .returned (.int .i64 (Lib.compareInt x y)) ∧ w' = w := Any.cmp_Compare_int Tryz.lays122 x y w
open Go.RowKit in
theorem Tryz.Builder_String_f (B b : Nat) (l : List UInt8) (w : World) (h : Lib.IsBuilderF 73 5 B b (Lib.byteCells l) w) (h0 : l ≠ []) :
  Calls Tryz.prog 25 #[.pointer (some ⟨b, 0, none⟩)] w fun e w' => e = .returned (.string ⟨l.toArray⟩) ∧ (Lib.IsBuilderF 73 5 B b (Lib.byteCells l) w' ∧ Below B w w') := Any.Builder_String_f Tryz.lays169 Tryz.Builder_Extra_169 B b l w h h0
open Go.RowKit in
theorem Tryz.Builder_String_empty_f (B b : Nat) (w : World) (h : Lib.IsBuilderF 73 5 B b [] w) (hBw : B ≤ w.heap.size) :
  Calls Tryz.prog 25 #[.pointer (some ⟨b, 0, none⟩)] w fun e w' => e = .returned (.string ⟨#[]⟩) ∧ (Lib.IsBuilderF 73 5 B b [] w' ∧ Below B w w') := Any.Builder_String_empty_f Tryz.lays169 Tryz.Builder_Extra_169 B b w h hBw
open Go.RowKit in
theorem Tryz.Builder_String_any_f (B b : Nat) (l : List UInt8) (w : World) (h : Lib.IsBuilderF 73 5 B b (Lib.byteCells l) w) (hBw : B ≤ w.heap.size) :
  Calls Tryz.prog 25 #[.pointer (some ⟨b, 0, none⟩)] w fun e w' => e = .returned (.string ⟨l.toArray⟩) ∧ (Lib.IsBuilderF 73 5 B b (Lib.byteCells l) w' ∧ Below B w w') := Any.Builder_String_any_f Tryz.lays169 Tryz.Builder_Extra_169 B b l w h hBw
open Go.RowKit in
theorem Tryz.Builder_String_k (B b : Nat) (l : List UInt8) (w : World) (h : Lib.IsBuilderF 73 5 B b (Lib.byteCells l) w) (h0 : l ≠ []) :
  Calls Tryz.prog 25 #[.pointer (some ⟨b, 0, none⟩)] w fun e w' => e = .returned (.string ⟨l.toArray⟩) ∧ (Lib.IsBuilderF 73 5 B b (Lib.byteCells l) w' ∧ Below B w w' ∧ Lib.OthersKept 5 (some b) w w') := Any.Builder_String_k Tryz.lays169 Tryz.Builder_Extra_169 B b l w h h0
open Go.RowKit in
theorem Tryz.Builder_String_empty_k (B b : Nat) (w : World) (h : Lib.IsBuilderF 73 5 B b [] w) (hBw : B ≤ w.heap.size) :
  Calls Tryz.prog 25 #[.pointer (some ⟨b, 0, none⟩)] w fun e w' => e = .returned (.string ⟨#[]⟩) ∧ (Lib.IsBuilderF 73 5 B b [] w' ∧ Below B w w' ∧ Lib.OthersKept 5 (some b) w w') := Any.Builder_String_empty_k Tryz.lays169 Tryz.Builder_Extra_169 B b w h hBw
open Go.RowKit in
theorem Tryz.Builder_String_any_k (B b : Nat) (l : List UInt8) (w : World) (h : Lib.IsBuilderF 73 5 B b (Lib.byteCells l) w) (hBw : B ≤ w.heap.size) :
  Calls Tryz.prog 25 #[.pointer (some ⟨b, 0, none⟩)] w fun e w' => e = .returned (.string ⟨l.toArray⟩) ∧ (Lib.IsBuilderF 73 5 B b (Lib.byteCells l) w' ∧ Below B w w' ∧ Lib.OthersKept 5 (some b) w w') := Any.Builder_String_any_k Tryz.lays169 Tryz.Builder_Extra_169 B b l w h hBw
open Go.RowKit in
theorem Tryz.Builder_grow_fresh_cap (B b n : Nat) (w : World) (hB : B ≤ b) (hbk : w.heap[b]? = some (.cells #[.pointer (some ⟨b, 0, none⟩), .slice none 0 0] 73 (0, 0))) (hBw : B ≤ w.heap.size) (hn : n ≤ 281474976710656) :
  Calls Tryz.prog 97 #[.pointer (some ⟨b, 0, none⟩), .int .i64 n] w fun e w' => e = .returned (.tuple #[]) ∧ (Lib.BuilderAt 73 5 B b (.pointer (some ⟨b, 0, none⟩)) [] w' ∧ Below B w w') ∧ ∃ p cap, w'.cell? ⟨b, 1, none⟩ = some (.slice p 0 cap) ∧ n ≤ cap := Any.Builder_grow_fresh_cap Tryz.lays241 Tryz.Builder_Extra_241 B b n w hB hbk hBw hn
open Go.RowKit in
theorem Tryz.Builder_Grow_fresh_cap (B b n : Nat) (w : World) (hB : B ≤ b) (hbk : w.heap[b]? = some (.cells #[.pointer none, .slice none 0 0] 73 (0, 0))) (hBw : B ≤ w.heap.size) (hn : n ≤ 281474976710656) :
  Calls Tryz.prog 67 #[.pointer (some ⟨b, 0, none⟩), .int .i64 n] w fun e w' => e = .returned (.tuple #[]) ∧ (Lib.BuilderAt 73 5 B b (.pointer (some ⟨b, 0, none⟩)) [] w' ∧ Below B w w') ∧ ∃ p cap, w'.cell? ⟨b, 1, none⟩ = some (.slice p 0 cap) ∧ n ≤ cap := Any.Builder_Grow_fresh_cap Tryz.lays165 Tryz.Builder_Extra_165 B b n w hB hbk hBw hn
def Tryz.lays217_ren : Go.Shelf.Ren := ⟨fun | 217 => 115 | 266 => 128 | n => n, fun | 9 => 9 | 5 => 5 | 3 => 3 | n => n, fun | n => n⟩
theorem Tryz.lays217 : Go.Proofs.Lays.n217 Tryz.prog Tryz.lays217_ren := {
 mixed := by kernel_rfl
 f217 := Tryz.func115.trans (congrArg some (by kernel_rfl))
 f266 := Tryz.func128.trans (congrArg some (by kernel_rfl))
 t3 := Tryz.underlying3
 a3 := Tryz.isAgg3
 z3 := Tryz.sizeOf3
 v3 := Tryz.zeroValue3
 t5 := Tryz.underlying5
 a5 := Tryz.isAgg5
 z5 := Tryz.sizeOf5
 v5 := Tryz.zeroValue5
 t9 := Tryz.underlying9
 a9 := Tryz.isAgg9
 z9 := Tryz.sizeOf9
 v9 := Tryz.zeroValue9 }
open Go.RowKit Go.Lib in
theorem Tryz.stringslite_IndexByte (s : ByteArray) (c : Int) (w : World) :
  Calls Tryz.prog 115 #[.string s, .int .u8 c] w fun e w' => e = .returned (.int .i64 (Lib.indexByte s.data.toList c.toNat.toUInt8)) ∧ w' = w := Any.stringslite_IndexByte Tryz.lays217 s c w
def Tryz.lays206_ren : Go.Shelf.Ren := ⟨fun | 206 => 99 | n => n, fun | 9 => 9 | 4 => 4 | 3 => 3 | n => n, fun | n => n⟩
theorem Tryz.lays206 : Go.Proofs.Lays.n206 Tryz.prog Tryz.lays206_ren := {
 mixed := by kernel_rfl
 f206 := Tryz.func99.trans (congrArg some (by kernel_rfl))
 t3 := Tryz.underlying3
 a3 := Tryz.isAgg3
 z3 := Tryz.sizeOf3
 v3 := Tryz.zeroValue3
 t4 := Tryz.underlying4
 a4 := Tryz.isAgg4
 z4 := Tryz.sizeOf4
 v4 := Tryz.zeroValue4
 t9 := Tryz.underlying9
 a9 := Tryz.isAgg9
 z9 := Tryz.sizeOf9
 v9 := Tryz.zeroValue9 }
open Go.RowKit Go.Lib in
theorem Tryz.stringslite_HasPrefix (s p : ByteArray) (w : World) :
  Calls Tryz.prog 99 #[.string s, .string p] w fun e w' => e = .returned (.bool (Lib.hasPrefix s.data.toList p.data.toList)) ∧ w' = w := Any.stringslite_HasPrefix Tryz.lays206 s p w
def Tryz.lays99_ren : Go.Shelf.Ren := ⟨fun | 99 => 71 | 206 => 99 | n => n, fun | 9 => 9 | 4 => 4 | 3 => 3 | n => n, fun | n => n⟩
theorem Tryz.lays99 : Go.Proofs.Lays.n99 Tryz.prog Tryz.lays99_ren := {
 mixed := by kernel_rfl
 f99 := Tryz.func71.trans (congrArg some (by kernel_rfl))
 f206 := Tryz.func99.trans (congrArg some (by kernel_rfl))
 t3 := Tryz.underlying3
 a3 := Tryz.isAgg3
 z3 := Tryz.sizeOf3
 v3 := Tryz.zeroValue3
 t4 := Tryz.underlying4
 a4 := Tryz.isAgg4
 z4 := Tryz.sizeOf4
 v4 := Tryz.zeroValue4
 t9 := Tryz.underlying9
 a9 := Tryz.isAgg9
 z9 := Tryz.sizeOf9
 v9 := Tryz.zeroValue9 }
open Go.RowKit Go.Lib in
theorem Tryz.strings_HasPrefix (s p : ByteArray) (w : World) :
  Calls Tryz.prog 71 #[.string s, .string p] w fun e w' => e = .returned (.bool (Lib.hasPrefix s.data.toList p.data.toList)) ∧ w' = w := Any.strings_HasPrefix Tryz.lays99 s p w
def Tryz.laysNm237_ren : Go.Shelf.Ren := ⟨fun | 37 => 131 | n => n, fun | 3 => 3 | 4 => 4 | n => n, fun | n => n⟩
theorem Tryz.laysNm237 : Go.Proofs.Lays2.n37 Tryz.prog Tryz.laysNm237_ren := {
 mixed := by kernel_rfl
 f37 := Tryz.func131.trans (congrArg some (by kernel_rfl))
 t3 := Tryz.underlying3
 a3 := Tryz.isAgg3
 z3 := Tryz.sizeOf3
 v3 := Tryz.zeroValue3
 t4 := Tryz.underlying4
 a4 := Tryz.isAgg4
 z4 := Tryz.sizeOf4
 v4 := Tryz.zeroValue4 }
open Go.RowKit Go.Lib in
theorem Tryz.cmp_isNaN_int2 (x : Int) (w : World) :
  Calls Tryz.prog 131 #[.int .i64 x] w fun e w' => e = .returned (.bool false) ∧ w' = w := Any.cmp_isNaN_int2 Tryz.laysNm237 x w
end Go.Proofs
namespace Go.Proofs.YtkildckeikedhaaGreatDoor
open Go.ChangeShapes Go.WideShapes Go.ChangeAt Go.RowKit
set_option linter.unusedVariables false

def smallB (c : UInt8) : Bool := decide (97 ≤ c.toNat ∧ c.toNat ≤ 122)
def digitB (c : UInt8) : Bool := decide (48 ≤ c.toNat ∧ c.toNat ≤ 57)
def upperB (c : UInt8) : Bool := decide (65 ≤ c.toNat ∧ c.toNat ≤ 90)
def hasB (cap : Bool) (signs : ByteArray) (c : UInt8) : Bool := if smallB c = true ∨ digitB c = true then true else if upperB c = true then cap else decide (0 ≤ Lib.indexByte signs.data.toList c)

theorem loopx (s : ByteArray) : ∀ (n i : Nat) (r : List UInt8), s.size - i = n → ByteArray.toList.loop s i r = r.reverse ++ s.data.toList.drop i
  | 0, i, r, h => by
    unfold ByteArray.toList.loop
    rw [if_neg (by omega), List.drop_eq_nil_of_le (by rw [Array.length_toList]; show s.size ≤ i; omega), List.append_nil]
  | n + 1, i, r, h => by
    unfold ByteArray.toList.loop
    have hi : i < s.size := by omega
    rw [if_pos hi, loopx s n (i + 1) _ (by omega)]
    rw [List.drop_eq_getElem_cons (i := i) (by rw [Array.length_toList]; exact hi)]
    rw [List.reverse_cons, List.append_assoc]
    congr 2
    show (s.get! i :: _) = _
    congr 1
    cases s with | mk d =>
    show d[i]! = d.toList[i]
    rw [getElem!_pos d i hi]; rfl
theorem toList_data (s : ByteArray) : s.toList = s.data.toList := by
  unfold ByteArray.toList
  rw [loopx s _ 0 [] rfl]; simp

theorem u8le (n : Nat) (c : UInt8) : decide ((n : Int) ≤ (c.toNat : Int)) = decide (n ≤ c.toNat) := by simp
theorem ret_b {a b : Bool} (h : a = b) : Ending.returned (.bool a) = .returned (.bool b) := by rw [h]

set_option maxRecDepth 100000 in
theorem small_any (c : UInt8) (w : World) : Calls Tryz.prog 86 #[.int .u8 c.toNat] w fun e w' => e = .returned (.bool (smallB c)) ∧ w = w' := by
  go_enter Tryz.func86, Tryz.ntmps86
  go_wp2_with fail
  all_goals
    go_ret
    refine ⟨ret_b ?_, rfl⟩
    unfold smallB
    rw [Bool.eq_iff_iff]
    simp only [decide_eq_true_eq, Bool.false_eq_true, false_iff]
    omega

theorem hasB_t {cap : Bool} {signs : ByteArray} {c : UInt8} (h : smallB c = true ∨ digitB c = true) : hasB cap signs c = true := if_pos h
theorem hasB_u {cap : Bool} {signs : ByteArray} {c : UInt8} (h : ¬ (smallB c = true ∨ digitB c = true)) (h2 : upperB c = true) : hasB cap signs c = cap := by unfold hasB; rw [if_neg h, if_pos h2]
theorem hasB_s {cap : Bool} {signs : ByteArray} {c : UInt8} (h : ¬ (smallB c = true ∨ digitB c = true)) (h2 : ¬ upperB c = true) : hasB cap signs c = decide (0 ≤ Lib.indexByte signs.data.toList c) := by unfold hasB; rw [if_neg h, if_neg h2]

set_option maxRecDepth 100000 in
theorem has_any (cap : Bool) (signs : ByteArray) (c : UInt8) (w : World) : Calls Tryz.prog 85 #[.agg #[.bool cap, .string signs], .int .u8 c.toNat] w fun e w' => e = .returned (.bool (hasB cap signs c)) ∧ Below w.heap.size w w' := by
  by_cases hs : smallB c = true
  · have H := hiD (hasB_t (cap := cap) (signs := signs) (.inl hs))
    have HS := hiD hs
    clear hs
    go_enter Tryz.func85, Tryz.ntmps85
    go_wp2_with fail
    refine (small_any c _).mono ?_
    rintro e w1 ⟨rfl, rfl⟩
    rw [HS.out]
    go_wp2_with fail
    go_ret
    exact ⟨by rw [H.out]; rfl, (Below.refl _ _).alloc (Nat.le_refl _) _⟩
  · have hs' : smallB c = false := by simpa using hs
    have HS := hiD hs'
    by_cases hd : digitB c = true
    · have H := hiD (hasB_t (cap := cap) (signs := signs) (.inr hd))
      have hd' : 48 ≤ c.toNat ∧ c.toNat ≤ 57 := of_decide_eq_true hd
      have d1 : (48 : Int) ≤ c.toNat := by omega
      have d2 : (c.toNat : Int) ≤ 57 := by omega
      clear hs hs' hd hd'
      go_enter Tryz.func85, Tryz.ntmps85
      go_wp2_with fail
      refine (small_any c _).mono ?_
      rintro e w1 ⟨rfl, rfl⟩
      rw [HS.out]
      go_wp2_with fail
      go_ret
      exact ⟨by rw [H.out]; rfl, (Below.refl _ _).alloc (Nat.le_refl _) _⟩
    · have hn : ¬ (smallB c = true ∨ digitB c = true) := fun h => h.elim hs hd
      have hd' : ¬ (48 ≤ c.toNat ∧ c.toNat ≤ 57) := fun h => hd (decide_eq_true h)
      by_cases hu : upperB c = true
      · have H := hiD (hasB_u (cap := cap) (signs := signs) hn hu)
        have hu' : 65 ≤ c.toNat ∧ c.toNat ≤ 90 := of_decide_eq_true hu
        have d1 : (65 : Int) ≤ c.toNat := by omega
        have d2 : (c.toNat : Int) ≤ 90 := by omega
        have d3 : (48 : Int) ≤ c.toNat := by omega
        have d4 : ¬ (c.toNat : Int) ≤ 57 := by omega
        clear hs hs' hd hd' hu hu' hn
        go_enter Tryz.func85, Tryz.ntmps85
        go_wp2_with fail
        refine (small_any c _).mono ?_
        rintro e w1 ⟨rfl, rfl⟩
        rw [HS.out]
        go_wp2_with fail
        go_ret
        exact ⟨by rw [H.out]; rfl, (Below.refl _ _).alloc (Nat.le_refl _) _⟩
      · have H := hiD (hasB_s (cap := cap) (signs := signs) hn hu)
        have hu' : ¬ (65 ≤ c.toNat ∧ c.toNat ≤ 90) := fun h => hu (decide_eq_true h)
        have HC := hiD (fun w => Tryz.strings_IndexByte signs (c.toNat : Int) w)
        have HI : Hid (((c.toNat : Int)).toNat.toUInt8 = c) := by
          show UInt8.ofNat c.toNat = c
          rw [UInt8.ofNat_toNat]
        have HK : Hid (¬ (48 ≤ c.toNat ∧ c.toNat ≤ 57) ∧ ¬ (65 ≤ c.toNat ∧ c.toNat ≤ 90)) := ⟨hd', hu'⟩
        have hcases : (c.toNat : Int) < 48 ∨ ((57 : Int) < c.toNat ∧ (c.toNat : Int) < 65) ∨ (90 : Int) < c.toNat := by omega
        clear hs hs' hd hd' hu hu' hn
        rcases hcases with h1 | ⟨h1, h2⟩ | h1
        · have g1 : ¬ (48 : Int) ≤ c.toNat := by omega
          have g2 : ¬ (65 : Int) ≤ c.toNat := by omega
          go_enter Tryz.func85, Tryz.ntmps85
          go_wp2_with fail
          refine (small_any c _).mono ?_
          rintro e w1 ⟨rfl, rfl⟩
          rw [HS.out]
          go_wp2_with fail
          refine (HC.out _).mono ?_
          rintro e w2 ⟨rfl, hw⟩
          subst hw
          rw [HI.out]
          go_wp2_with fail
          go_ret
          exact ⟨by rw [H.out]; rfl, (Below.refl _ _).alloc (Nat.le_refl _) _⟩
        · have g1 : (48 : Int) ≤ c.toNat := by omega
          have g2 : ¬ (65 : Int) ≤ c.toNat := by omega
          have g3 : ¬ (c.toNat : Int) ≤ 57 := by omega
          go_enter Tryz.func85, Tryz.ntmps85
          go_wp2_with fail
          refine (small_any c _).mono ?_
          rintro e w1 ⟨rfl, rfl⟩
          rw [HS.out]
          go_wp2_with fail
          refine (HC.out _).mono ?_
          rintro e w2 ⟨rfl, hw⟩
          subst hw
          rw [HI.out]
          go_wp2_with fail
          go_ret
          exact ⟨by rw [H.out]; rfl, (Below.refl _ _).alloc (Nat.le_refl _) _⟩
        · have g1 : (48 : Int) ≤ c.toNat := by omega
          have g2 : (65 : Int) ≤ c.toNat := by omega
          have g3 : ¬ (c.toNat : Int) ≤ 57 := by omega
          have g4 : ¬ (c.toNat : Int) ≤ 90 := by omega
          go_enter Tryz.func85, Tryz.ntmps85
          go_wp2_with fail
          refine (small_any c _).mono ?_
          rintro e w1 ⟨rfl, rfl⟩
          rw [HS.out]
          go_wp2_with fail
          refine (HC.out _).mono ?_
          rintro e w2 ⟨rfl, hw⟩
          subst hw
          rw [HI.out]
          go_wp2_with fail
          go_ret
          exact ⟨by rw [H.out]; rfl, (Below.refl _ _).alloc (Nat.le_refl _) _⟩

def consB (cap : Bool) (signs : ByteArray) (most : Nat) (l : List UInt8) : Bool := decide (1 ≤ l.length ∧ l.length ≤ most ∧ ∀ c ∈ l, hasB cap signs c = true)

set_option maxRecDepth 100000 in
theorem cons_any (cap : Bool) (signs s : ByteArray) (most : Nat) (hm : most ≤ 1000) (w : World) : Calls Tryz.prog 84 #[.string s, .int .i64 most, .func (.func 85) #[.agg #[.bool cap, .string signs]] #[]] w fun e w' => e = .returned (.bool (consB cap signs most s.data.toList)) ∧ Below w.heap.size w w' := by
  have hsl : s.data.toList.length = s.size := by rw [Array.length_toList]; rfl
  by_cases h0 : s.size = 0
  · have hs : s = ⟨#[]⟩ := by
      cases s with | mk d => congr 1; exact Array.eq_empty_of_size_eq_zero h0
    subst hs
    go_enter Tryz.func84, Tryz.ntmps84
    go_wp2_with fail
    go_ret
    exact ⟨rfl, Below.refl _ _⟩
  · have hne : ¬ s.data.toList = [] := by intro h; rw [h] at hsl; simp at hsl; omega
    have he2 : ¬ s.toList = [] := by
      intro h
      have h2 := congrArg List.length h
      rw [toList_data] at h2
      exact hne (List.eq_nil_of_length_eq_zero (by simpa using h2))
    have he1 : s.toList.isEmpty = false := by
      cases h : s.toList with
      | nil => exact absurd h he2
      | cons a b => rfl
    have he0 : s.data.toList.isEmpty = false := by
      cases h : s.data.toList with
      | nil => exact absurd h hne
      | cons a b => rfl
    have HN := hiD hne
    have HSL := hiD hsl
    have hp : (0 : Int) < s.size := by omega
    clear hne hsl
    by_cases hb : most < s.size
    · have hb' : (most : Int) < s.size := by omega
      have H : Hid (consB cap signs most s.data.toList = false) := decide_eq_false (fun h => by have := HSL.out; omega)
      go_enter Tryz.func84, Tryz.ntmps84
      go_wp2_with fail
      go_ret
      exact ⟨by rw [H.out]; rfl, Below.refl _ _⟩
    · have hb' : ¬ (most : Int) < s.size := by omega
      have hsz : (s.size : Int) ≤ 1000 := by omega
      go_enter Tryz.func84, Tryz.ntmps84
      go_wp2_with fail
      go_loopw [18] (fun iv wr => ∃ k : Nat, k ≤ s.size ∧ iv = .int .i64 k ∧ Below w.heap.size w wr ∧ Hid (∀ j, j < k → hasB cap signs (s.data.toList.getD j 0) = true)) (fun iv _ => s.size - (intOf iv).toNat)
      case atStart => exact ⟨0, Nat.zero_le _, rfl, Below.refl _ _, fun j hj => by omega⟩
      case round =>
        obtain ⟨k, hk, rfl, B1, HP⟩ := hrel
        by_cases hlt : k < s.size
        · have hk0 : (0 : Int) ≤ k := by omega
          have hk1 : (k : Int) < s.size := by omega
          have hx : s[k] = s.data.toList.getD k 0 := by
            rw [List.getD_eq_getElem?_getD, List.getElem?_eq_getElem (by rw [HSL.out]; exact hlt)]; rfl
          have HX := hiD hx
          clear hx
          go_wp2_with fail
          refine (has_any cap signs s[k] _).mono ?_
          rintro e w1 ⟨rfl, b1⟩
          have B2 := B1.trans (b1.mono B1.size)
          clear b1 B1
          by_cases hh : hasB cap signs s[k] = true
          · rw [hh]
            have HH := hiD hh
            clear hh
            go_wp2_with fail
            go_roundw
            case rel =>
              refine ⟨k + 1, by omega, by go_num, B2, fun j hj => ?_⟩
              by_cases e : j = k
              · subst e; rw [← HX.out]; exact HH.out
              · exact HP.out j (by omega)
            case measure => simp [intOf]; omega
          · have hh' : hasB cap signs s[k] = false := by simpa using hh
            rw [hh']
            have H : Hid (consB cap signs most s.data.toList = false) := by
              refine decide_eq_false (fun h => ?_)
              have h1 := h.2.2 (s.data.toList.getD k 0) (by
                rw [List.getD_eq_getElem?_getD, List.getElem?_eq_getElem (by rw [HSL.out]; exact hlt)]
                exact List.getElem_mem _)
              rw [← HX.out] at h1
              exact hh h1
            clear hh hh'
            go_wp2_with fail
            go_ret
            exact ⟨by rw [H.out]; rfl, B2⟩
        · obtain rfl : k = s.size := by omega
          have H : Hid (consB cap signs most s.data.toList = true) := by
            refine decide_eq_true ⟨by have := HSL.out; omega, by have := HSL.out; omega, fun c hc => ?_⟩
            obtain ⟨j, hj, rfl⟩ := List.getElem_of_mem hc
            have h1 := HP.out j (by rw [← HSL.out]; exact hj)
            rw [List.getD_eq_getElem?_getD, List.getElem?_eq_getElem hj] at h1
            exact h1
          go_wp2_with fail
          go_ret
          exact ⟨by rw [H.out]; rfl, B1⟩
def wDef : ByteArray := ⟨#[100, 101, 102, 105, 110, 105, 116, 105, 111, 110]⟩
def wRel : ByteArray := ⟨#[114, 101, 108, 97, 116, 105, 111, 110]⟩
def wPerm : ByteArray := ⟨#[112, 101, 114, 109, 105, 115, 115, 105, 111, 110]⟩
def resB (s : ByteArray) : Bool := decide (s = wDef ∨ s = wRel ∨ s = wPerm)
def ResT (w : World) : Prop := w.cell? ⟨1, 0, none⟩ = some (.string wDef) ∧ w.cell? ⟨1, 1, none⟩ = some (.string wRel) ∧ w.cell? ⟨1, 2, none⟩ = some (.string wPerm)

theorem seq_t {a b : ByteArray} (h : a = b) : (a.toList == b.toList) = true := by subst h; simp
theorem seq_f {a b : ByteArray} (h : ¬ a = b) : (a.toList == b.toList) = false := by
 rw [beq_eq_false_iff_ne]
 intro e
 rw [toList_data, toList_data] at e
 exact h (bytes_inj e)
theorem ix0 (w : World) : (Instr.index 153 (.agg #[.string wDef, .string wRel, .string wPerm]) (.int .i64 0)).run Tryz.prog w = .ok (.string wDef) w := by kernel_rfl
theorem ix1 (w : World) : (Instr.index 153 (.agg #[.string wDef, .string wRel, .string wPerm]) (.int .i64 1)).run Tryz.prog w = .ok (.string wRel) w := by kernel_rfl
theorem ix2 (w : World) : (Instr.index 153 (.agg #[.string wDef, .string wRel, .string wPerm]) (.int .i64 2)).run Tryz.prog w = .ok (.string wPerm) w := by kernel_rfl

set_option maxRecDepth 100000 in
theorem res_any (s : ByteArray) (w : World) (hr : ResT w) : Calls Tryz.prog 74 #[.string s] w fun e w' => e = .returned (.bool (resB s)) ∧ w = w' := by
 obtain ⟨r0, r1, r2⟩ := hr
 have i0 := ix0
 have i1 := ix1
 have i2 := ix2
 by_cases h0 : s = wDef
 ·have H : Hid (resB s = true) := decide_eq_true (.inl h0)
  have t0 := seq_t h0
  clear h0
  go_enter Tryz.func74, Tryz.ntmps74
  go_wp2_with fail
  refine wp_loop_rounds 4 ?_
  rw [rounds_succ]
  go_wp2_with fail
  go_ret
  exact ⟨by rw [H.out]; rfl, rfl⟩
 have t0 := seq_f h0
 by_cases h1 : s = wRel
 ·have H : Hid (resB s = true) := decide_eq_true (.inr (.inl h1))
  have t1 := seq_t h1
  clear h0 h1
  go_enter Tryz.func74, Tryz.ntmps74
  go_wp2_with fail
  refine wp_loop_rounds 4 ?_
  rw [rounds_succ]
  go_wp2_with fail
  rw [rounds_succ]
  go_wp2_with fail
  go_ret
  exact ⟨by rw [H.out]; rfl, rfl⟩
 have t1 := seq_f h1
 by_cases h2 : s = wPerm
 ·have H : Hid (resB s = true) := decide_eq_true (.inr (.inr h2))
  have t2 := seq_t h2
  clear h0 h1 h2
  go_enter Tryz.func74, Tryz.ntmps74
  go_wp2_with fail
  refine wp_loop_rounds 4 ?_
  rw [rounds_succ]
  go_wp2_with fail
  rw [rounds_succ]
  go_wp2_with fail
  rw [rounds_succ]
  go_wp2_with fail
  go_ret
  exact ⟨by rw [H.out]; rfl, rfl⟩
 have t2 := seq_f h2
 have H : Hid (resB s = false) := decide_eq_false (by simp [h0, h1, h2])
 clear h0 h1 h2
 go_enter Tryz.func74, Tryz.ntmps74
 go_wp2_with fail
 refine wp_loop_rounds 4 ?_
 rw [rounds_succ]
 go_wp2_with fail
 rw [rounds_succ]
 go_wp2_with fail
 rw [rounds_succ]
 go_wp2_with fail
 rw [rounds_succ]
 go_wp2_with fail
 go_ret
 exact ⟨by rw [H.out]; rfl, rfl⟩

def isId (s : ByteArray) : Bool := consB true ⟨#[95, 45, 46, 47, 61]⟩ 128 s.data.toList
def isName (s : ByteArray) : Bool := consB false ⟨#[95]⟩ 64 s.data.toList && smallB (s.data.toList.getD 0 0) && !resB s
theorem ResT.below {w w' : World} {B : Nat} (h : ResT w) (hb : Below B w w') (hB : 1 < B) : ResT w' :=
 ⟨(hb.cell (by exact hB)).trans h.1, (hb.cell (by exact hB)).trans h.2.1, (hb.cell (by exact hB)).trans h.2.2⟩
theorem ResT.lt {w : World} (h : ResT w) : 1 < w.heap.size := by
 rcases Nat.lt_or_ge 1 w.heap.size with h' | h'
 ·exact h'
 ·have := h.1; simp [World.cell?, Array.getElem?_eq_none h'] at this

set_option maxRecDepth 100000 in
theorem isName_any (s : ByteArray) (w : World) (hr : ResT w) : Calls Tryz.prog 61 #[.string s] w fun e w' => e = .returned (.bool (isName s)) ∧ Below w.heap.size w w' := by
 have HC := hiD (fun w => cons_any false ⟨#[95]⟩ s 64 (by omega) w)
 have HR := hiD hr
 have HL := hiD hr.lt
 have hsl : s.data.toList.length = s.size := by rw [Array.length_toList]; rfl
 by_cases h1 : consB false ⟨#[95]⟩ 64 s.data.toList = true
 ·have hlen := (of_decide_eq_true h1).1
  have h0 : 0 < s.size := by omega
  have h0' : (0 : Int) < s.size := by omega
  have H1 := hiD h1
  have hx : s[0] = s.data.toList.getD 0 0 := by
   rw [List.getD_eq_getElem?_getD, List.getElem?_eq_getElem (by omega)]; rfl
  have HX := hiD hx
  have HN : Hid (isName s = (smallB s[0] && !resB s)) := by show isName s = _; unfold isName; rw [h1, hx]; rfl
  clear h1 hlen hr hx hsl
  go_enter Tryz.func61, Tryz.ntmps61
  go_wp2_with fail
  refine (HC.out _).mono ?_
  rintro e w1 ⟨rfl, B1⟩
  rw [H1.out]
  have HR1 := hiD (HR.out.below B1 HL.out)
  go_wp2_with fail
  refine (small_any s[0] _).mono ?_
  rintro e w2 ⟨rfl, rfl⟩
  by_cases hs : smallB s[0] = true
  ·rw [hs]
   have HN2 : Hid (isName s = !resB s) := by show isName s = _; rw [HN.out, hs]; rfl
   clear hs HN
   go_wp2_with fail
   refine (res_any s _ HR1.out).mono ?_
   rintro e w3 ⟨rfl, rfl⟩
   go_wp2_with fail
   go_ret
   exact ⟨by rw [HN2.out]; rfl, B1⟩
  ·have hs' : smallB s[0] = false := by simpa using hs
   rw [hs']
   have HN2 : Hid (isName s = false) := by show isName s = _; rw [HN.out, hs']; rfl
   clear hs hs' HN
   go_wp2_with fail
   go_ret
   exact ⟨by rw [HN2.out]; rfl, B1⟩
 ·have h1' : consB false ⟨#[95]⟩ 64 s.data.toList = false := by simpa using h1
  have H1 := hiD h1'
  have HN : Hid (isName s = false) := by show isName s = _; unfold isName; rw [h1']; rfl
  clear h1 h1' hr hsl
  go_enter Tryz.func61, Tryz.ntmps61
  go_wp2_with fail
  refine (HC.out _).mono ?_
  rintro e w1 ⟨rfl, B1⟩
  rw [H1.out]
  go_wp2_with fail
  go_ret
  exact ⟨by rw [HN.out]; rfl, B1⟩
set_option maxRecDepth 100000 in
theorem rsmall_any (c : UInt8) (w : World) : Calls Tryz.prog 52 #[.int .u8 c.toNat] w fun e w' => e = .returned (.bool (smallB c)) ∧ w = w' := by
  go_enter Tryz.func52, Tryz.ntmps52
  go_wp2_with fail
  all_goals
    go_ret
    refine ⟨ret_b ?_, rfl⟩
    unfold smallB
    rw [Bool.eq_iff_iff]
    simp only [decide_eq_true_eq, Bool.false_eq_true, false_iff]
    omega
set_option maxRecDepth 100000 in
theorem rdigit_any (c : UInt8) (w : World) : Calls Tryz.prog 53 #[.int .u8 c.toNat] w fun e w' => e = .returned (.bool (digitB c)) ∧ w = w' := by
  go_enter Tryz.func53, Tryz.ntmps53
  go_wp2_with fail
  all_goals
    go_ret
    refine ⟨ret_b ?_, rfl⟩
    unfold digitB
    rw [Bool.eq_iff_iff]
    simp only [decide_eq_true_eq, Bool.false_eq_true, false_iff]
    omega

theorem word_ne {s w : ByteArray} {l : List UInt8} (hw : w.data.toList = l) (h : ¬ s = w) : ¬ s.toList = l := by
  intro e
  rw [toList_data, ← hw] at e
  exact h (bytes_inj e)
theorem word_nb {s : ByteArray} {l : List UInt8} (h : ¬ s.toList = l) : (s.toList == l) = false := by rw [beq_eq_false_iff_ne]; exact h
theorem word_eq {s w : ByteArray} {l : List UInt8} (hw : w.data.toList = l) (h : s = w) : s.toList = l := by rw [h, toList_data, hw]
theorem word_eb {s : ByteArray} {l : List UInt8} (h : s.toList = l) : (s.toList == l) = true := by rw [h]; simp

set_option maxRecDepth 100000 in
theorem rres_any (s : ByteArray) (w : World) : Calls Tryz.prog 30 #[.string s] w fun e w' => e = .returned (.bool (resB s)) ∧ w = w' := by
  by_cases h0 : s = wDef
  · have H : Hid (resB s = true) := decide_eq_true (.inl h0)
    have p0 := word_eq (l := [100, 101, 102, 105, 110, 105, 116, 105, 111, 110]) rfl h0
    have t0 := word_eb p0
    clear h0
    go_enter Tryz.func30, Tryz.ntmps30
    go_wp2_with fail
    go_ret
    exact ⟨by rw [H.out]; rfl, rfl⟩
  have n0 := word_ne (l := [100, 101, 102, 105, 110, 105, 116, 105, 111, 110]) rfl h0
  have t0 := word_nb n0
  by_cases h1 : s = wRel
  · have H : Hid (resB s = true) := decide_eq_true (.inr (.inl h1))
    have p1 := word_eq (l := [114, 101, 108, 97, 116, 105, 111, 110]) rfl h1
    have t1 := word_eb p1
    clear h0 h1
    go_enter Tryz.func30, Tryz.ntmps30
    go_wp2_with fail
    go_ret
    exact ⟨by rw [H.out]; rfl, rfl⟩
  have n1 := word_ne (l := [114, 101, 108, 97, 116, 105, 111, 110]) rfl h1
  have t1 := word_nb n1
  by_cases h2 : s = wPerm
  · have H : Hid (resB s = true) := decide_eq_true (.inr (.inr h2))
    have p2 := word_eq (l := [112, 101, 114, 109, 105, 115, 115, 105, 111, 110]) rfl h2
    have t2 := word_eb p2
    clear h0 h1 h2
    go_enter Tryz.func30, Tryz.ntmps30
    go_wp2_with fail
    go_ret
    exact ⟨by rw [H.out]; rfl, rfl⟩
  have n2 := word_ne (l := [112, 101, 114, 109, 105, 115, 115, 105, 111, 110]) rfl h2
  have t2 := word_nb n2
  have H : Hid (resB s = false) := decide_eq_false (by simp [h0, h1, h2])
  clear h0 h1 h2
  go_enter Tryz.func30, Tryz.ntmps30
  go_wp2_with fail
  go_ret
  exact ⟨by rw [H.out]; rfl, rfl⟩

theorem hasN (c : UInt8) : hasB false ⟨#[95]⟩ c = (smallB c || digitB c || decide (c.toNat = 95)) := by
  have h : ∀ n : Fin 256, (hasB false ⟨#[95]⟩ (UInt8.ofNat n.val) == (smallB (UInt8.ofNat n.val) || digitB (UInt8.ofNat n.val) || decide ((UInt8.ofNat n.val).toNat = 95))) = true := by decide +kernel
  have hc : UInt8.ofNat c.toNat = c := UInt8.ofNat_toNat
  have := h ⟨c.toNat, c.toNat_lt⟩
  simp only [hc] at this
  exact beq_iff_eq.1 this
theorem hasI (c : UInt8) : hasB true ⟨#[95, 45, 46, 47, 61]⟩ c = (smallB c || digitB c || decide ((65 ≤ c.toNat ∧ c.toNat ≤ 90) ∨ c.toNat = 95 ∨ c.toNat = 45 ∨ c.toNat = 46 ∨ c.toNat = 47 ∨ c.toNat = 61)) := by
  have h : ∀ n : Fin 256, (hasB true ⟨#[95, 45, 46, 47, 61]⟩ (UInt8.ofNat n.val) == (smallB (UInt8.ofNat n.val) || digitB (UInt8.ofNat n.val) || decide ((65 ≤ (UInt8.ofNat n.val).toNat ∧ (UInt8.ofNat n.val).toNat ≤ 90) ∨ (UInt8.ofNat n.val).toNat = 95 ∨ (UInt8.ofNat n.val).toNat = 45 ∨ (UInt8.ofNat n.val).toNat = 46 ∨ (UInt8.ofNat n.val).toNat = 47 ∨ (UInt8.ofNat n.val).toNat = 61))) = true := by decide +kernel
  have hc : UInt8.ofNat c.toNat = c := UInt8.ofNat_toNat
  have := h ⟨c.toNat, c.toNat_lt⟩
  simp only [hc] at this
  exact beq_iff_eq.1 this

theorem cons_f {cap : Bool} {signs s : ByteArray} {most k : Nat} (hk : k < s.size) (h : hasB cap signs s[k] = false) : consB cap signs most s.data.toList = false := by
  have hsl : s.data.toList.length = s.size := by rw [Array.length_toList]; rfl
  refine decide_eq_false (fun h' => ?_)
  have h1 := h'.2.2 s[k] (by
    have e : s[k] = s.data.toList[k]'(by omega) := rfl
    rw [e]; exact List.getElem_mem _)
  rw [h] at h1; cases h1
theorem cons_t {cap : Bool} {signs s : ByteArray} {most : Nat} (h1 : 1 ≤ s.size) (h2 : s.size ≤ most) (h : ∀ j, (hj : j < s.size) → hasB cap signs s[j] = true) : consB cap signs most s.data.toList = true := by
  have hsl : s.data.toList.length = s.size := by rw [Array.length_toList]; rfl
  refine decide_eq_true ⟨by omega, by omega, fun c hc => ?_⟩
  obtain ⟨j, hj, rfl⟩ := List.getElem_of_mem hc
  exact h j (by omega)

theorem isName_f1 {s : ByteArray} (h : consB false ⟨#[95]⟩ 64 s.data.toList = false) : isName s = false := by unfold isName; rw [h]; rfl
theorem isName_f2 {s : ByteArray} (h : smallB (s.data.toList.getD 0 0) = false) : isName s = false := by unfold isName; rw [h]; simp
theorem isName_f3 {s : ByteArray} (h : resB s = true) : isName s = false := by unfold isName; rw [h]; simp
theorem isName_t {s : ByteArray} (h1 : consB false ⟨#[95]⟩ 64 s.data.toList = true) (h2 : smallB (s.data.toList.getD 0 0) = true) (h3 : resB s = false) : isName s = true := by unfold isName; rw [h1, h2, h3]; rfl

set_option maxRecDepth 100000 in
set_option maxHeartbeats 1000000 in
theorem risName_any (s : ByteArray) (hs : s.size ≤ 1000000) (w : World) : Calls Tryz.prog 29 #[.string s] w fun e w' => e = .returned (.bool (isName s)) ∧ w = w' := by
  have hs' : (s.size : Int) ≤ 1000000 := by omega
  have hsl : s.data.toList.length = s.size := by rw [Array.length_toList]; rfl
  have HSL := hiD hsl
  by_cases h0 : s.size < 1
  · have H : Hid (isName s = false) := isName_f1 (decide_eq_false (fun h => by omega))
    have g : (s.size : Int) < 1 := by omega
    clear hsl h0
    go_enter Tryz.func29, Tryz.ntmps29
    go_wp2_with fail
    go_ret
    exact ⟨by rw [H.out]; rfl, rfl⟩
  by_cases h64 : 64 < s.size
  · have H : Hid (isName s = false) := isName_f1 (decide_eq_false (fun h => by omega))
    have g : ¬ (s.size : Int) < 1 := by omega
    have g2 : (64 : Int) < s.size := by omega
    clear hsl h0
    go_enter Tryz.func29, Tryz.ntmps29
    go_wp2_with fail
    go_ret
    exact ⟨by rw [H.out]; rfl, rfl⟩
  have g : ¬ (s.size : Int) < 1 := by omega
  have g2 : ¬ (64 : Int) < s.size := by omega
  have hpos : 0 < s.size := by omega
  have hpos' : (0 : Int) < s.size := by omega
  have hx : s[0] = s.data.toList.getD 0 0 := by
    rw [List.getD_eq_getElem?_getD, List.getElem?_eq_getElem (by omega)]; rfl
  cases hsm : smallB s[0] with
  | false =>
    have H : Hid (isName s = false) := isName_f2 (by rw [← hx]; exact hsm)
    have HS := hiD hsm
    clear hsl h0 hx hsm
    go_enter Tryz.func29, Tryz.ntmps29
    go_wp2_with fail
    refine (rsmall_any s[0] _).mono ?_
    rintro e w1 ⟨rfl, rfl⟩
    rw [HS.out]
    go_wp2_with fail
    go_ret
    exact ⟨by rw [H.out]; rfl, rfl⟩
  | true =>
    have HS := hiD hsm
    have HX := hiD hx
    cases hrs : resB s with
    | true =>
      have H : Hid (isName s = false) := isName_f3 hrs
      have HR := hiD hrs
      clear hsl h0 hx hsm hrs
      go_enter Tryz.func29, Tryz.ntmps29
      go_wp2_with fail
      refine (rsmall_any s[0] _).mono ?_
      rintro e w1 ⟨rfl, rfl⟩
      rw [HS.out]
      go_wp2_with fail
      refine (rres_any s _).mono ?_
      rintro e w1 ⟨rfl, rfl⟩
      rw [HR.out]
      go_wp2_with fail
      go_ret
      exact ⟨by rw [H.out]; rfl, rfl⟩
    | false =>
      have HR := hiD hrs
      clear hsl h0 hx hsm hrs
      go_enter Tryz.func29, Tryz.ntmps29
      go_wp2_with fail
      refine (rsmall_any s[0] _).mono ?_
      rintro e w1 ⟨rfl, rfl⟩
      rw [HS.out]
      go_wp2_with fail
      refine (rres_any s _).mono ?_
      rintro e w1 ⟨rfl, rfl⟩
      rw [HR.out]
      go_wp2_with fail
      go_loop [3] (fun iv => ∃ k : Nat, k ≤ s.size ∧ iv = .int .i64 k ∧ Hid (∀ j, (hj : j < s.size) → j < k → hasB false ⟨#[95]⟩ s[j] = true)) (fun iv => s.size - (intOf iv).toNat)
      case atStart => exact ⟨0, Nat.zero_le _, rfl, fun j _ hj => by omega⟩
      case round =>
        obtain ⟨k, hk, rfl, HP⟩ := hrel
        by_cases hlt : k < s.size
        · have hk0 : (0 : Int) ≤ k := by omega
          have hk1 : (k : Int) < s.size := by omega
          have next : hasB false ⟨#[95]⟩ s[k] = true → ∀ j, (hj : j < s.size) → j < k + 1 → hasB false ⟨#[95]⟩ s[j] = true := by
            intro h j hj hlt'
            by_cases e : j = k
            · subst e; exact h
            · exact HP.out j hj (by omega)
          have NX := hiD next
          have HH := hiD (hasN s[k])
          have CF := hiD (fun h => isName_f1 (cons_f (cap := false) (signs := ⟨#[95]⟩) (most := 64) hlt h))
          clear next
          go_wp2_with fail
          refine (rsmall_any s[k] _).mono ?_
          rintro e w1 ⟨rfl, rfl⟩
          cases hsm : smallB s[k] with
          | true =>
            have h := HH.out
            rw [hsm] at h
            have HT := hiD (NX.out (h.trans (by simp)))
            clear h hsm
            go_wp2_with fail
            go_round
            case rel => exact ⟨k + 1, by omega, by go_num, HT.out⟩
            case measure => simp [intOf]; omega
          | false =>
            have HSM := hiD hsm
            clear hsm
            go_wp2_with fail
            refine (rdigit_any s[k] _).mono ?_
            rintro e w1 ⟨rfl, rfl⟩
            cases hdg : digitB s[k] with
            | true =>
              have h := HH.out
              rw [hdg] at h
              have HT := hiD (NX.out (h.trans (by simp)))
              clear h hdg
              go_wp2_with fail
              go_round
              case rel => exact ⟨k + 1, by omega, by go_num, HT.out⟩
              case measure => simp [intOf]; omega
            | false =>
              have h := HH.out
              rw [hdg, HSM.out, Bool.false_or, Bool.false_or] at h
              have H := hiD h
              clear h hdg HSM HH
              go_wp2_with fail
              all_goals first
                | (go_round
                   case rel => exact ⟨k + 1, by omega, by go_num, NX.out (by rw [H.out]; exact decide_eq_true (by first | omega | (simp at *; omega)))⟩
                   case measure => simp [intOf]; omega)
                | (go_ret
                   refine ⟨ret_b ?_, rfl⟩
                   refine (CF.out ?_).symm
                   rw [H.out]
                   exact decide_eq_false (by simp at *; omega))
        · obtain rfl : k = s.size := by omega
          have HT : Hid (isName s = true) := isName_t (cons_t (by omega) (by omega) (fun j hj => HP.out j hj hj)) (by rw [← HX.out]; exact HS.out) HR.out
          clear HP
          go_wp2_with fail
          go_ret
          exact ⟨by rw [HT.out]; rfl, rfl⟩

def fnd (l : List UInt8) (c : UInt8) : Nat := l.findIdx (· == c)
set_option maxRecDepth 100000 in
theorem find_any (s : ByteArray) (c : UInt8) (hs : s.size ≤ 1000000) (w : World) : Calls Tryz.prog 51 #[.string s, .int .u8 c.toNat] w fun e w' =>
    e = .returned (.int .i64 (if fnd s.data.toList c < s.size then (fnd s.data.toList c : Int) else -1)) ∧ w = w' := by
  have hs' : (s.size : Int) ≤ 1000000 := by omega
  have hsl : s.data.toList.length = s.size := by rw [Array.length_toList]; rfl
  have HSL := hiD hsl
  clear hsl
  obtain ⟨r, hr⟩ : ∃ r : Int, r = (if fnd s.data.toList c < s.size then (fnd s.data.toList c : Int) else -1) := ⟨_, rfl⟩
  rw [← hr]
  have HR := hiD hr
  clear hr
  go_enter Tryz.func51, Tryz.ntmps51
  go_wp2_with fail
  go_loop [5] (fun iv => ∃ k : Nat, k ≤ s.size ∧ iv = .int .i64 k ∧ Hid (∀ j, (hj : j < s.size) → j < k → s[j] ≠ c)) (fun iv => s.size - (intOf iv).toNat)
  case atStart => exact ⟨0, Nat.zero_le _, rfl, fun j _ hj => by omega⟩
  case round =>
    obtain ⟨k, hk, rfl, HP⟩ := hrel
    by_cases hlt : k < s.size
    · have hk0 : (0 : Int) ≤ k := by omega
      have hk1 : (k : Int) < s.size := by omega
      have hg : ∀ j, (hj : j < s.size) → s.data.toList[j]'(by rw [HSL.out]; exact hj) = s[j] := fun j hj => rfl
      by_cases he : s[k] = c
      · have t : ((s[k].toNat : Int) == (c.toNat : Int)) = true := by rw [he]; simp
        have H : Hid (r = k) := by
          show r = _
          have e : fnd s.data.toList c = k := by
            unfold fnd
            rw [List.findIdx_eq (by rw [HSL.out]; exact hlt)]
            refine ⟨by rw [hg k hlt, he]; simp, fun j hj => ?_⟩
            rw [hg j (by omega)]
            have := HP.out j (by omega) hj
            simp [this]
          rw [HR.out, e, if_pos hlt]
        clear HP hg
        go_wp2_with fail
        go_ret
        exact ⟨by rw [H.out]; rfl, rfl⟩
      · have t : ((s[k].toNat : Int) == (c.toNat : Int)) = false := by
          rw [beq_eq_false_iff_ne]
          intro e
          exact he (UInt8.toNat_inj.1 (by omega))
        have HE : Hid (s[k] ≠ c) := he
        clear he hg
        go_wp2_with fail
        go_round
        case rel =>
          refine ⟨k + 1, by omega, by go_num, fun j hj hlt' => ?_⟩
          by_cases e : j = k
          · subst e; exact HE.out
          · exact HP.out j hj (by omega)
        case measure => simp [intOf]; omega
    · obtain rfl : k = s.size := by omega
      have H : Hid (r = -1) := by
        show r = _
        have e : ¬ fnd s.data.toList c < s.size := by
          intro h
          have h2 := List.findIdx_getElem (xs := s.data.toList) (p := (· == c)) (w := by rw [HSL.out]; exact h)
          have h3 := HP.out (fnd s.data.toList c) h h
          apply h3
          exact beq_iff_eq.1 h2
        rw [HR.out, if_neg e]
      clear HP
      go_wp2_with fail
      go_ret
      exact ⟨by rw [H.out]; rfl, rfl⟩
def bstr (l : List UInt8) : ByteArray := ⟨l.toArray⟩
theorem bstr_data (l : List UInt8) : (bstr l).data.toList = l := rfl
theorem bstr_back (s : ByteArray) : bstr s.data.toList = s := rfl
theorem bstr_size (l : List UInt8) : (bstr l).size = l.length := by show l.toArray.size = _; simp
theorem bstr_app (a b : List UInt8) : bstr a ++ bstr b = bstr (a ++ b) := by
 apply bytes_inj
 show (bstr a ++ bstr b).data.toList = (bstr (a ++ b)).data.toList
 rw [ByteArray.data_append, Array.toList_append]; rfl
theorem bstr_ne {a b : List UInt8} (h : a ≠ b) : ((bstr a).toList == (bstr b).toList) = false := by rw [toList_data, toList_data, bstr_data, bstr_data]; simpa using h
theorem bstr_eqv {a b : List UInt8} (h : a = b) : ((bstr a).toList == (bstr b).toList) = true := by rw [h]; simp
end Go.Proofs.YtkildckeikedhaaGreatDoor
namespace Go.Proofs.YtkildckeikedhaaGreatDoor
set_option linter.unusedVariables false

def spB (c : UInt8) : Bool := c == 32 || c == 9 || c == 10 || c == 13
def wdB (c : UInt8) : Bool := smallB c || upperB c || digitB c || c == 95
def lnB (c : UInt8) : Bool := c != 10
def sgL : List UInt8 := [123, 125, 40, 41, 58, 59, 61, 124, 35, 43, 38, 45]
def sgB (c : UInt8) : Bool := sgL.contains c
def okW (w : List UInt8) : Bool := isName (bstr w) || resB (bstr w)
abbrev Tok := Int × List UInt8 × Int
abbrev mkT (k : Nat) (t : List UInt8) (i : Nat) : Tok := ((k : Int), t, (i : Int))
abbrev Toks := List Tok × Nat × Nat
def consT (t : Tok) (r : Toks) : Toks := if r.2.1 = 0 then (t :: r.1, 0, 0) else ([], r.2)
def preT (acc : List Tok) (r : Toks) : Toks := if r.2.1 = 0 then (acc ++ r.1, 0, 0) else ([], r.2)
def tokF : Nat → Nat → List UInt8 → Toks
  | 0, _, _ => ([], 0, 0)
  | n + 1, i, [] => ([mkT 3 [] i], 0, 0)
  | n + 1, i, c :: r =>
    if wdB c = true then
      if okW ((c :: r).takeWhile wdB) = true then consT (mkT 1 ((c :: r).takeWhile wdB) i) (tokF n (i + ((c :: r).takeWhile wdB).length) ((c :: r).drop ((c :: r).takeWhile wdB).length)) else ([], 5, i)
    else if spB c = true then tokF n (i + 1) r
    else if c = 47 ∧ r.head? = some 47 then tokF n (i + ((c :: r).takeWhile lnB).length) ((c :: r).drop ((c :: r).takeWhile lnB).length)
    else if c = 45 ∧ r.head? = some 62 then consT (mkT 2 [45, 62] i) (tokF n (i + 2) (r.drop 1))
    else if sgB c = true then consT (mkT 2 [c] i) (tokF n (i + 1) r)
    else ([], 6, i)
theorem preT_cons (acc : List Tok) (t : Tok) (r : Toks) : preT acc (consT t r) = preT (acc ++ [t]) r := by
  unfold preT consT
  by_cases h : r.2.1 = 0
  · simp [h]
  · simp [h]
def tokS (l : List UInt8) : Toks := tokF (l.length + 1) 0 l
def LexAt (l : List UInt8) (R : Toks) (i : Nat) (acc : List Tok) : Prop := i ≤ l.length ∧ acc.length ≤ i ∧ ∃ n, l.length - i < n ∧ R = preT acc (tokF n i (l.drop i))
theorem tokF_code : ∀ (n i : Nat) (l : List UInt8), (tokF n i l).2.1 = 0 → (tokF n i l).2.2 = 0
  | 0, _, _, _ => rfl
  | n + 1, i, [], _ => rfl
  | n + 1, i, c :: r, h => by
    unfold tokF at h ⊢
    repeat' split
    all_goals first | rfl | skip
    · rename_i h1 h2; rw [if_pos h1, if_pos h2] at h; unfold consT at h ⊢; split at h <;> rename_i h3
      · rw [if_pos h3]
      · exact absurd h h3
    · rename_i h1 h2; rw [if_pos h1, if_neg h2] at h; cases h
    · rename_i h1 h2; rw [if_neg h1, if_pos h2] at h; exact tokF_code _ _ _ h
    · rename_i h1 h2 h3; rw [if_neg h1, if_neg h2, if_pos h3] at h; exact tokF_code _ _ _ h
    · rename_i h1 h2 h3 h4; rw [if_neg h1, if_neg h2, if_neg h3, if_pos h4] at h; unfold consT at h ⊢; split at h <;> rename_i h5
      · rw [if_pos h5]
      · exact absurd h h5
    · rename_i h1 h2 h3 h4 h5; rw [if_neg h1, if_neg h2, if_neg h3, if_neg h4, if_pos h5] at h; unfold consT at h ⊢; split at h <;> rename_i h6
      · rw [if_pos h6]
      · exact absurd h h6
    · rename_i h1 h2 h3 h4 h5; rw [if_neg h1, if_neg h2, if_neg h3, if_neg h4, if_neg h5] at h; cases h
theorem preT_nil (n i : Nat) (l : List UInt8) : preT [] (tokF n i l) = ((if (tokF n i l).2.1 = 0 then (tokF n i l).1 else []), (tokF n i l).2) := by
  unfold preT
  by_cases h : (tokF n i l).2.1 = 0
  · rw [if_pos h, if_pos h, List.nil_append]
    have h2 := tokF_code n i l h
    rw [show (tokF n i l).2 = (0, 0) from Prod.ext h h2]
  · rw [if_neg h, if_neg h]
theorem tokF_err : ∀ (n i : Nat) (l : List UInt8), (tokF n i l).2.1 ≠ 0 → (tokF n i l).1 = []
  | 0, _, _, _ => rfl
  | n + 1, i, [], h => absurd rfl h
  | n + 1, i, c :: r, h => by
    unfold tokF at h ⊢
    repeat' split
    all_goals first | rfl | skip
    · rename_i h1 h2; rw [if_pos h1, if_pos h2] at h; unfold consT at h ⊢; split at h <;> rename_i h3
      · exact absurd rfl h
      · rw [if_neg h3]
    · rename_i h1 h2; rw [if_neg h1, if_pos h2] at h; exact tokF_err _ _ _ h
    · rename_i h1 h2 h3; rw [if_neg h1, if_neg h2, if_pos h3] at h; exact tokF_err _ _ _ h
    · rename_i h1 h2 h3 h4; rw [if_neg h1, if_neg h2, if_neg h3, if_pos h4] at h; unfold consT at h ⊢; split at h <;> rename_i h5
      · exact absurd rfl h
      · rw [if_neg h5]
    · rename_i h1 h2 h3 h4 h5; rw [if_neg h1, if_neg h2, if_neg h3, if_neg h4, if_pos h5] at h; unfold consT at h ⊢; split at h <;> rename_i h6
      · exact absurd rfl h
      · rw [if_neg h6]
theorem lx_start (l : List UInt8) : LexAt l (tokS l) 0 [] := by
  refine ⟨Nat.zero_le _, Nat.le_refl _, l.length + 1, by omega, ?_⟩
  rw [List.drop_zero, preT_nil]
  show tokS l = _
  unfold tokS
  by_cases h : (tokF (l.length + 1) 0 l).2.1 = 0
  · rw [if_pos h]
  · rw [if_neg h, ← tokF_err _ _ _ h]
section
variable {l : List UInt8} {R : Toks} {i : Nat} {acc : List Tok}
theorem lx_end (h : LexAt l R i acc) (hi : ¬ i < l.length) : R = (acc ++ [mkT 3 [] l.length], 0, 0) ∧ i = l.length := by
  obtain ⟨h1, _, n, h2, rfl⟩ := h
  obtain rfl : i = l.length := by omega
  rw [List.drop_length]
  cases n with
  | zero => omega
  | succ n => exact ⟨by simp [tokF, preT], rfl⟩
theorem drop_cons' (hi : i < l.length) : l.drop i = l.getD i 0 :: l.drop (i + 1) := by
  rw [List.drop_eq_getElem_cons hi]
  congr 1
  simp [List.getD_eq_getElem?_getD, hi]
def runL (p : UInt8 → Bool) (l : List UInt8) (i : Nat) : Nat := ((l.drop i).takeWhile p).length
theorem runL_le (p : UInt8 → Bool) (l : List UInt8) (i : Nat) (h : i ≤ l.length) : i + runL p l i ≤ l.length := by
  have h1 := (List.takeWhile_sublist p (l := l.drop i)).length_le
  rw [List.length_drop] at h1
  unfold runL
  omega
theorem takeWhile_eq_take (p : UInt8 → Bool) : ∀ l : List UInt8, l.takeWhile p = l.take (l.takeWhile p).length
  | [] => rfl
  | c :: r => by
    by_cases h : p c = true
    · simp only [List.takeWhile_cons, h, if_true, List.length_cons, List.take_succ_cons]
      rw [← takeWhile_eq_take p r]
    · simp [h]
theorem runL_eq {p : UInt8 → Bool} {k : Nat} (hk : i + k ≤ l.length) (h1 : ∀ j, i ≤ j → j < i + k → p (l.getD j 0) = true) (h2 : i + k < l.length → p (l.getD (i + k) 0) = false) : runL p l i = k := by
  induction k generalizing i with
  | zero =>
    unfold runL
    by_cases hi : i < l.length
    · have h3 := h2 (by omega)
      rw [Nat.add_zero] at h3
      rw [drop_cons' hi, List.takeWhile_cons, if_neg (by rw [h3]; simp)]; rfl
    · rw [List.drop_eq_nil_of_le (by omega)]; rfl
  | succ k ih =>
    have hi : i < l.length := by omega
    have h3 : runL p l (i + 1) = k := ih (by omega) (fun j a b => h1 j (by omega) (by omega)) (fun h => by
      have := h2 (by omega)
      rw [show i + 1 + k = i + (k + 1) by omega]; exact this)
    unfold runL at h3 ⊢
    rw [drop_cons' hi, List.takeWhile_cons, if_pos (h1 i (Nat.le_refl _) (by omega)), List.length_cons, h3]
theorem runL_all (p : UInt8 → Bool) (h : i ≤ l.length) (j : Nat) (h1 : i ≤ j) (h2 : j < i + runL p l i) : p (l.getD j 0) = true := by
  have h4 : l.getD j 0 ∈ (l.drop i).takeWhile p := by
    have h5 := runL_le p l i h
    rw [takeWhile_eq_take p, List.mem_iff_getElem]
    unfold runL at h2 h5
    refine ⟨j - i, by rw [List.length_take, List.length_drop]; omega, ?_⟩
    rw [List.getElem_take, List.getElem_drop]
    simp [List.getD_eq_getElem?_getD, show i + (j - i) = j by omega, show j < l.length by omega]
  exact List.all_eq_true.1 List.all_takeWhile _ h4
theorem runL_pos {p : UInt8 → Bool} (hi : i < l.length) (h : p (l.getD i 0) = true) : 1 ≤ runL p l i := by
  unfold runL
  rw [drop_cons' hi, List.takeWhile_cons, if_pos h]; simp
theorem lx_word (h : LexAt l R i acc) (hi : i < l.length) (hw : wdB (l.getD i 0) = true) (ho : okW ((l.drop i).take (runL wdB l i)) = true) : LexAt l R (i + runL wdB l i) (acc ++ [mkT 1 ((l.drop i).take (runL wdB l i)) i]) ∧ 1 ≤ runL wdB l i := by
  have hr1 : 1 ≤ runL wdB l i := by
    unfold runL
    rw [drop_cons' hi, List.takeWhile_cons, if_pos hw]; simp
  have hr2 := runL_le wdB l i (by omega)
  obtain ⟨h1, h0, n, h2, rfl⟩ := h
  refine ⟨⟨hr2, by simp; omega, ?_⟩, hr1⟩
  cases n with
  | zero => omega
  | succ n =>
    refine ⟨n, by omega, ?_⟩
    have e : (l.drop i).take (runL wdB l i) = (l.drop i).takeWhile wdB := (takeWhile_eq_take wdB _).symm
    rw [e] at ho ⊢
    rw [← List.drop_drop]
    unfold runL
    rw [drop_cons' hi] at ho ⊢
    rw [tokF, if_pos hw, if_pos ho, preT_cons]
theorem lx_word_err (h : LexAt l R i acc) (hi : i < l.length) (hw : wdB (l.getD i 0) = true) (ho : okW ((l.drop i).take (runL wdB l i)) = false) : R = ([], 5, i) := by
  obtain ⟨h1, h0, n, h2, rfl⟩ := h
  cases n with
  | zero => omega
  | succ n =>
    have e : (l.drop i).take (runL wdB l i) = (l.drop i).takeWhile wdB := (takeWhile_eq_take wdB _).symm
    rw [e] at ho
    rw [drop_cons' hi] at ho ⊢
    rw [tokF, if_pos hw, if_neg (by rw [ho]; simp)]
    simp [preT]
theorem lx_space (h : LexAt l R i acc) (hi : i < l.length) (hw : wdB (l.getD i 0) = false) (hs : spB (l.getD i 0) = true) : LexAt l R (i + 1) acc := by
  obtain ⟨h1, h0, n, h2, rfl⟩ := h
  refine ⟨by omega, by omega, ?_⟩
  cases n with
  | zero => omega
  | succ n =>
    refine ⟨n, by omega, ?_⟩
    rw [drop_cons' hi, tokF, if_neg (by rw [hw]; simp), if_pos hs]
theorem sp_wd : ∀ c : UInt8, spB c = true → wdB c = false := by
  have h : ∀ n : Fin 256, (!spB (UInt8.ofNat n.val) || !wdB (UInt8.ofNat n.val)) = true := by decide +kernel
  intro c hc
  have hcc : UInt8.ofNat c.toNat = c := UInt8.ofNat_toNat
  have := h ⟨c.toNat, c.toNat_lt⟩
  simp only [hcc, hc] at this
  simpa using this
theorem lx_spaces (k : Nat) (h : LexAt l R i acc) (hk : i + k ≤ l.length) (hs : ∀ j, i ≤ j → j < i + k → spB (l.getD j 0) = true) : LexAt l R (i + k) acc := by
  induction k generalizing i with
  | zero => exact h
  | succ k ih =>
    have h3 := lx_space h (by omega) (sp_wd _ (hs i (Nat.le_refl _) (by omega))) (hs i (Nat.le_refl _) (by omega))
    have := ih h3 (by omega) (fun j a b => hs j (by omega) (by omega))
    rwa [show i + 1 + k = i + (k + 1) by omega] at this
theorem head_drop (h : i + 1 < l.length) : (l.drop (i + 1)).head? = some (l.getD (i + 1) 0) := by rw [drop_cons' h]; rfl
theorem lx_comment (h : LexAt l R i acc) (hi : i + 1 < l.length) (h1 : l.getD i 0 = 47) (h2 : l.getD (i + 1) 0 = 47) : LexAt l R (i + runL lnB l i) acc ∧ 2 ≤ runL lnB l i := by
  have hr1 : 2 ≤ runL lnB l i := by
    unfold runL
    rw [drop_cons' (by omega), drop_cons' hi, h1, h2, List.takeWhile_cons, if_pos (by decide), List.takeWhile_cons, if_pos (by decide)]; simp
  have hr2 := runL_le lnB l i (by omega)
  obtain ⟨h3, h0, n, h4, rfl⟩ := h
  refine ⟨⟨hr2, by omega, ?_⟩, hr1⟩
  cases n with
  | zero => omega
  | succ n =>
    refine ⟨n, by omega, ?_⟩
    rw [← List.drop_drop]
    unfold runL
    rw [drop_cons' (i := i) (by omega), tokF, h1, if_neg (by decide), if_neg (by decide), if_pos ⟨rfl, by rw [head_drop hi, h2]⟩]
theorem lx_arrow (h : LexAt l R i acc) (hi : i + 1 < l.length) (h1 : l.getD i 0 = 45) (h2 : l.getD (i + 1) 0 = 62) : LexAt l R (i + 2) (acc ++ [mkT 2 [45, 62] i]) := by
  obtain ⟨h3, h0, n, h4, rfl⟩ := h
  refine ⟨by omega, by simp; omega, ?_⟩
  cases n with
  | zero => omega
  | succ n =>
    refine ⟨n, by omega, ?_⟩
    rw [drop_cons' (i := i) (by omega), tokF, h1, if_neg (by decide), if_neg (by decide), if_neg (by simp), if_pos ⟨rfl, by rw [head_drop hi, h2]⟩, preT_cons, List.drop_drop]
def notNext (l : List UInt8) (i : Nat) (x y : UInt8) : Prop := l.getD i 0 = x → i + 1 < l.length → l.getD (i + 1) 0 ≠ y
theorem notNext_head (hi : i < l.length) {x y : UInt8} (h : notNext l i x y) : ¬ (l.getD i 0 = x ∧ (l.drop (i + 1)).head? = some y) := by
  rintro ⟨h1, h2⟩
  by_cases hl : i + 1 < l.length
  · rw [head_drop hl] at h2
    exact h h1 hl (Option.some.inj h2)
  · rw [List.drop_eq_nil_of_le (by omega)] at h2
    cases h2
theorem lx_sign (h : LexAt l R i acc) (hi : i < l.length) (hw : wdB (l.getD i 0) = false) (hs : spB (l.getD i 0) = false) (h1 : notNext l i 47 47) (h2 : notNext l i 45 62) (hg : sgB (l.getD i 0) = true) : LexAt l R (i + 1) (acc ++ [mkT 2 [l.getD i 0] i]) := by
  obtain ⟨h3, h0, n, h4, rfl⟩ := h
  refine ⟨by omega, by simp; omega, ?_⟩
  cases n with
  | zero => omega
  | succ n =>
    refine ⟨n, by omega, ?_⟩
    rw [drop_cons' hi, tokF, if_neg (by rw [hw]; simp), if_neg (by rw [hs]; simp), if_neg (notNext_head hi h1), if_neg (notNext_head hi h2), if_pos hg, preT_cons]
theorem lx_sign_err (h : LexAt l R i acc) (hi : i < l.length) (hw : wdB (l.getD i 0) = false) (hs : spB (l.getD i 0) = false) (h1 : notNext l i 47 47) (h2 : notNext l i 45 62) (hg : sgB (l.getD i 0) = false) : R = ([], 6, i) := by
  obtain ⟨h3, h0, n, h4, rfl⟩ := h
  cases n with
  | zero => omega
  | succ n =>
    rw [drop_cons' hi, tokF, if_neg (by rw [hw]; simp), if_neg (by rw [hs]; simp), if_neg (notNext_head hi h1), if_neg (notNext_head hi h2), if_neg (by rw [hg]; simp)]
    simp [preT]
end
def kt (t : Tok) : Int × List UInt8 := (t.1, t.2.1)
theorem wd_len (c : UInt8) (r : List UInt8) (h : wdB c = true) : 1 ≤ ((c :: r).takeWhile wdB).length := by rw [List.takeWhile_cons, if_pos h]; simp
theorem ln_len (c : UInt8) (r : List UInt8) (h : c = 47) : 1 ≤ ((c :: r).takeWhile lnB).length := by subst h; rw [List.takeWhile_cons, if_pos (by decide)]; simp
def GoodT (u : Tok) : Prop := (u.1 = 1 ∧ u.2.1 ≠ [] ∧ (∀ c ∈ u.2.1, wdB c = true) ∧ okW u.2.1 = true) ∨ (u.1 = 2 ∧ (u.2.1 = [45, 62] ∨ ∃ c, u.2.1 = [c] ∧ sgB c = true))
theorem GoodT.kind {u : Tok} (h : GoodT u) : u.1 ≠ 3 := by
 rcases h with ⟨h, _⟩ | ⟨h, _⟩ <;> rw [h] <;> decide
def OkTs (ts : List Tok) : Prop := ∃ us e, ts = us ++ [e] ∧ kt e = (3, []) ∧ ∀ u ∈ us, GoodT u
theorem okTs_cons {t : Tok} {r : Toks} (ht : GoodT t) (h : r.2.1 = 0 → OkTs r.1) (h0 : (consT t r).2.1 = 0) : OkTs (consT t r).1 := by
 unfold consT at h0 ⊢
 by_cases hc : r.2.1 = 0
 ·rw [if_pos hc]
  obtain ⟨us, e, h1, h2, h3⟩ := h hc
  exact ⟨t :: us, e, by rw [h1]; rfl, h2, fun u hu => by rcases List.mem_cons.1 hu with rfl | hu; exact ht; exact h3 u hu⟩
 ·rw [if_neg hc] at h0; exact absurd h0 hc
theorem tokF_ok : ∀ (n i : Nat) (l : List UInt8), l.length < n → (tokF n i l).2.1 = 0 → OkTs (tokF n i l).1
 | 0, _, _, h, _ => absurd h (by omega)
 | n + 1, i, [], _, _ => ⟨[], mkT 3 [] i, rfl, rfl, fun u hu => by cases hu⟩
 | n + 1, i, c :: r, h, h0 => by
  simp only [List.length_cons] at h
  unfold tokF at h0 ⊢
  by_cases hw : wdB c = true
  ·rw [if_pos hw] at h0 ⊢
   have h4 := wd_len c r hw
   by_cases ho : okW ((c :: r).takeWhile wdB) = true
   ·rw [if_pos ho] at h0 ⊢
    refine okTs_cons (.inl ⟨rfl, ?_, ?_, ho⟩) (tokF_ok n _ _ (by rw [List.length_drop, List.length_cons]; omega)) h0
    ·intro e; rw [show (mkT 1 ((c :: r).takeWhile wdB) i).2.1 = (c :: r).takeWhile wdB from rfl] at e; rw [e] at h4; simp at h4
    ·exact fun x hx => List.all_eq_true.1 List.all_takeWhile _ hx
   ·rw [if_neg ho] at h0; cases h0
  ·rw [if_neg hw] at h0 ⊢
   by_cases hs : spB c = true
   ·rw [if_pos hs] at h0 ⊢; exact tokF_ok n _ _ (by omega) h0
   ·rw [if_neg hs] at h0 ⊢
    by_cases hc : c = 47 ∧ r.head? = some 47
    ·rw [if_pos hc] at h0 ⊢
     have := ln_len c r hc.1
     exact tokF_ok n _ _ (by rw [List.length_drop, List.length_cons]; omega) h0
    ·rw [if_neg hc] at h0 ⊢
     by_cases ha : c = 45 ∧ r.head? = some 62
     ·rw [if_pos ha] at h0 ⊢
      exact okTs_cons (.inr ⟨rfl, .inl rfl⟩) (tokF_ok n _ _ (by rw [List.length_drop]; omega)) h0
     ·rw [if_neg ha] at h0 ⊢
      by_cases hg : sgB c = true
      ·rw [if_pos hg] at h0 ⊢
       exact okTs_cons (.inr ⟨rfl, .inr ⟨c, rfl, hg⟩⟩) (tokF_ok n _ _ (by omega)) h0
      ·rw [if_neg hg] at h0; cases h0
theorem sg_first (c : UInt8) (h : sgB c = true) : smallB c = false := by
 unfold sgB at h
 rw [List.contains_eq_mem, decide_eq_true_iff] at h
 simp only [sgL, List.mem_cons, List.not_mem_nil, or_false] at h
 rcases h with rfl | rfl | rfl | rfl | rfl | rfl | rfl | rfl | rfl | rfl | rfl | rfl <;> decide
theorem not_name {t : List UInt8} (h : smallB (t.getD 0 0) = false) : isName (bstr t) = false := by
 unfold isName
 rw [bstr_data, h]
 simp
theorem GoodT.name {u : Tok} (h : GoodT u) (hn : isName (bstr u.2.1) = true) : u.1 = 1 := by
 rcases h with ⟨h1, _⟩ | ⟨h1, h2 | ⟨c, h2, h3⟩⟩
 ·exact h1
 ·rw [h2, not_name (by decide)] at hn; cases hn
 ·rw [h2, not_name (by simpa using sg_first c h3)] at hn; cases hn
end Go.Proofs.YtkildckeikedhaaGreatDoor
namespace Go.Proofs.YtkildckeikedhaaGreatDoor
open Go.ChangeShapes Go.WideShapes Go.ChangeAt Go.RowKit
set_option linter.unusedVariables false

inductive Ex where
 | mk (k : Int) (via nm : List UInt8) (ks : List Ex)
def Ex.kind : Ex → Int | .mk k _ _ _ => k
def Ex.via : Ex → List UInt8 | .mk _ v _ _ => v
def Ex.nm : Ex → List UInt8 | .mk _ _ n _ => n
def Ex.kids : Ex → List Ex | .mk _ _ _ ks => ks
def ex0 : Ex := .mk 0 [] [] []
mutual
def depthE : Ex → Nat
 | .mk _ _ _ ks => depthL ks + 1
def depthL : List Ex → Nat
 | [] => 0
 | e :: r => max (depthE e) (depthL r)
end
theorem depthE_pos : ∀ e : Ex, 1 ≤ depthE e
 | .mk _ _ _ ks => by unfold depthE; omega
theorem depthL_get : ∀ (ks : List Ex) (i : Nat), i < ks.length → depthE (ks.getD i ex0) ≤ depthL ks
 | [], i, h => by simp at h
 | e :: r, 0, _ => by unfold depthL; exact Nat.le_max_left _ _
 | e :: r, i + 1, h => by
  unfold depthL
  exact Nat.le_trans (depthL_get r i (by simpa using h)) (Nat.le_max_right _ _)
theorem depthL_snoc : ∀ (ks : List Ex) (e : Ex), depthL (ks ++ [e]) = max (depthL ks) (depthE e)
 | [], e => by simp [depthL]
 | a :: r, e => by rw [List.cons_append]; unfold depthL; rw [depthL_snoc r e]; omega
theorem take_snocE {ks : List Ex} {k : Nat} (hk : k < ks.length) : ks.take (k + 1) = ks.take k ++ [ks.getD k ex0] := by
 rw [List.take_succ_eq_append_getElem hk, List.getD_eq_getElem?_getD, List.getElem?_eq_getElem hk]; rfl
theorem depthL_take : ∀ (ks : List Ex) (k : Nat), depthL (ks.take k) ≤ depthL ks
 | [], k => by simp
 | a :: r, 0 => by simp [depthL]
 | a :: r, k + 1 => by
  rw [List.take_succ_cons]; unfold depthL
  have := depthL_take r k
  omega
def leafK (k : Int) : Bool := k != 3 && k != 4 && k != 5
mutual
def leavesE : Ex → List Ex
 | .mk k v n ks => if leafK k = true then [.mk k v n ks] else leavesL ks
def leavesL : List Ex → List Ex
 | [] => []
 | e :: r => leavesE e ++ leavesL r
end
theorem leavesL_snoc : ∀ (ks : List Ex) (e : Ex), leavesL (ks ++ [e]) = leavesL ks ++ leavesE e
 | [], e => by simp [leavesL]
 | a :: r, e => by rw [List.cons_append]; unfold leavesL; rw [leavesL_snoc r e, List.append_assoc]
mutual
def sizeE : Ex → Nat
 | .mk _ _ _ ks => sizeL ks + 1
def sizeL : List Ex → Nat
 | [] => 0
 | e :: r => sizeE e + sizeL r
end
theorem sizeE_pos : ∀ e : Ex, 1 ≤ sizeE e
 | .mk _ _ _ ks => by unfold sizeE; omega
theorem sizeL_len : ∀ ks : List Ex, ks.length ≤ sizeL ks
 | [] => Nat.zero_le _
 | e :: r => by unfold sizeL; have := sizeE_pos e; have := sizeL_len r; simp only [List.length_cons]; omega
theorem sizeL_get : ∀ (ks : List Ex) (i : Nat), i < ks.length → sizeE (ks.getD i ex0) ≤ sizeL ks
 | [], i, h => by simp at h
 | e :: r, 0, _ => by unfold sizeL; exact Nat.le_add_right _ _
 | e :: r, i + 1, h => by
  unfold sizeL
  exact Nat.le_trans (sizeL_get r i (by simpa using h)) (Nat.le_add_left _ _)
mutual
theorem depth_size : ∀ e : Ex, depthE e ≤ sizeE e
 | .mk _ _ _ ks => by unfold depthE sizeE; have := depthL_size ks; omega
theorem depthL_size : ∀ ks : List Ex, depthL ks ≤ sizeL ks
 | [] => Nat.le_refl _
 | e :: r => by unfold depthL sizeL; have := depth_size e; have := depthL_size r; omega
end
def exv (e : Ex) (q : Option Addr) (c : Nat) : Value := .agg #[.int .i64 e.kind, .string (bstr e.via), .string (bstr e.nm), .slice q e.kids.length c]
mutual
def RdE (P : Nat → Prop) (w : World) : Ex → Value → Prop
 | .mk k via nm ks, v => ∃ q c, v = .agg #[.int .i64 k, .string (bstr via), .string (bstr nm), .slice q ks.length c] ∧ ks.length ≤ c ∧ (0 < ks.length → ∃ b o, q = some ⟨b, o, none⟩ ∧ P b ∧ RdL P w ks b o)
def RdL (P : Nat → Prop) (w : World) : List Ex → Nat → Nat → Prop
 | [], _, _ => True
 | e :: r, b, o => (∃ v0 v1 v2 v3, w.cell? ⟨b, o, none⟩ = some v0 ∧ w.cell? ⟨b, o + 1, none⟩ = some v1 ∧ w.cell? ⟨b, o + 2, none⟩ = some v2 ∧ w.cell? ⟨b, o + 3, none⟩ = some v3 ∧ RdE P w e (.agg #[v0, v1, v2, v3])) ∧ RdL P w r b (o + 4)
end
mutual
theorem RdE.keep {P : Nat → Prop} {w w' : World} (hk : ∀ b, P b → ∀ n, w'.cell? ⟨b, n, none⟩ = w.cell? ⟨b, n, none⟩) : ∀ {e : Ex} {v : Value}, RdE P w e v → RdE P w' e v
 | .mk k via nm ks, v, h => by
  unfold RdE at h ⊢
  obtain ⟨q, c, h1, h2, h3⟩ := h
  refine ⟨q, c, h1, h2, fun h0 => ?_⟩
  obtain ⟨b, o, h4, h5, h6⟩ := h3 h0
  exact ⟨b, o, h4, h5, RdL.keep hk h5 h6⟩
theorem RdL.keep {P : Nat → Prop} {w w' : World} (hk : ∀ b, P b → ∀ n, w'.cell? ⟨b, n, none⟩ = w.cell? ⟨b, n, none⟩) {b : Nat} (hb : P b) : ∀ {ks : List Ex} {o : Nat}, RdL P w ks b o → RdL P w' ks b o
 | [], _, _ => by unfold RdL; trivial
 | e :: r, o, h => by
  unfold RdL at h ⊢
  obtain ⟨⟨v0, v1, v2, v3, c0, c1, c2, c3, h1⟩, h2⟩ := h
  exact ⟨⟨v0, v1, v2, v3, (hk b hb _).trans c0, (hk b hb _).trans c1, (hk b hb _).trans c2, (hk b hb _).trans c3, RdE.keep hk h1⟩, RdL.keep hk hb h2⟩
end
mutual
theorem RdE.imp {P Q : Nat → Prop} {w : World} (hPQ : ∀ b, P b → Q b) : ∀ {e : Ex} {v : Value}, RdE P w e v → RdE Q w e v
 | .mk k via nm ks, v, h => by
  unfold RdE at h ⊢
  obtain ⟨q, c, h1, h2, h3⟩ := h
  refine ⟨q, c, h1, h2, fun h0 => ?_⟩
  obtain ⟨b, o, h4, h5, h6⟩ := h3 h0
  exact ⟨b, o, h4, hPQ b h5, RdL.imp hPQ h6⟩
theorem RdL.imp {P Q : Nat → Prop} {w : World} (hPQ : ∀ b, P b → Q b) {b : Nat} : ∀ {ks : List Ex} {o : Nat}, RdL P w ks b o → RdL Q w ks b o
 | [], _, _ => by unfold RdL; trivial
 | e :: r, o, h => by
  unfold RdL at h ⊢
  obtain ⟨⟨v0, v1, v2, v3, c0, c1, c2, c3, h1⟩, h2⟩ := h
  exact ⟨⟨v0, v1, v2, v3, c0, c1, c2, c3, RdE.imp hPQ h1⟩, RdL.imp hPQ h2⟩
end
theorem cells_below {C : Nat} {w w' : World} (hb : Below C w w') {P : Nat → Prop} (hP : ∀ b, P b → b < C) : ∀ b, P b → ∀ n, w'.cell? ⟨b, n, none⟩ = w.cell? ⟨b, n, none⟩ :=
 fun b h n => hb.cell (p := ⟨b, n, none⟩) (hP b h)
theorem RdE.below {P : Nat → Prop} {C : Nat} {w w' : World} {e : Ex} {v : Value} (h : RdE P w e v) (hb : Below C w w') (hP : ∀ b, P b → b < C) : RdE P w' e v := h.keep (cells_below hb hP)
def Bt (A B : Nat) : Nat → Prop := fun b => A ≤ b ∧ b < B
theorem RdE.form {P : Nat → Prop} {w : World} {e : Ex} {v : Value} (h : RdE P w e v) : ∃ q c, v = exv e q c ∧ e.kids.length ≤ c ∧ (0 < e.kids.length → ∃ b o, q = some ⟨b, o, none⟩ ∧ P b ∧ RdL P w e.kids b o) := by
 cases e with
 | mk k via nm ks => unfold RdE at h; exact h
theorem RdE.of {P : Nat → Prop} {w : World} {e : Ex} {q : Option Addr} {c : Nat} (h1 : e.kids.length ≤ c) (h2 : 0 < e.kids.length → ∃ b o, q = some ⟨b, o, none⟩ ∧ P b ∧ RdL P w e.kids b o) : RdE P w e (exv e q c) := by
 cases e with
 | mk k via nm ks => unfold RdE; exact ⟨q, c, rfl, h1, h2⟩
theorem RdL.at {P : Nat → Prop} {w : World} {b : Nat} : ∀ {ks : List Ex} {o i : Nat}, RdL P w ks b o → i < ks.length → ∃ q c, w.cell? ⟨b, o + i * 4, none⟩ = some (.int .i64 (ks.getD i ex0).kind) ∧ w.cell? ⟨b, o + i * 4 + 1, none⟩ = some (.string (bstr (ks.getD i ex0).via)) ∧
  w.cell? ⟨b, o + i * 4 + 2, none⟩ = some (.string (bstr (ks.getD i ex0).nm)) ∧ w.cell? ⟨b, o + i * 4 + 3, none⟩ = some (.slice q (ks.getD i ex0).kids.length c) ∧ RdE P w (ks.getD i ex0) (exv (ks.getD i ex0) q c)
 | [], _, _, _, h => by simp at h
 | e :: r, o, 0, h, _ => by
  unfold RdL at h
  obtain ⟨⟨v0, v1, v2, v3, c0, c1, c2, c3, h1⟩, _⟩ := h
  obtain ⟨q, c, h2, h3, h4⟩ := h1.form
  unfold exv at h2
  simp only [Value.agg.injEq, Array.mk.injEq, List.cons.injEq, and_true] at h2
  obtain ⟨rfl, rfl, rfl, rfl⟩ := h2
  simp only [Nat.zero_mul, Nat.add_zero]
  exact ⟨q, c, c0, c1, c2, c3, h1⟩
 | e :: r, o, i + 1, h, hi => by
  unfold RdL at h
  have := RdL.at (i := i) h.2 (by simpa using hi)
  rw [show o + 4 + i * 4 = o + (i + 1) * 4 by omega] at this
  exact this
end Go.Proofs.YtkildckeikedhaaGreatDoor
namespace Go.Proofs.YtkildckeikedhaaGreatDoor
open Go.ChangeShapes Go.WideShapes Go.ChangeAt Go.RowKit

theorem Tryz.info5 : (Tryz.prog.info? 5).map (fun i => (i.zero, i.size, i.bytes)) = some (some (.int .u8 0), 1, 1) := by kernel_rfl

def Rd (B : Nat) (w : World) (v : Value) (l : List UInt8) : Prop :=
 (∃ oa, v = .slice oa 0 0 ∧ l = []) ∨
 ∃ b off cap, v = .slice (some ⟨b, off, none⟩) l.length cap ∧ l.length ≤ cap ∧ cap ≤ maxLen ∧ b < B ∧ ∀ i, i < l.length → w.cell? ⟨b, off + i, none⟩ = some (bv (l.getD i 0))

theorem Rd.below {B C : Nat} {w w' : World} {v : Value} {l : List UInt8} (h : Rd B w v l) (hb : Below C w w') (hC : B ≤ C) : Rd B w' v l := by
 rcases h with h | ⟨b, off, cap, hv, h1, h2, h3, hc⟩
 ·exact .inl h
 ·exact .inr ⟨b, off, cap, hv, h1, h2, h3, fun i hi => (hb.cell (by show b < C; omega)).trans (hc i hi)⟩
theorem Rd.mono {B C : Nat} {w : World} {v : Value} {l : List UInt8} (h : Rd B w v l) (hC : B ≤ C) : Rd C w v l := by
 rcases h with h | ⟨b, off, cap, hv, h1, h2, h3, hc⟩
 ·exact .inl h
 ·exact .inr ⟨b, off, cap, hv, h1, h2, by omega, hc⟩

theorem bvs_getElem (l : List UInt8) (i : Nat) (h : i < l.length) : (bvs l)[i]? = some (bv (l.getD i 0)) := by
 simp [bvs, List.getElem?_eq_getElem h]

theorem Rd.of_own {base n : Nat} {w : World} {v : Value} {l : List UInt8} (h : w.ownsRow base 5 1 v n (bvs l)) : Rd w.heap.size w v l := by
 obtain rfl : n = l.length := by have := h.1; rw [bvs_length] at this; omega
 rcases h.2 with ⟨hv, hn⟩ | ⟨g, cap, cur, hv, hb, hg, h1, h2, h3, h4⟩
 ·exact .inl ⟨none, hv, List.eq_nil_of_length_eq_zero hn⟩
 ·refine .inr ⟨g, 0, cap, hv, h1, h2, (Array.getElem?_eq_some_iff.1 hg).1, fun i hi => ?_⟩
  rw [Nat.zero_add, cell_of_row w g i cur 5 (0, 0) hg]
  have := bvs_getElem l i hi
  rw [← h4, List.getElem?_take] at this
  split at this
  ·simpa using this
  ·cases this

theorem u64_nat {a : Int} (h : (Lit.int .u64 a).wf = true) : ∃ n : Nat, a = n ∧ n < lim64 := by
 have hb : 0 ≤ a ∧ a ≤ 18446744073709551615 := by simpa [Lit.wf, IntKind.min, IntKind.max, IntKind.signed, IntKind.bits] using h
 exact ⟨a.toNat, by omega, by unfold lim64; omega⟩

theorem rd_open {H : Type} {enc : TypeId × Value → H} {w : World} {a : Option Addr} {len cap : Nat} {d : DataW H} {p : List MemPlace} {fuel : Nat}
  (hf : DataW.trod enc Tryz.prog w 0 (fun _ => true) true fuel 71 (Value.slice a len cap).cells.toList = some (d, p)) : ∃ l, l.length = len ∧ Rd w.heap.size w (.slice a len cap) l := by
 rcases open_ints Tryz.underlying71 Tryz.underlying5 (by kernel_rfl) hf with ⟨hcs, _⟩ | ⟨x, l, c, zs, hcs, _, hl, hm, hz, _, hcell, hwz⟩
 ·simp [Value.cells] at hcs
  obtain ⟨rfl, rfl, rfl⟩ := hcs
  exact ⟨[], rfl, .inl ⟨_, rfl, rfl⟩⟩
 ·simp [Value.cells] at hcs
  obtain ⟨rfl, rfl, rfl⟩ := hcs
  have hz' : zs.length = cap := by simpa using hz
  have hll : ((zs.take len).map (fun z => UInt8.ofNat z.toNat)).length = len := by simp; omega
  refine ⟨(zs.take len).map (fun z => UInt8.ofNat z.toNat), hll, ?_⟩
  by_cases h0 : len = 0
  ·subst h0
   by_cases hc0 : cap = 0
   ·subst hc0; exact .inl ⟨_, rfl, by simp⟩
   ·obtain ⟨b, off, spot⟩ := x
    have hc := hcell 0 (by omega)
    have hspot : spot = none := by simpa [Addr.add] using World.cell?_spot hc
    subst hspot
    have hb := World.block_lt_of_cell? w _ hc
    exact .inr ⟨b, off, cap, by simp, by simp, hm, by simpa [Addr.add] using hb, fun i hi => by simp at hi⟩
  ·obtain ⟨b, off, spot⟩ := x
   have hc := hcell 0 (by omega)
   have hspot : spot = none := by simpa [Addr.add] using World.cell?_spot hc
   subst hspot
   have hb := World.block_lt_of_cell? w _ hc
   refine .inr ⟨b, off, cap, by rw [hll], by omega, hm, by simpa [Addr.add] using hb, fun i hi => ?_⟩
   have hi' : i < zs.length := by omega
   have e : (⟨b, off, none⟩ : Addr).add i = ⟨b, off + i, none⟩ := by unfold Addr.add; split <;> simp_all
   have hci := hcell i hi'
   rw [e] at hci
   rw [hci]
   have hi2 : i < len := by omega
   have hg : zs.getD i 0 = zs[i] := by simp [List.getD_eq_getElem?_getD, List.getElem?_eq_getElem hi']
   have hw := hwz zs[i] (List.getElem_mem hi')
   have hbd : 0 ≤ zs[i] ∧ zs[i] ≤ 255 := by simpa [Lit.wf, IntKind.min, IntKind.max, IntKind.signed, IntKind.bits] using hw
   rw [hg]
   have hgd : ((zs.take len).map (fun z => UInt8.ofNat z.toNat)).getD i 0 = UInt8.ofNat zs[i].toNat := by
    rw [List.getD_eq_getElem?_getD, List.getElem?_map, List.getElem?_take, if_pos hi2, List.getElem?_eq_getElem hi']; rfl
   rw [hgd]
   unfold bv
   congr 2
   rw [UInt8.toNat_ofNat']
   omega

theorem Rd.take {B : Nat} {w : World} {oa : Option Addr} {n cap k : Nat} {p : List UInt8} (h : Rd B w (.slice oa n cap) p) (hk : k ≤ p.length) : Rd B w (.slice oa k cap) (p.take k) := by
 rcases h with ⟨oa', hv, rfl⟩ | ⟨b, off, cap', hv, h1, h2, h3, hc⟩
 ·obtain rfl : k = 0 := by simpa using hk
  simp only [Value.slice.injEq] at hv
  obtain ⟨rfl, _, rfl⟩ := hv
  exact .inl ⟨_, rfl, rfl⟩
 ·simp only [Value.slice.injEq] at hv
  obtain ⟨rfl, _, rfl⟩ := hv
  have hl : (p.take k).length = k := by rw [List.length_take]; omega
  refine .inr ⟨b, off, cap, by rw [hl], by omega, h2, h3, fun i hi => ?_⟩
  rw [hc i (by omega)]
  congr 2
  simp [List.getD_eq_getElem?_getD, show i < k from by omega]

def Owned (w : World) (l : List UInt8) (e : Ending) (w' : World) : Prop := ∃ v, e = .returned v ∧ w'.ownsRow w.heap.size 5 1 v l.length (bvs l) ∧ Below w.heap.size w w'

theorem below_append {B : Nat} {w wr w1 : World} {base size n e : Nat} {v : Value} {xs : List Value} {o : Obj} (hb : Below B w wr) (hB : B ≤ wr.heap.size) (hbase : B ≤ base) (hown : wr.ownsRow base e size v n xs) (hg : (wr.alloc o).grownBy w1 v.ownBlock) : Below B w w1 :=
 (hb.alloc hB o).grown hg (by simp; omega) (fun k hk => Nat.le_trans hbase (hown.lt k hk).1)
end Go.Proofs.YtkildckeikedhaaGreatDoor
namespace Go.Proofs.YtkildckeikedhaaGreatDoor
open Go.ChangeShapes Go.WideShapes Go.ChangeAt Go.RowKit
set_option linter.unusedVariables false

def Arr (w : World) (t : TypeId) (g : Nat) (cs : List Value) : Prop := w.heap[g]? = some (.cells cs.toArray t (0, 0))
theorem Arr.lt {w : World} {t : TypeId} {g : Nat} {cs : List Value} (h : Arr w t g cs) : g < w.heap.size := (Array.getElem?_eq_some_iff.1 h).1
theorem Arr.cell {w : World} {t : TypeId} {g : Nat} {cs : List Value} (h : Arr w t g cs) (i : Nat) : w.cell? ⟨g, i, none⟩ = cs[i]? := by
 rw [cell_of_row w g i _ t (0, 0) h]; simp
theorem Arr.free {w : World} {t : TypeId} {g : Nat} {cs : List Value} (h : Arr w t g cs) (i : Nat) : w.frozen? ⟨g, i, none⟩ = false := by
 have h' : w.heap[g]? = some (.cells cs.toArray t (0, 0)) := h
 simp [World.frozen?, h']
theorem Arr.below {B : Nat} {w w' : World} {t : TypeId} {g : Nat} {cs : List Value} (h : Arr w t g cs) (hb : Below B w w') (hg : g < B) : Arr w' t g cs := (hb.block g hg).trans h
theorem Arr.later {w w' : World} {t : TypeId} {g : Nat} {cs : List Value} (h : Arr w t g cs) (hb : Below w.heap.size w w') : Arr w' t g cs := h.below hb h.lt
theorem Arr.alloc {w : World} {t : TypeId} {g : Nat} {cs : List Value} (h : Arr w t g cs) (o : Obj) : Arr (w.alloc o) t g cs := (Below.heap_alloc w o g h.lt).trans h
theorem Arr.new (w : World) (t : TypeId) (cs : Array Value) : Arr (w.alloc (.cells cs t)) t w.heap.size cs.toList := by
 show (w.heap.push _)[w.heap.size]? = _
 simp
theorem Arr.new' (w : World) (t : TypeId) (cs : Array Value) (l : List Value) (h : cs.toList = l) : Arr (w.alloc (.cells cs t)) t w.heap.size l := h ▸ Arr.new w t cs
theorem Arr.setCell {w : World} {t : TypeId} {g : Nat} {cs : List Value} (h : Arr w t g cs) {a : Addr} (ha : g ≠ a.block) (v : Value) : Arr (w.setCell a v) t g cs := (Below.heap_setCell w a v g ha).trans h
theorem Arr.set {w : World} {t : TypeId} {g : Nat} {cs : List Value} (h : Arr w t g cs) (i : Nat) (v : Value) : Arr (w.setCell ⟨g, i, none⟩ v) t g (cs.set i v) := by
 have h' : w.heap[g]? = some (.cells cs.toArray t (0, 0)) := h
 show (w.setCell ⟨g, i, none⟩ v).heap[g]? = _
 rw [setCell_eq_setRow w g i cs.toArray t (0, 0) v h', setRow_heap w g cs.toArray _ t _ h']
 congr 2
 apply Array.ext'
 simp
theorem Arr.row {w : World} {t : TypeId} {g : Nat} {cs : List Value} (h : Arr w t g cs) (cs' : List Value) : Arr (w.setRow g cs'.toArray) t g cs' := setRow_heap w g cs.toArray _ t _ h
theorem Arr.row_other {w : World} {t : TypeId} {g k : Nat} {cs : List Value} (h : Arr w t g cs) (hk : g ≠ k) (c : Array Value) : Arr (w.setRow k c) t g cs := by
 show (w.setRow k c).heap[g]? = _
 simp only [World.setRow, Array.getElem?_modify]
 rw [if_neg (fun e => hk e.symm)]
 exact h
theorem Arr.drew {w : World} {t : TypeId} {g : Nat} {cs : List Value} (h : Arr w t g cs) : Arr w.drew t g cs := h
theorem Arr.drewN {w : World} {t : TypeId} {g : Nat} {cs : List Value} (h : Arr w t g cs) (n : Nat) : Arr (w.drewN n) t g cs := h.below ((Joins.below_draws w.heap.size w n)) h.lt
theorem Arr.range {w : World} {t : TypeId} {g : Nat} {cs : List Value} (h : Arr w t g cs) : w.rangeAt g 0 cs := fun j v hv => by
 rw [Nat.zero_add, h.cell j, hv]
theorem below_row {B : Nat} {a w : World} (h : Below B a w) {g : Nat} (hg : B ≤ g) (c : Array Value) : Below B a (w.setRow g c) :=
 h.trans ⟨rfl, rfl, rfl, by simp [World.setRow], fun k hk => by
  simp only [World.setRow, Array.getElem?_modify]
  rw [if_neg (by omega)]⟩

theorem Arr.new2 (w : World) (o : Obj) (t : TypeId) (cs : Array Value) (l : List Value) (h : cs.toList = l) : Arr ((w.alloc o).alloc (.cells cs t)) t (w.heap.size + 1) l := by
 have := Arr.new' (w.alloc o) t cs l h
 rw [show (w.alloc o).heap.size = w.heap.size + 1 from by simp] at this
 exact this
theorem Arr.new3 (w : World) (o o2 : Obj) (t : TypeId) (cs : Array Value) (l : List Value) (h : cs.toList = l) : Arr (((w.alloc o).alloc o2).alloc (.cells cs t)) t (w.heap.size + 2) l := by
 have := Arr.new' ((w.alloc o).alloc o2) t cs l h
 rw [show ((w.alloc o).alloc o2).heap.size = w.heap.size + 2 from by simp] at this
 exact this
theorem index_arr {P : Program} {t e : TypeId} {n : Nat} (hu : P.underlying t = some (.array n e)) {d : TypeDesc} (he : P.underlying e = some d) (hd : d.isRow = false) {ie : TypeInfo} (hi : P.info? e = some ie) (hs : ie.size = 1)
  (cs : List Value) (k : IntKind) (i : Nat) (hn : i < n) {v : Value} (hv : cs[i]? = some v) (w : World) : (Instr.index t (.agg cs.toArray) (.int k i)).run P w = .ok v w := by
 have ha : (isAgg e).run P w = .ok false w := by
  unfold isAgg
  rw [Sem.run_bind, run_underlying he w]
  cases d <;> simp_all [TypeDesc.isRow]
 have hz : (sizeOf e).run P w = .ok 1 w := by simp [sizeOf, typeInfo, hi, hs]
 have h0 : (0 : Int) ≤ i ∧ (i : Int) < n := by omega
 simp [Instr.index, asIntOf, Sem.run_bind, run_underlying hu w, hz, hn, part, ha, hv]

theorem quiet_left {P : Program} {f : FuncId} {args : Array Value} {w : World} {n : Nat} {v : Value}
  (h : Calls P f args (w.drewN n) fun e w' => e = .returned v ∧ w.drewN n = w') : Calls P f args (w.drewN n) fun e w'' => e = .returned v ∧ ∃ m, w'' = w.drewN m :=
 h.mono fun _ _ ⟨he, hm⟩ => ⟨he, n, hm.symm⟩

section
variable {P : Program} {ops : Array Oper} {rest : List Oper} {o : Oper} {a : Act} {Q : Exit → Act → World → Prop} {w : World}
theorem region_tail {id : Nat} {l : List Oper} (n : Nat) (hm : P.follows .mixedOrders = true) (hB : Region.lexTailB .any l.toArray n = true)
  (h : wpStill P l.toArray w.drew (fun a' => wpList P l.toArray Q (l.drop n) a' w.drew) (l.take n) a) : (Code.region id l.toArray true).wp P Q a w := wp_region_still_tail n hm hB h
theorem still_load {Q' : Act → Prop} (hgd : o.guard = none) (ty : TypeId) (x : Operand) (ho : o.op = .load ty x) (b off : Nat) (hx : a.eval x = .pointer (some ⟨b, off, none⟩)) (cs : List Value) (d : TypeDesc) (hc : w.rangeAt b off cs)
  (hu : P.underlying ty = some d) (hd : d.isRow = true) (hi : (P.info? ty).map (·.size) = some cs.length) (h : wpStill P ops w Q' rest (a.put o.dst (.agg cs.toArray))) : wpStill P ops w Q' (o :: rest) a := by
 refine wpStill_step (fun K hK => ?_)
 have hw : Region.wanted o (yielded ops a.tmps) = true := by simp [Region.wanted, hgd]
 rw [if_pos hw]
 unfold Oper.still execOp
 simp only [ho, hx, Instr.loadAt, Instr.sureAddr, Sem.run_bind, Sem.run_pure, Result.andThen_ok, run_loadVar_mid w b off ty cs d hc hu hd hi]
 exact ⟨rfl, hK _ h⟩
theorem load_arr (hgd : o.guard = none) (ty : TypeId) (x : Operand) (ho : o.op = .load ty x) {g : Nat} {t : TypeId} {cs : List Value} (h : Arr w t g cs) (hx : a.eval x = .pointer (some ⟨g, 0, none⟩)) {d : TypeDesc}
  (hu : P.underlying ty = some d) (hd : d.isRow = true) (hi : (P.info? ty).map (·.size) = some cs.length)
  (hk : wpList P ops Q rest (a.put o.dst (.agg cs.toArray)) w) : wpList P ops Q (o :: rest) a w :=
 wpList_load_mid hgd ty x ho g 0 hx cs d h.range hu hd hi hk
theorem store_arr (hgd : o.guard = none) (ty : TypeId) (x y : Operand) (ho : o.op = .store ty x y) {g : Nat} {t : TypeId} {old cs : List Value} (h : Arr w t g old) (hx : a.eval x = .pointer (some ⟨g, 0, none⟩)) (hy : a.eval y = .agg cs.toArray)
  (hi : (P.info? ty).map (·.size) = some cs.length) (hold : old.length = cs.length) (h1 : ∀ v ∈ cs, v.oneCell' = true)
  (hk : wpList P ops Q rest (a.put o.dst undef) (w.setRow g cs.toArray)) : wpList P ops Q (o :: rest) a w :=
 wpList_store_row hgd ty x y ho g cs.toArray hx hy t old.toArray h (by simpa using hi) (by simpa using hold) (Array.all_eq_true_iff_forall_mem.2 (fun v hv => h1 v (by simpa using hv))) hk
end
theorem results_cell_tmp {P : Program} {fn : Func} {p q : Tmp} {ty : TypeId} (h : fn.results = #[.cell p ty, .tmp q]) (tmps : Array Value) (w : World) (g : Nat) (t : TypeId) (cs : Array Value) (fr : Nat × Nat) (d : TypeDesc)
  (hp : tmps.getD p undef = .pointer (some ⟨g, 0, none⟩)) (hg : w.heap[g]? = some (.cells cs t fr))
  (hu : P.underlying ty = some d) (hd : (match d with | .struct _ | .array _ _ => true | _ => false) = true) (hi : (P.info? ty).map (·.size) = some cs.size) :
  (results fn tmps).run P w = .ok (.tuple #[.agg cs, tmps.getD q undef]) w := by
 have hp' : tmps[p]?.getD undef = .pointer (some ⟨g, 0, none⟩) := by simpa using hp
 simp [results, h, hp', asAddr, run_loadVar_row w g t ty cs fr d hg hu hd hi]
theorem Arr.all1 {w : World} {t : TypeId} {g : Nat} {a0 : Value} (h : Arr w t g [a0]) : w.cell? ⟨g, 0, none⟩ = some a0 ∧ w.frozen? ⟨g, 0, none⟩ = false := ⟨h.cell 0, h.free 0⟩
theorem Arr.all2 {w : World} {t : TypeId} {g : Nat} {a0 a1 : Value} (h : Arr w t g [a0, a1]) : w.cell? ⟨g, 0, none⟩ = some a0 ∧ w.frozen? ⟨g, 0, none⟩ = false ∧ w.cell? ⟨g, 1, none⟩ = some a1 ∧ w.frozen? ⟨g, 1, none⟩ = false := ⟨h.cell 0, h.free 0, h.cell 1, h.free 1⟩
theorem Arr.all3 {w : World} {t : TypeId} {g : Nat} {a0 a1 a2 : Value} (h : Arr w t g [a0, a1, a2]) : w.cell? ⟨g, 0, none⟩ = some a0 ∧ w.frozen? ⟨g, 0, none⟩ = false ∧ w.cell? ⟨g, 1, none⟩ = some a1 ∧ w.frozen? ⟨g, 1, none⟩ = false ∧ w.cell? ⟨g, 2, none⟩ = some a2 ∧ w.frozen? ⟨g, 2, none⟩ = false := ⟨h.cell 0, h.free 0, h.cell 1, h.free 1, h.cell 2, h.free 2⟩
theorem Arr.all4 {w : World} {t : TypeId} {g : Nat} {a0 a1 a2 a3 : Value} (h : Arr w t g [a0, a1, a2, a3]) : w.cell? ⟨g, 0, none⟩ = some a0 ∧ w.frozen? ⟨g, 0, none⟩ = false ∧ w.cell? ⟨g, 1, none⟩ = some a1 ∧ w.frozen? ⟨g, 1, none⟩ = false ∧ w.cell? ⟨g, 2, none⟩ = some a2 ∧ w.frozen? ⟨g, 2, none⟩ = false ∧ w.cell? ⟨g, 3, none⟩ = some a3 ∧ w.frozen? ⟨g, 3, none⟩ = false := ⟨h.cell 0, h.free 0, h.cell 1, h.free 1, h.cell 2, h.free 2, h.cell 3, h.free 3⟩
theorem Arr.all5 {w : World} {t : TypeId} {g : Nat} {a0 a1 a2 a3 a4 : Value} (h : Arr w t g [a0, a1, a2, a3, a4]) : w.cell? ⟨g, 0, none⟩ = some a0 ∧ w.frozen? ⟨g, 0, none⟩ = false ∧ w.cell? ⟨g, 1, none⟩ = some a1 ∧ w.frozen? ⟨g, 1, none⟩ = false ∧ w.cell? ⟨g, 2, none⟩ = some a2 ∧ w.frozen? ⟨g, 2, none⟩ = false ∧ w.cell? ⟨g, 3, none⟩ = some a3 ∧ w.frozen? ⟨g, 3, none⟩ = false ∧ w.cell? ⟨g, 4, none⟩ = some a4 ∧ w.frozen? ⟨g, 4, none⟩ = false := ⟨h.cell 0, h.free 0, h.cell 1, h.free 1, h.cell 2, h.free 2, h.cell 3, h.free 3, h.cell 4, h.free 4⟩
theorem Arr.all7 {w : World} {t : TypeId} {g : Nat} {a0 a1 a2 a3 a4 a5 a6 : Value} (h : Arr w t g [a0, a1, a2, a3, a4, a5, a6]) : w.cell? ⟨g, 0, none⟩ = some a0 ∧ w.frozen? ⟨g, 0, none⟩ = false ∧ w.cell? ⟨g, 1, none⟩ = some a1 ∧ w.frozen? ⟨g, 1, none⟩ = false ∧ w.cell? ⟨g, 2, none⟩ = some a2 ∧ w.frozen? ⟨g, 2, none⟩ = false ∧ w.cell? ⟨g, 3, none⟩ = some a3 ∧ w.frozen? ⟨g, 3, none⟩ = false ∧ w.cell? ⟨g, 4, none⟩ = some a4 ∧ w.frozen? ⟨g, 4, none⟩ = false ∧ w.cell? ⟨g, 5, none⟩ = some a5 ∧ w.frozen? ⟨g, 5, none⟩ = false ∧ w.cell? ⟨g, 6, none⟩ = some a6 ∧ w.frozen? ⟨g, 6, none⟩ = false := ⟨h.cell 0, h.free 0, h.cell 1, h.free 1, h.cell 2, h.free 2, h.cell 3, h.free 3, h.cell 4, h.free 4, h.cell 5, h.free 5, h.cell 6, h.free 6⟩
theorem Arr.off2 {w : World} {t : TypeId} {g b : Nat} {cs : List Value} (h : Arr w t g cs) (hb : g ≠ b) (a0 a1 : Value) : Arr ((w.setCell ⟨b, 0, none⟩ a0).setCell ⟨b, 1, none⟩ a1) t g cs := ((h.setCell (a := ⟨b, 0, none⟩) hb a0).setCell (a := ⟨b, 1, none⟩) hb a1)
theorem Arr.off4 {w : World} {t : TypeId} {g b : Nat} {cs : List Value} (h : Arr w t g cs) (hb : g ≠ b) (a0 a1 a2 a3 : Value) : Arr ((((w.setCell ⟨b, 0, none⟩ a0).setCell ⟨b, 1, none⟩ a1).setCell ⟨b, 2, none⟩ a2).setCell ⟨b, 3, none⟩ a3) t g cs := ((((h.setCell (a := ⟨b, 0, none⟩) hb a0).setCell (a := ⟨b, 1, none⟩) hb a1).setCell (a := ⟨b, 2, none⟩) hb a2).setCell (a := ⟨b, 3, none⟩) hb a3)
theorem Arr.off5 {w : World} {t : TypeId} {g b : Nat} {cs : List Value} (h : Arr w t g cs) (hb : g ≠ b) (a0 a1 a2 a3 a4 : Value) : Arr (((((w.setCell ⟨b, 0, none⟩ a0).setCell ⟨b, 1, none⟩ a1).setCell ⟨b, 2, none⟩ a2).setCell ⟨b, 3, none⟩ a3).setCell ⟨b, 4, none⟩ a4) t g cs := (((((h.setCell (a := ⟨b, 0, none⟩) hb a0).setCell (a := ⟨b, 1, none⟩) hb a1).setCell (a := ⟨b, 2, none⟩) hb a2).setCell (a := ⟨b, 3, none⟩) hb a3).setCell (a := ⟨b, 4, none⟩) hb a4)
end Go.Proofs.YtkildckeikedhaaGreatDoor
