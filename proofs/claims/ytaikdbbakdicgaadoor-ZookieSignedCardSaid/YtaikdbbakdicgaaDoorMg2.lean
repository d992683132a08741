/-
  The words of a schedule while they are made; plain facts.
-/
import Derived.Test.YtaikdbbakdicgaaDoorMg1
import Derived.Deep.WholeRow
import Derived.BigQuiet
import Derived.Deep.QuietTactic
import Derived.StillTailTactics
import Derived.IntWalk
import Derived.Test.YtaikdbbakdicgaaDoorMg0
import Derived.Deep.AppendSrc
import Derived.ArgAppend
import Derived.Lib.SlBuf
import Derived.OwnWalk
import Derived.Deep.RegionLaw
namespace Go.Proofs.YtaikdbbakdicgaaDoor

/-- The 64 words when i bytes are in. -/
def mid (b : List UInt8) (i : Nat) : List UInt32 := (List.range 64).map fun j => if j < 16 then wpart b j (min 4 (i - 4 * j)) else 0
theorem mid_length (b : List UInt8) (i : Nat) : (mid b i).length = 64 := by simp [mid]
theorem mid_get (b : List UInt8) (i j : Nat) (h : j < 64) : (mid b i).getD j 0 = if j < 16 then wpart b j (min 4 (i - 4 * j)) else 0 := by
  simp [mid, List.getD_eq_getElem?_getD, h]
theorem getD_ext {l m : List UInt32} (hl : l.length = m.length) (h : ∀ j, j < l.length → l.getD j 0 = m.getD j 0) : l = m := by
  apply List.ext_getElem hl
  intro j h1 h2
  have := h j h1
  simpa [List.getD_eq_getElem?_getD, List.getElem?_eq_getElem h1, List.getElem?_eq_getElem h2] using this
theorem getD_set (l : List UInt32) (i j : Nat) (x : UInt32) (h : i < l.length) : (l.set i x).getD j 0 = if j = i then x else l.getD j 0 := by
  by_cases e : j = i
  · subst e; simp [List.getD_eq_getElem?_getD, h]
  · rw [if_neg e, List.getD_eq_getElem?_getD, List.getElem?_set_ne (fun h => e h.symm), ← List.getD_eq_getElem?_getD]
theorem mid_next (b : List UInt8) (i : Nat) (h : i < 64) : (mid b i).set (i / 4) ((mid b i).getD (i / 4) 0 * 256 + (b.getD i 0).toUInt32) = mid b (i + 1) := by
  apply getD_ext
  · simp [mid_length]
  · intro j hj
    rw [List.length_set, mid_length] at hj
    rw [getD_set _ _ _ _ (by rw [mid_length]; omega), mid_get b (i + 1) j hj, mid_get b i (i / 4) (by omega), mid_get b i j hj, if_pos (show i / 4 < 16 by omega)]
    by_cases e : j = i / 4
    · subst e
      rw [if_pos rfl, if_pos (show i / 4 < 16 by omega), show min 4 (i + 1 - 4 * (i / 4)) = min 4 (i - 4 * (i / 4)) + 1 by omega, wpart, show 4 * (i / 4) + min 4 (i - 4 * (i / 4)) = i by omega]
    · rw [if_neg e]
      by_cases h16 : j < 16
      · rw [if_pos h16, if_pos h16]
        congr 1
        omega
      · rw [if_neg h16, if_neg h16]
theorem rep_get (n j : Nat) : (List.replicate n (0 : UInt32)).getD j 0 = 0 := by
  rw [List.getD_eq_getElem?_getD, List.getElem?_replicate]
  split <;> rfl
theorem mid_zero (b : List UInt8) : mid b 0 = List.replicate 64 0 := by
  apply getD_ext
  · simp [mid_length]
  · intro j hj
    rw [mid_length] at hj
    rw [mid_get b 0 j hj, rep_get]
    simp [wpart]
/-- The 64 words when i of them are there. -/
def ext64 (b : List UInt8) (i : Nat) : List UInt32 := extN (i - 16) (words16 b) ++ List.replicate (64 - i) 0
theorem ext64_length (b : List UInt8) (i : Nat) (h : 16 ≤ i) (h2 : i ≤ 64) : (ext64 b i).length = 64 := by
  rw [ext64, List.length_append, extN_length, words16_length, List.length_replicate]; omega
theorem mid_done (b : List UInt8) : mid b 64 = ext64 b 16 := by
  apply getD_ext
  · rw [mid_length, ext64_length b 16 (by omega) (by omega)]
  · intro j hj
    rw [mid_length] at hj
    rw [mid_get b 64 j hj, ext64, List.getD_eq_getElem?_getD, List.getElem?_append, extN_length, words16_length]
    by_cases h16 : j < 16
    · rw [if_pos h16, if_pos (by omega), show min 4 (64 - 4 * j) = 4 by omega]
      simp [extN, words16, h16]
    · rw [if_neg h16, if_neg (by omega), ← List.getD_eq_getElem?_getD, rep_get]
theorem ext64_done (b : List UInt8) : ext64 b 64 = sched b := by simp [ext64, sched]
theorem ext64_get (b : List UInt8) (i j : Nat) (h : 16 ≤ i) (hj : j < i) : (ext64 b i).getD j 0 = (extN (i - 16) (words16 b)).getD j 0 := by
  rw [ext64, List.getD_eq_getElem?_getD, List.getElem?_append_left (by rw [extN_length, words16_length]; omega), ← List.getD_eq_getElem?_getD]
theorem ext64_next (b : List UInt8) (i : Nat) (h : 16 ≤ i) (h2 : i < 64) :
    (ext64 b i).set i ((ext64 b i).getD (i - 16) 0 + sg0 ((ext64 b i).getD (i - 15) 0) + (ext64 b i).getD (i - 7) 0 + sg1 ((ext64 b i).getD (i - 2) 0)) = ext64 b (i + 1) := by
  rw [ext64_get b i (i - 16) h (by omega), ext64_get b i (i - 15) h (by omega), ext64_get b i (i - 7) h (by omega), ext64_get b i (i - 2) h (by omega)]
  have hl : (extN (i - 16) (words16 b)).length = i := by rw [extN_length, words16_length]; omega
  unfold ext64
  rw [show i + 1 - 16 = (i - 16) + 1 by omega, extN, ext, hl, List.set_append_right _ _ (by rw [hl]; exact Nat.le_refl _), hl, Nat.sub_self, show 64 - i = (64 - (i + 1)) + 1 by omega, List.replicate_succ, List.set_cons_zero, List.append_assoc]
  rfl
theorem u32_of_u8 (x : UInt8) : (x.toNat : Int) = ((x.toUInt32).toNat : Int) := by simp
theorem shl8_or (c : UInt32) (x : UInt8) : bits .or .u32 (IntKind.u32.wrap ((c.toNat : Int) * 2 ^ 8)) (x.toNat : Int) = ((c * 256 + x.toUInt32).toNat : Int) := by
  have hx : x.toNat < 256 := x.toNat_lt
  have e : IntKind.u32.wrap ((c.toNat : Int) * 2 ^ 8) = ((c.toNat * 256 % 4294967296 : Nat) : Int) := by rw [IntKind.wrap_u32']; omega
  rw [e, u32_or_nat _ _ (Nat.mod_lt _ (by decide)) (by omega), nat_join 8 _ _ (by omega) (by omega)]
  congr 1
  rw [UInt32.toNat_add, UInt32.toNat_mul, UInt8.toNat_toUInt32]
  simp
  omega
theorem shl8_or' (c : UInt32) (x : UInt8) : bits .or .u32 ((c.toNat : Int) * 256 % 4294967296) ((x.toNat : Int) % 4294967296) = ((c * 256 + x.toUInt32).toNat : Int) := by
  have hx : x.toNat < 256 := x.toNat_lt
  have h := shl8_or c x
  rw [IntKind.wrap_u32'] at h
  rw [← h]
  congr 1
  omega
theorem mul256_add (c : UInt32) (x : UInt8) : IntKind.u32.wrap (IntKind.u32.wrap ((c.toNat : Int) * 256) + (x.toNat : Int)) = ((c * 256 + x.toUInt32).toNat : Int) := by
  have hx : x.toNat < 256 := x.toNat_lt
  rw [IntKind.wrap_u32', IntKind.wrap_u32', UInt32.toNat_add, UInt32.toNat_mul, UInt8.toNat_toUInt32]
  simp
theorem sg0_val (x : UInt32) : bits .xor .u32 (bits .xor .u32 ((rotr x 7).toNat : Int) ((rotr x 18).toNat : Int)) ((x.toNat : Int) / 2 ^ 3) = ((sg0 x).toNat : Int) := by
  rw [w_shr x 3 (by omega), w_xor, w_xor]; rfl
theorem sg1_val (x : UInt32) : bits .xor .u32 (bits .xor .u32 ((rotr x 17).toNat : Int) ((rotr x 19).toNat : Int)) ((x.toNat : Int) / 2 ^ 10) = ((sg1 x).toNat : Int) := by
  rw [w_shr x 10 (by omega), w_xor, w_xor]; rfl
theorem sum2 (a b : UInt32) : ((a.toNat : Int) + b.toNat) % 4294967296 = ((a + b).toNat : Int) := by rw [UInt32.toNat_add]; omega
theorem sum4 (a b c d : UInt32) : ((a.toNat : Int) + b.toNat + c.toNat + d.toNat) % 4294967296 = ((a + b + c + d).toNat : Int) := by
  rw [UInt32.toNat_add, UInt32.toNat_add, UInt32.toNat_add]; omega
theorem sum5 (a b c d e : UInt32) : ((a.toNat : Int) + b.toNat + c.toNat + d.toNat + e.toNat) % 4294967296 = ((a + b + c + d + e).toNat : Int) := by
  rw [UInt32.toNat_add, UInt32.toNat_add, UInt32.toNat_add, UInt32.toNat_add]; omega
/- The operations on words under names that nothing opens. -/
def Wp (x y : UInt32) : UInt32 := x + y
def Wx (x y : UInt32) : UInt32 := x ^^^ y
def Wa (x y : UInt32) : UInt32 := x &&& y
def Wn (x : UInt32) : UInt32 := ~~~x
theorem Wp_wrap (x y : UInt32) : IntKind.u32.wrap ((x.toNat : Int) + (y.toNat : Int)) = ((Wp x y).toNat : Int) := w_add x y
theorem Wp_mod (x y : UInt32) : ((x.toNat : Int) + (y.toNat : Int)) % 4294967296 = ((Wp x y).toNat : Int) := sum2 x y
theorem Wx_val (x y : UInt32) : bits .xor .u32 (x.toNat : Int) (y.toNat : Int) = ((Wx x y).toNat : Int) := w_xor x y
theorem Wa_val (x y : UInt32) : bits .and .u32 (x.toNat : Int) (y.toNat : Int) = ((Wa x y).toNat : Int) := w_and x y
theorem Wn_val' (x : UInt32) : bits .xor .u32 4294967295 (x.toNat : Int) = ((Wn x).toNat : Int) := by
  have h : (4294967295 : UInt32) ^^^ x = ~~~x := by
    rw [show (4294967295 : UInt32) = -1 by decide]; exact UInt32.neg_one_xor
  unfold Wn
  rw [← h, ← w_xor]; rfl
theorem Wn_val (x : UInt32) : bits .xor .u32 (if IntKind.u32.signed = true then -1 else IntKind.u32.max) (x.toNat : Int) = ((Wn x).toNat : Int) := Wn_val' x
def part8 (s v : List UInt32) (i : Nat) : List UInt32 := (List.range 8).map fun j => if j < i then s.getD j 0 + v.getD j 0 else s.getD j 0
theorem part8_length (s v : List UInt32) (i : Nat) : (part8 s v i).length = 8 := by simp [part8]
theorem part8_get (s v : List UInt32) (i j : Nat) (h : j < 8) : (part8 s v i).getD j 0 = if j < i then s.getD j 0 + v.getD j 0 else s.getD j 0 := by
  simp [part8, List.getD_eq_getElem?_getD, h]
theorem part8_zero (s v : List UInt32) (hs : s.length = 8) : part8 s v 0 = s := by
  apply getD_ext
  · rw [part8_length, hs]
  · intro j hj
    rw [part8_length] at hj
    rw [part8_get s v 0 j hj, if_neg (by omega)]
theorem part8_next (s v : List UInt32) (i : Nat) (h : i < 8) : (part8 s v i).set i (Wp ((part8 s v i).getD i 0) (v.getD i 0)) = part8 s v (i + 1) := by
  apply getD_ext
  · simp [part8_length]
  · intro j hj
    rw [List.length_set, part8_length] at hj
    rw [getD_set _ _ _ _ (by rw [part8_length]; exact h), part8_get s v (i + 1) j hj, part8_get s v i j hj, part8_get s v i i h, if_neg (Nat.lt_irrefl i)]
    by_cases e : j = i
    · subst e; rw [if_pos rfl, if_pos (by omega)]; rfl
    · rw [if_neg e]
      by_cases h2 : j < i
      · rw [if_pos h2, if_pos (by omega)]
      · rw [if_neg h2, if_neg (by omega)]
theorem part8_done (a b : S8) : part8 a.list b.list 8 = (a.add b).list := rfl
theorem wvs_set (l : List UInt32) (i : Nat) (x : UInt32) : (wvs l).set i (wv x) = wvs (l.set i x) := by simp [wvs]
theorem wvs_get (l : List UInt32) (i : Nat) (h : i < l.length) : (wvs l)[i]? = some (.int .u32 (l.getD i 0).toNat) := by
  simp [wvs, wv, List.getElem?_eq_getElem h]
theorem wvs_one (l : List UInt32) : ∀ v ∈ wvs l, v.oneCell' = true := by
  intro v hv; simp only [wvs, List.mem_map] at hv; obtain ⟨b, _, rfl⟩ := hv; rfl
end Go.Proofs.YtaikdbbakdicgaaDoor
/-
  Arrays by value at this program's types.
-/
namespace Go.Proofs.YtaikdbbakdicgaaDoor
open Go.ChangeShapes Go.WideShapes Go.ChangeAt Go.RowKit
set_option linter.unusedVariables false

theorem bvs_oneCell (l : List UInt8) : ∀ v ∈ bvs l, v.oneCell' = true := by
  intro v hv; simp only [bvs, List.mem_map] at hv; obtain ⟨b, _, rfl⟩ := hv; rfl
theorem Tryd.infoW : (Tryd.prog.info? 103).map (fun i => (i.zero, i.size, i.bytes)) = some (some (.int .u32 0), 1, 4) := by kernel_rfl
theorem ixB (b : List UInt8) (i : Nat) (hi : i < 64) (hb : i < b.length) (w : World) : (Instr.index 79 (.agg (bvs b).toArray) (.int .i64 i)).run Tryd.prog w = .ok (.int .u8 (b.getD i 0).toNat) w := by
  obtain ⟨i0, h1, _, h2, _⟩ := info_parts Tryd.info5
  exact index_arr Tryd.underlying79 Tryd.underlying5 rfl h1 h2 _ _ i hi (bvs_getElem b i hb) w
theorem ixW (l : List UInt32) (i : Nat) (hi : i < 64) (hb : i < l.length) (w : World) : (Instr.index 114 (.agg (wvs l).toArray) (.int .i64 i)).run Tryd.prog w = .ok (.int .u32 (l.getD i 0).toNat) w := by
  obtain ⟨i0, h1, _, h2, _⟩ := info_parts Tryd.infoW
  exact index_arr Tryd.underlying114 Tryd.underlying103 rfl h1 h2 _ _ i hi (wvs_get l i hb) w
theorem ix8 (l : List UInt32) (i : Nat) (hi : i < 8) (hb : i < l.length) (w : World) : (Instr.index 104 (.agg (wvs l).toArray) (.int .i64 i)).run Tryd.prog w = .ok (.int .u32 (l.getD i 0).toNat) w := by
  obtain ⟨i0, h1, _, h2, _⟩ := info_parts Tryd.infoW
  exact index_arr Tryd.underlying104 Tryd.underlying103 rfl h1 h2 _ _ i hi (wvs_get l i hb) w

section
variable {ops : Array Oper} {rest : List Oper} {o : Oper} {a : Act} {Q : Exit → Act → World → Prop} {w : World} {t : TypeId} {g : Nat} {x y : Operand}
theorem load64b {l : List UInt8} (hA : Arr w t g (bvs l)) (hl : l.length = 64) (hs : o.guard = none ∧ o.op = .load 79 x ∧ a.eval x = .pointer (some ⟨g, 0, none⟩))
    (hk : wpList Tryd.prog ops Q rest (a.put o.dst (.agg (bvs l).toArray)) w) : wpList Tryd.prog ops Q (o :: rest) a w :=
  load_arr hs.1 _ _ hs.2.1 hA hs.2.2 Tryd.underlying79 rfl (by rw [bvs_length, hl]; kernel_rfl) hk
theorem load64w {l : List UInt32} (hA : Arr w t g (wvs l)) (hl : l.length = 64) (hs : o.guard = none ∧ o.op = .load 114 x ∧ a.eval x = .pointer (some ⟨g, 0, none⟩))
    (hk : wpList Tryd.prog ops Q rest (a.put o.dst (.agg (wvs l).toArray)) w) : wpList Tryd.prog ops Q (o :: rest) a w :=
  load_arr hs.1 _ _ hs.2.1 hA hs.2.2 Tryd.underlying114 rfl (by rw [wvs_length, hl]; kernel_rfl) hk
theorem load8w {l : List UInt32} (hA : Arr w t g (wvs l)) (hl : l.length = 8) (hs : o.guard = none ∧ o.op = .load 104 x ∧ a.eval x = .pointer (some ⟨g, 0, none⟩))
    (hk : wpList Tryd.prog ops Q rest (a.put o.dst (.agg (wvs l).toArray)) w) : wpList Tryd.prog ops Q (o :: rest) a w :=
  load_arr hs.1 _ _ hs.2.1 hA hs.2.2 Tryd.underlying104 rfl (by rw [wvs_length, hl]; kernel_rfl) hk
theorem load32b {l : List UInt8} (hA : Arr w t g (bvs l)) (hl : l.length = 32) (hs : o.guard = none ∧ o.op = .load 24 x ∧ a.eval x = .pointer (some ⟨g, 0, none⟩))
    (hk : wpList Tryd.prog ops Q rest (a.put o.dst (.agg (bvs l).toArray)) w) : wpList Tryd.prog ops Q (o :: rest) a w :=
  load_arr hs.1 _ _ hs.2.1 hA hs.2.2 Tryd.underlying24 rfl (by rw [bvs_length, hl]; kernel_rfl) hk
theorem still8w {Q' : Act → Prop} {l : List UInt32} (hA : Arr w t g (wvs l)) (hl : l.length = 8) (hs : o.guard = none ∧ o.op = .load 104 x ∧ a.eval x = .pointer (some ⟨g, 0, none⟩))
    (hk : wpStill Tryd.prog ops w Q' rest (a.put o.dst (.agg (wvs l).toArray))) : wpStill Tryd.prog ops w Q' (o :: rest) a :=
  still_load hs.1 _ _ hs.2.1 g 0 hs.2.2 (wvs l) _ hA.range Tryd.underlying104 rfl (by rw [wvs_length, hl]; kernel_rfl) hk
theorem still64w {Q' : Act → Prop} {l : List UInt32} (hA : Arr w t g (wvs l)) (hl : l.length = 64) (hs : o.guard = none ∧ o.op = .load 114 x ∧ a.eval x = .pointer (some ⟨g, 0, none⟩))
    (hk : wpStill Tryd.prog ops w Q' rest (a.put o.dst (.agg (wvs l).toArray))) : wpStill Tryd.prog ops w Q' (o :: rest) a :=
  still_load hs.1 _ _ hs.2.1 g 0 hs.2.2 (wvs l) _ hA.range Tryd.underlying114 rfl (by rw [wvs_length, hl]; kernel_rfl) hk
theorem range_bytes {off : Nat} {l : List UInt8} (h : ∀ i, i < l.length → w.cell? ⟨g, off + i, none⟩ = some (bv (l.getD i 0))) (n : Nat) (hn : n ≤ l.length) : w.rangeAt g off (bvs (l.take n)) := fun j v hv => by
  have hj : j < n := by
    have := (List.getElem?_eq_some_iff.1 hv).1; rw [bvs_length, List.length_take] at this; omega
  rw [bvs_getElem _ j (by rw [List.length_take]; omega)] at hv
  rw [h j (by omega), ← hv]
  congr 2
  simp [List.getD_eq_getElem?_getD, hj]
theorem still64b {Q' : Act → Prop} {off : Nat} {l : List UInt8} (hA : w.rangeAt g off (bvs l)) (hl : l.length = 64) (hs : o.guard = none ∧ o.op = .load 79 x ∧ a.eval x = .pointer (some ⟨g, off, none⟩))
    (hk : wpStill Tryd.prog ops w Q' rest (a.put o.dst (.agg (bvs l).toArray))) : wpStill Tryd.prog ops w Q' (o :: rest) a :=
  still_load hs.1 _ _ hs.2.1 g off hs.2.2 (bvs l) _ hA Tryd.underlying79 rfl (by rw [bvs_length, hl]; kernel_rfl) hk
theorem store64w {l : List UInt32} {old : List Value} (hA : Arr w t g old) (ho : old.length = 64) (hl : l.length = 64) (hs : o.guard = none ∧ o.op = .store 114 x y ∧ a.eval x = .pointer (some ⟨g, 0, none⟩) ∧ a.eval y = .agg (wvs l).toArray)
    (hk : ∀ w', w' = w.setRow g (wvs l).toArray → wpList Tryd.prog ops Q rest (a.put o.dst undef) w') : wpList Tryd.prog ops Q (o :: rest) a w :=
  store_arr hs.1 _ _ _ hs.2.1 hA hs.2.2.1 hs.2.2.2 (by rw [wvs_length, hl]; kernel_rfl) (by rw [ho, wvs_length, hl]) (wvs_one l) (hk _ rfl)
theorem new64w {l : List UInt32} {cs : Array Value} (hl : l.length = 64) (hs : o.guard = none ∧ o.op = .store 114 x y ∧ a.eval x = .pointer (some ⟨w.heap.size, 0, none⟩) ∧ a.eval y = .agg (wvs l).toArray ∧ cs.toList.length = 64)
    (hk : wpList Tryd.prog ops Q rest (a.put o.dst undef) (w.alloc (.cells (wvs l).toArray t))) : wpList Tryd.prog ops Q (o :: rest) a (w.alloc (.cells cs t)) :=
  store_arr hs.1 _ _ _ hs.2.1 (Arr.new w t cs) hs.2.2.1 hs.2.2.2.1 (by rw [wvs_length, hl]; kernel_rfl) (by rw [hs.2.2.2.2, wvs_length, hl]) (wvs_one l) (by rw [World.setRow_alloc_new]; exact hk)
theorem new8w {l : List UInt32} {cs : Array Value} (hl : l.length = 8) (hs : o.guard = none ∧ o.op = .store 104 x y ∧ a.eval x = .pointer (some ⟨w.heap.size, 0, none⟩) ∧ a.eval y = .agg (wvs l).toArray ∧ cs.toList.length = 8)
    (hk : wpList Tryd.prog ops Q rest (a.put o.dst undef) (w.alloc (.cells (wvs l).toArray t))) : wpList Tryd.prog ops Q (o :: rest) a (w.alloc (.cells cs t)) :=
  store_arr hs.1 _ _ _ hs.2.1 (Arr.new w t cs) hs.2.2.1 hs.2.2.2.1 (by rw [wvs_length, hl]; kernel_rfl) (by rw [hs.2.2.2.2, wvs_length, hl]) (wvs_one l) (by rw [World.setRow_alloc_new]; exact hk)
theorem new32b {l : List UInt8} {cs : Array Value} (hl : l.length = 32) (hs : o.guard = none ∧ o.op = .store 24 x y ∧ a.eval x = .pointer (some ⟨w.heap.size, 0, none⟩) ∧ a.eval y = .agg (bvs l).toArray ∧ cs.toList.length = 32)
    (hk : wpList Tryd.prog ops Q rest (a.put o.dst undef) (w.alloc (.cells (bvs l).toArray t))) : wpList Tryd.prog ops Q (o :: rest) a (w.alloc (.cells cs t)) :=
  store_arr hs.1 _ _ _ hs.2.1 (Arr.new w t cs) hs.2.2.1 hs.2.2.2.1 (by rw [bvs_length, hl]; kernel_rfl) (by rw [hs.2.2.2.2, bvs_length, hl]) (bvs_oneCell l) (by rw [World.setRow_alloc_new]; exact hk)
theorem store8w {l : List UInt32} {old : List Value} (hA : Arr w t g old) (ho : old.length = 8) (hl : l.length = 8) (hs : o.guard = none ∧ o.op = .store 104 x y ∧ a.eval x = .pointer (some ⟨g, 0, none⟩) ∧ a.eval y = .agg (wvs l).toArray)
    (hk : ∀ w', w' = w.setRow g (wvs l).toArray → wpList Tryd.prog ops Q rest (a.put o.dst undef) w') : wpList Tryd.prog ops Q (o :: rest) a w :=
  store_arr hs.1 _ _ _ hs.2.1 hA hs.2.2.1 hs.2.2.2 (by rw [wvs_length, hl]; kernel_rfl) (by rw [ho, wvs_length, hl]) (wvs_one l) (hk _ rfl)
theorem store32b {l : List UInt8} {old : List Value} (hA : Arr w t g old) (ho : old.length = 32) (hl : l.length = 32) (hs : o.guard = none ∧ o.op = .store 24 x y ∧ a.eval x = .pointer (some ⟨g, 0, none⟩) ∧ a.eval y = .agg (bvs l).toArray)
    (hk : ∀ w', w' = w.setRow g (bvs l).toArray → wpList Tryd.prog ops Q rest (a.put o.dst undef) w') : wpList Tryd.prog ops Q (o :: rest) a w :=
  store_arr hs.1 _ _ _ hs.2.1 hA hs.2.2.1 hs.2.2.2 (by rw [bvs_length, hl]; kernel_rfl) (by rw [ho, bvs_length, hl]) (bvs_oneCell l) (hk _ rfl)
end
/-- The result of a function that lies in a cell: an array of 8 words, of 64, of 32 bytes. -/
theorem res64w {fn : Func} {p : Tmp} {tmps : Array Value} {w : World} {g : Nat} {t : TypeId} {l : List UInt32} (h : fn.results = #[.cell p 114]) (hA : Arr w t g (wvs l)) (hl : l.length = 64) (hp : tmps.getD p undef = .pointer (some ⟨g, 0, none⟩)) :
    (results fn tmps).run Tryd.prog w = .ok (.agg (wvs l).toArray) w :=
  results_cell_row h tmps w g t (wvs l).toArray (0, 0) _ hp hA Tryd.underlying114 rfl (by rw [List.size_toArray, wvs_length, hl]; kernel_rfl)
theorem res8w {fn : Func} {p : Tmp} {tmps : Array Value} {w : World} {g : Nat} {t : TypeId} {l : List UInt32} (h : fn.results = #[.cell p 104]) (hA : Arr w t g (wvs l)) (hl : l.length = 8) (hp : tmps.getD p undef = .pointer (some ⟨g, 0, none⟩)) :
    (results fn tmps).run Tryd.prog w = .ok (.agg (wvs l).toArray) w :=
  results_cell_row h tmps w g t (wvs l).toArray (0, 0) _ hp hA Tryd.underlying104 rfl (by rw [List.size_toArray, wvs_length, hl]; kernel_rfl)
theorem res32b {fn : Func} {p : Tmp} {tmps : Array Value} {w : World} {g : Nat} {t : TypeId} {l : List UInt8} (h : fn.results = #[.cell p 24]) (hA : Arr w t g (bvs l)) (hl : l.length = 32) (hp : tmps.getD p undef = .pointer (some ⟨g, 0, none⟩)) :
    (results fn tmps).run Tryd.prog w = .ok (.agg (bvs l).toArray) w :=
  results_cell_row h tmps w g t (bvs l).toArray (0, 0) _ hp hA Tryd.underlying24 rfl (by rw [List.size_toArray, bvs_length, hl]; kernel_rfl)
theorem res8wt {fn : Func} {p q : Tmp} {tmps : Array Value} {w : World} {g : Nat} {t : TypeId} {l : List UInt32} (h : fn.results = #[.cell p 104, .tmp q]) (hA : Arr w t g (wvs l)) (hl : l.length = 8) (hp : tmps.getD p undef = .pointer (some ⟨g, 0, none⟩)) :
    (results fn tmps).run Tryd.prog w = .ok (.tuple #[.agg (wvs l).toArray, tmps.getD q undef]) w :=
  results_cell_tmp h tmps w g t (wvs l).toArray (0, 0) _ hp hA Tryd.underlying104 rfl (by rw [List.size_toArray, wvs_length, hl]; kernel_rfl)
end Go.Proofs.YtaikdbbakdicgaaDoor
/-
  sha.schedule.
-/
namespace Go.Proofs.YtaikdbbakdicgaaDoor
open Go.ChangeShapes Go.WideShapes Go.ChangeAt Go.RowKit
set_option linter.unusedVariables false

/-- The words under way: block g holds l, nothing below B has turned. -/
def Mk (B : Nat) (w wr : World) (g : Nat) (l : List UInt32) : Prop := Arr wr 114 g (wvs l) ∧ Below B w wr
theorem Mk.cell {B : Nat} {w wr : World} {g : Nat} {l : List UInt32} (h : Mk B w wr g l) {i : Nat} (hi : i < l.length) : wr.cell? ⟨g, i, none⟩ = some (.int .u32 (l.getD i 0).toNat) := (h.1.cell i).trans (wvs_get l i hi)
theorem Mk.free {B : Nat} {w wr : World} {g : Nat} {l : List UInt32} (h : Mk B w wr g l) (i : Nat) : wr.frozen? ⟨g, i, none⟩ = false := h.1.free i
theorem Mk.set {B : Nat} {w wr : World} {g : Nat} {l : List UInt32} (h : Mk B w wr g l) (hg : B ≤ g) (i : Nat) (x : UInt32) {m : List UInt32} (hm : l.set i x = m) : Mk B w (wr.setCell ⟨g, i, none⟩ (.int .u32 x.toNat)) g m := by
  subst hm
  exact ⟨by rw [← wvs_set]; exact h.1.set i _, h.2.setCell hg _⟩
theorem Mk.drewN {B : Nat} {w wr : World} {g : Nat} {l : List UInt32} (h : Mk B w wr g l) (n : Nat) : Mk B w (wr.drewN n) g l := ⟨h.1.drewN n, h.2.trans (Joins.below_draws _ _ _)⟩

set_option maxRecDepth 100000 in
set_option maxHeartbeats 4000000 in
theorem sched_any (b : List UInt8) (hb : b.length = 64) (w : World) :
    Calls Tryd.prog 80 #[.agg (bvs b).toArray] w fun e w' => e = .returned (.agg (wvs (sched b)).toArray) ∧ Below w.heap.size w w' := by
  have HB := Lib.hid hb
  clear hb
  go_enter Tryd.func80, Tryd.ntmps80
  have hb0 := HB.out
  have hA0 : ∀ o, Arr ((w.alloc (.cells (bvs b).toArray 79)).alloc o) 79 w.heap.size (bvs b) := fun o => (Arr.new' w _ (bvs b).toArray (bvs b) (by simp)).alloc o
  go_wp2_with ((with_reducible refine load64b (x := .tmp 1) (o := ⟨some 10, _, _, _, _, _⟩) (hA0 _) HB.out ?_ ?_); exact ⟨rfl, rfl, rfl⟩)
  clear hb0 hA0
  go_loopw [11] (fun iv wr => ∃ i : Nat, i ≤ 64 ∧ iv = .int .i64 i ∧ Hid (Mk w.heap.size w wr (w.heap.size + 1) (mid b i))) (fun iv _ => 64 - (intOf iv).toNat)
  case atStart =>
    refine ⟨0, by omega, rfl, ?_, ((Below.refl _ _).alloc (Nat.le_refl _) _).alloc (by simp) _⟩
    rw [mid_zero]
    exact Arr.new2 _ _ _ _ _ rfl
  case round =>
    obtain ⟨i, hi, rfl, HM⟩ := hrel
    have hi0 : (0 : Int) ≤ i := by omega
    by_cases hlt : i < 64
    · have hlt1 : (i : Int) < 64 := by omega
      have hix := ixB b i hlt (by rw [HB.out]; exact hlt)
      have hq1 : (i : Int) / 4 < 64 := by omega
      have hq0 : (0 : Int) ≤ (i : Int) / 4 := by omega
      obtain ⟨c, hc, HC⟩ : ∃ c : UInt32, wr.cell? ⟨w.heap.size + 1, i / 4, none⟩ = some (.int .u32 c.toNat) ∧ Hid (c = (mid b i).getD (i / 4) 0) := ⟨_, HM.out.cell (by rw [mid_length]; omega), rfl⟩
      have hf := HM.out.free (i / 4)
      obtain ⟨x, hx⟩ : ∃ x, x = b.getD i 0 := ⟨_, rfl⟩
      rw [← hx] at hix
      have HX := Lib.hid hx
      clear hx
      go_wp2_with fail
      go_roundw
      case rel =>
        refine ⟨i + 1, by omega, by go_num, ?_⟩
        have hv := shl8_or' c x
        have hn := mid_next b i hlt
        rw [← HC.out, ← HX.out] at hn
        have := HM.out.set (by omega) (i / 4) _ hn
        rw [← hv] at this
        exact this
      case measure => simp [intOf]; omega
    · have HM1 : Hid (Mk w.heap.size w wr (w.heap.size + 1) (ext64 b 16)) := by rw [← mid_done, show 64 = i by omega]; exact HM.out
      rw [show (i : Int) = 64 by omega]
      clear HM hlt hi hi0
      go_wp2_with fail
      go_loopw [5] (fun iv wr => ∃ i : Nat, 16 ≤ i ∧ i ≤ 64 ∧ iv = .int .i64 i ∧ Hid (Mk w.heap.size w wr (w.heap.size + 1) (ext64 b i))) (fun iv _ => 64 - (intOf iv).toNat)
      case atStart => exact ⟨16, by omega, by omega, rfl, HM1.out⟩
      case round =>
        obtain ⟨i, h16, hi, rfl, HM⟩ := hrel
        clear HM1
        have hi0 : (16 : Int) ≤ i := by omega
        by_cases hlt : i < 64
        · have hlt1 : (i : Int) < 64 := by omega
          have HN := Lib.hid (ext64_next b i h16 hlt)
          obtain ⟨L, hL⟩ : ∃ L, L = ext64 b i := ⟨_, rfl⟩
          rw [← hL] at HM HN
          have HL : Hid (L.length = 64) := by rw [hL]; exact ext64_length b i h16 hi
          clear hL
          obtain ⟨x15, c15, E15⟩ : ∃ c : UInt32, wr.cell? ⟨w.heap.size + 1, i - 15, none⟩ = some (.int .u32 c.toNat) ∧ Hid (c = L.getD (i - 15) 0) := ⟨_, HM.out.cell (by rw [HL.out]; omega), rfl⟩
          obtain ⟨x2, c2, E2⟩ : ∃ c : UInt32, wr.cell? ⟨w.heap.size + 1, i - 2, none⟩ = some (.int .u32 c.toNat) ∧ Hid (c = L.getD (i - 2) 0) := ⟨_, HM.out.cell (by rw [HL.out]; omega), rfl⟩
          obtain ⟨x16, c16, E16⟩ : ∃ c : UInt32, wr.cell? ⟨w.heap.size + 1, i - 16, none⟩ = some (.int .u32 c.toNat) ∧ Hid (c = L.getD (i - 16) 0) := ⟨_, HM.out.cell (by rw [HL.out]; omega), rfl⟩
          obtain ⟨x7, c7, E7⟩ : ∃ c : UInt32, wr.cell? ⟨w.heap.size + 1, i - 7, none⟩ = some (.int .u32 c.toNat) ∧ Hid (c = L.getD (i - 7) 0) := ⟨_, HM.out.cell (by rw [HL.out]; omega), rfl⟩
          have hf := HM.out.free i
          have hcell := HM.out.cell (i := i) (by rw [HL.out]; omega)
          have t15 : ((i : Int) - 15).toNat = i - 15 := by omega
          have t2 : ((i : Int) - 2).toNat = i - 2 := by omega
          have t16 : ((i : Int) - 16).toNat = i - 16 := by omega
          have t7 : ((i : Int) - 7).toNat = i - 7 := by omega
          go_wp2_with fail
          go_quiet (fail)
          go_wp2_with fail
          have hs0 : bits .xor .u32 (bits .xor .u32 ((rotr x15 7).toNat : Int) ((rotr x15 18).toNat : Int)) ((x15.toNat : Int) / 8) = ((sg0 x15).toNat : Int) := sg0_val x15
          have hs1 : bits .xor .u32 (bits .xor .u32 ((rotr x2 17).toNat : Int) ((rotr x2 19).toNat : Int)) ((x2.toNat : Int) / 1024) = ((sg1 x2).toNat : Int) := sg1_val x2
          refine (right_any x15 _ (by decide) _).mono ?_
          rintro e w1 ⟨rfl, rfl⟩
          go_wp2_with fail
          refine (right_any x15 _ (by decide) _).mono ?_
          rintro e w1 ⟨rfl, rfl⟩
          go_wp2_with fail
          refine (right_any x2 _ (by decide) _).mono ?_
          rintro e w1 ⟨rfl, rfl⟩
          go_wp2_with fail
          refine (right_any x2 _ (by decide) _).mono ?_
          rintro e w1 ⟨rfl, rfl⟩
          go_wp2_with fail
          have hwa := w_add
          have g16 : IntKind.i64.wrap ((i : Int) - 16) = (i : Int) - 16 := IntWalk.i64_in _ (by omega)
          have g7 : IntKind.i64.wrap ((i : Int) - 7) = (i : Int) - 7 := IntWalk.i64_in _ (by omega)
          have k7 : (7 : Int) ≤ i := by omega
          have z16 : (0 : Int) ≤ (i : Int) - 16 := by omega
          have z7 : (0 : Int) ≤ (i : Int) - 7 := by omega
          have y16 : (i : Int) - 16 < 64 := by omega
          have y7 : (i : Int) - 7 < 64 := by omega
          refine region_tail 14 (by kernel_rfl) (by kernel_rfl) ?_
          simp only [List.take_succ_cons, List.take_zero, List.drop_succ_cons, List.drop_zero]
          repeat still_step
          refine wpStill_nil ?_
          go_wp2_with fail
          go_roundw
          case rel =>
            have hn := HN.out
            rw [← E16.out, ← E15.out, ← E7.out, ← E2.out] at hn
            refine ⟨i + 1, by omega, by omega, by go_num, ?_⟩
            rw [sum4]
            exact (HM.out.drewN _).set (by omega) i _ hn
          case measure => simp [intOf]; omega
        · have HM2 : Hid (Mk w.heap.size w wr (w.heap.size + 1) (sched b)) := by rw [← ext64_done, show 64 = i by omega]; exact HM.out
          rw [show (i : Int) = 64 by omega]
          clear HM hlt hi hi0 h16
          have hA := HM2.out.1
          have HSL := Lib.hid (sched_length b)
          have hO : (wvs (sched b)).length = 64 := by rw [wvs_length, HSL.out]
          have HO := Lib.hid hO
          clear hO
          go_wp2_with (first
            | ((with_reducible refine load64w (x := .tmp 2) (o := ⟨some 70, _, _, _, _, _⟩) hA HSL.out ?_ ?_); exact ⟨rfl, rfl, rfl⟩)
            | ((with_reducible refine store64w (x := .tmp 2) (y := .tmp 70) (l := sched b) (o := ⟨none, .store _ _ _, _, _, _, _⟩) hA HO.out HSL.out ?_ ?_); exact ⟨rfl, rfl, rfl, rfl⟩))
          exact bodyPost_ret (res64w rfl (HM2.out.1.row _) HSL.out rfl) rfl ⟨rfl, below_row HM2.out.2 (by omega) _⟩
end Go.Proofs.YtaikdbbakdicgaaDoor
/-
  sha.Block.
-/
namespace Go.Proofs.YtaikdbbakdicgaaDoor
open Go.ChangeShapes Go.WideShapes Go.ChangeAt Go.RowKit
set_option linter.unusedVariables false

/-- The package's two tables lie where they were laid. -/
def Env (w : World) : Prop := (∃ t, Arr w t 0 (wvs st0.list)) ∧ ∃ t, Arr w t 2 (wvs kk)
theorem Env.below {w w' : World} (h : Env w) (hb : Below w.heap.size w w') : Env w' := ⟨h.1.imp fun _ h => h.later hb, h.2.imp fun _ h => h.later hb⟩
theorem kk_length : kk.length = 64 := rfl
theorem Env.k {w : World} (h : Env w) {i : Nat} (hi : i < 64) : w.cell? ⟨2, i, none⟩ = some (.int .u32 (kk.getD i 0).toNat) := by
  obtain ⟨t, h2⟩ := h.2
  exact (h2.cell i).trans (wvs_get kk i hi)
theorem list_length (s : S8) : s.list.length = 8 := rfl

set_option maxRecDepth 100000 in
set_option maxHeartbeats 4000000 in
theorem block_any (s : S8) (b : List UInt8) (hb : b.length = 64) (w : World) (he : Env w) :
    Calls Tryd.prog 73 #[.agg (wvs s.list).toArray, .agg (bvs b).toArray] w fun e w' => e = .returned (.agg (wvs (blk s b).list).toArray) ∧ Below w.heap.size w w' := by
  have HB := Lib.hid hb
  have HE := Lib.hid he
  have HL := Lib.hid (sched_length b)
  clear hb he
  obtain ⟨sl, hsl⟩ : ∃ sl, sl = s.list := ⟨_, rfl⟩
  rw [← hsl]
  have HSL := Lib.hid hsl
  clear hsl
  go_enter Tryd.func73, Tryd.ntmps73
  have hA0 : ∀ o, Arr (((w.alloc (.cells (wvs sl).toArray 104)).alloc (.cells (bvs b).toArray 79)).alloc o) 79 (w.heap.size + 1) (bvs b) := fun o => (Arr.new2 w _ _ (bvs b).toArray (bvs b) (by simp)).alloc o
  have hA1 : ∀ o o2, Arr (((w.alloc (.cells (wvs sl).toArray 104)).alloc o).alloc o2) 104 w.heap.size (wvs sl) := fun o o2 => ((Arr.new' w _ (wvs sl).toArray (wvs sl) (by simp)).alloc o).alloc o2
  have HA1 := Lib.hid hA1
  have HA2 := Lib.hid (fun cs : Array Value => Arr.new3 w (.cells (wvs sl).toArray 104) (.cells (bvs b).toArray 79) 104 cs cs.toList rfl)
  clear hA1
  go_wp2_with ((with_reducible refine load64b (x := .tmp 3) (o := ⟨some 20, _, _, _, _, _⟩) (hA0 _) HB.out ?_ ?_); exact ⟨rfl, rfl, rfl⟩)
  clear hA0
  refine (sched_any b HB.out _).mono ?_
  rintro e w1 ⟨rfl, b1⟩
  have HS1 := Lib.hid ((HA1.out _ _).later b1)
  obtain ⟨z, hz, HZ1⟩ : ∃ z : List Value, z.length = 8 ∧ Hid (Arr w1 104 (w.heap.size + 2) z) := ⟨_, rfl, (HA2.out _).later b1⟩
  have HZL := Lib.hid hz
  have hb1 : Below w.heap.size w w1 := ((((Below.refl _ _).alloc (Nat.le_refl _) _).alloc (by simp) _).alloc (by simp; omega) _).trans (b1.mono (by simp; omega))
  have HB1 := Lib.hid hb1
  have HE1 := Lib.hid (HE.out.below hb1)
  clear b1 hb1 HA1 HA2 hz
  go_wp2_with ((with_reducible refine new64w (x := .tmp 5) (y := .tmp 21) (l := sched b) (o := ⟨none, .store _ _ _, _, _, _, _⟩) HL.out ?_ ?_); exact ⟨rfl, rfl, rfl, rfl, rfl⟩)
  have h2 : Below w1.heap.size w1 (w1.alloc (.cells (wvs (sched b)).toArray 114)) := (Below.refl _ _).alloc (Nat.le_refl _) _
  have HB2 := Lib.hid (HB1.out.alloc HB1.out.size (.cells (wvs (sched b)).toArray 114))
  have HE2 := Lib.hid (HE1.out.below h2)
  have HW2 := Lib.hid (Arr.new' w1 114 (wvs (sched b)).toArray (wvs (sched b)) (by simp))
  have HS2 := Lib.hid (HS1.out.later h2)
  have HZ2 := Lib.hid (HZ1.out.later h2)
  clear h2 HB1 HE1 HS1 HZ1
  generalize w1.alloc (.cells (wvs (sched b)).toArray 114) = w2 at HB2 HE2 HW2 HS2 HZ2 ⊢
  obtain ⟨a0, b0, c0, d0, e0, f0, g0, h0⟩ := s
  have q0 : w2.cell? ⟨w.heap.size, 0, none⟩ = some (.int .u32 a0.toNat) := (HS2.out.cell 0).trans (by rw [HSL.out]; rfl)
  have q1 : w2.cell? ⟨w.heap.size, 1, none⟩ = some (.int .u32 b0.toNat) := (HS2.out.cell 1).trans (by rw [HSL.out]; rfl)
  have q2 : w2.cell? ⟨w.heap.size, 2, none⟩ = some (.int .u32 c0.toNat) := (HS2.out.cell 2).trans (by rw [HSL.out]; rfl)
  have q3 : w2.cell? ⟨w.heap.size, 3, none⟩ = some (.int .u32 d0.toNat) := (HS2.out.cell 3).trans (by rw [HSL.out]; rfl)
  have q4 : w2.cell? ⟨w.heap.size, 4, none⟩ = some (.int .u32 e0.toNat) := (HS2.out.cell 4).trans (by rw [HSL.out]; rfl)
  have q5 : w2.cell? ⟨w.heap.size, 5, none⟩ = some (.int .u32 f0.toNat) := (HS2.out.cell 5).trans (by rw [HSL.out]; rfl)
  have q6 : w2.cell? ⟨w.heap.size, 6, none⟩ = some (.int .u32 g0.toNat) := (HS2.out.cell 6).trans (by rw [HSL.out]; rfl)
  have q7 : w2.cell? ⟨w.heap.size, 7, none⟩ = some (.int .u32 h0.toNat) := (HS2.out.cell 7).trans (by rw [HSL.out]; rfl)
  go_quiet (fail)
  have hA2 := HW2.out.drewN nq
  go_wp2_with ((with_reducible refine load64w (x := .tmp 5) (o := ⟨some 38, _, _, _, _, _⟩) hA2 HL.out ?_ ?_); exact ⟨rfl, rfl, rfl⟩)
  clear hA2 q0 q1 q2 q3 q4 q5 q6 q7
  go_loopw [39, 6, 7, 8, 9, 10, 11, 12, 13] (fun iv va vb vc vd ve vf vg vh wr => ∃ (i : Nat) (A B C D E F G H : UInt32), i ≤ 64 ∧ iv = .int .i64 i ∧ va = .int .u32 A.toNat ∧ vb = .int .u32 B.toNat ∧ vc = .int .u32 C.toNat ∧ vd = .int .u32 D.toNat ∧ ve = .int .u32 E.toNat ∧ vf = .int .u32 F.toNat ∧ vg = .int .u32 G.toNat ∧ vh = .int .u32 H.toNat ∧ Hid (rounds kk (sched b) i ⟨a0, b0, c0, d0, e0, f0, g0, h0⟩ = ⟨A, B, C, D, E, F, G, H⟩) ∧ Hid (∃ n, wr = w2.drewN n)) (fun iv _ _ _ _ _ _ _ _ _ => 64 - (intOf iv).toNat)
  case atStart => exact ⟨0, a0, b0, c0, d0, e0, f0, g0, h0, by omega, rfl, rfl, rfl, rfl, rfl, rfl, rfl, rfl, rfl, rfl, _, rfl⟩
  case round =>
    obtain ⟨i, A, B, C, D, E, F, G, H, hi, rfl, rfl, rfl, rfl, rfl, rfl, rfl, rfl, rfl, HR, HD⟩ := hrel
    have hi0 : (0 : Int) ≤ i := by omega
    by_cases hlt : i < 64
    · have hlt1 : (i : Int) < 64 := by omega
      obtain ⟨x, hx⟩ : ∃ x, x = (sched b).getD i 0 := ⟨_, rfl⟩
      have hix := ixW (sched b) i hlt (by rw [HL.out]; exact hlt)
      obtain ⟨k, hk⟩ : ∃ k, k = kk.getD i 0 := ⟨_, rfl⟩
      have hkc : wr.cell? ⟨2, i, none⟩ = some (.int .u32 k.toNat) := by
        obtain ⟨nd, hnd⟩ := HD.out
        rw [hk, hnd]; exact HE2.out.k hlt
      rw [← hx] at hix
      have HX := Lib.hid hx
      have HK := Lib.hid hk
      have r1 := Wp_wrap
      have r2 := Wp_mod
      have r3 := Wx_val
      have r4 := Wa_val
      have r5 := Wn_val
      have r6 := Wn_val'
      clear hx hk
      go_wp2_with fail
      go_quiet ((go_at_call 81; exact quiet_left (right_any _ _ (by decide) _)))
      have eT : Wp (Wp (Wp (Wp H (Wx (Wx (rotr E 6) (rotr E 11)) (rotr E 25))) (Wx (Wa E F) (Wa (Wn E) G))) k) x = rt ⟨A, B, C, D, E, F, G, H⟩ k x := rfl
      rw [eT]
      have HT := Lib.hid eT
      clear eT
      obtain ⟨T, hT⟩ : ∃ T, T = rt ⟨A, B, C, D, E, F, G, H⟩ k x := ⟨_, rfl⟩
      rw [← hT]
      have HTT := Lib.hid hT
      clear hT HT
      go_wp2_with fail
      refine (right_any A _ (by decide) _).mono ?_
      rintro e w3 ⟨rfl, rfl⟩
      go_wp2_with fail
      refine (right_any A _ (by decide) _).mono ?_
      rintro e w3 ⟨rfl, rfl⟩
      go_wp2_with fail
      refine (right_any A _ (by decide) _).mono ?_
      rintro e w3 ⟨rfl, rfl⟩
      go_wp2_with fail
      go_roundw
      case rel =>
        refine ⟨i + 1, _, A, B, C, _, E, F, G, by omega, by go_num, rfl, rfl, rfl, rfl, rfl, rfl, rfl, rfl, ?_, ?_⟩
        · show rounds kk (sched b) (i + 1) _ = _
          rw [rounds, HR.out, ← HK.out, ← HX.out, HTT.out]; rfl
        · obtain ⟨nd, hnd⟩ := HD.out
          exact ⟨_, by rw [hnd, World.drewN_drewN]⟩
      case measure => simp [intOf]; omega
    · rw [show (i : Int) = 64 by omega]
      have HR2 : Hid (rounds kk (sched b) 64 ⟨a0, b0, c0, d0, e0, f0, g0, h0⟩ = ⟨A, B, C, D, E, F, G, H⟩) := by rw [show 64 = i by omega]; exact HR.out
      clear HR hlt hi hi0
      go_wp2_with fail
      have hS3 : Arr wr 104 w.heap.size (wvs sl) := by obtain ⟨nd, hnd⟩ := HD.out; rw [hnd]; exact HS2.out.drewN nd
      have hZ3 : Arr wr 104 (w.heap.size + 2) z := by obtain ⟨nd, hnd⟩ := HD.out; rw [hnd]; exact HZ2.out.drewN nd
      have hB3 : Below w.heap.size w wr := by obtain ⟨nd, hnd⟩ := HD.out; rw [hnd]; exact HB2.out.trans (Joins.below_draws _ _ _)
      have hls : sl.length = 8 := by rw [HSL.out]; rfl
      have HS3 : Hid (Arr wr 104 w.heap.size (wvs (part8 sl [A, B, C, D, E, F, G, H] 0)) ∧ Arr wr 104 (w.heap.size + 2) z ∧ Below w.heap.size w wr) := ⟨by rw [part8_zero _ _ hls]; exact hS3, hZ3, hB3⟩
      clear hS3 hZ3 hB3 hls HD HB2 HE2 HW2 HS2 HZ2
      rw [show (#[Value.int .u32 A.toNat, Value.int .u32 B.toNat, Value.int .u32 C.toNat, Value.int .u32 D.toNat, Value.int .u32 E.toNat, Value.int .u32 F.toNat, Value.int .u32 G.toNat, Value.int .u32 H.toNat] : Array Value) = (wvs [A, B, C, D, E, F, G, H]).toArray from rfl]
      obtain ⟨vl, hvl⟩ : ∃ vl, vl = [A, B, C, D, E, F, G, H] := ⟨_, rfl⟩
      rw [← hvl] at HS3 ⊢
      have HVL := Lib.hid hvl
      have HVN : Hid (vl.length = 8) := by rw [hvl]; rfl
      clear hvl
      go_loopw [110] (fun iv wr => ∃ i : Nat, i ≤ 8 ∧ iv = .int .i64 i ∧ Hid (Arr wr 104 w.heap.size (wvs (part8 sl vl i)) ∧ Arr wr 104 (w.heap.size + 2) z ∧ Below w.heap.size w wr)) (fun iv _ => 8 - (intOf iv).toNat)
      case atStart => exact ⟨0, by omega, rfl, HS3.out⟩
      case round =>
        obtain ⟨i, hi, rfl, HM⟩ := hrel
        clear HS3
        have hi0 : (0 : Int) ≤ i := by omega
        by_cases hlt : i < 8
        · have hlt1 : (i : Int) < 8 := by omega
          have HN := Lib.hid (part8_next sl vl i hlt)
          have HPL := Lib.hid (part8_length sl vl i)
          obtain ⟨c, hc, HC⟩ : ∃ c : UInt32, wr.cell? ⟨w.heap.size, i, none⟩ = some (.int .u32 c.toNat) ∧ Hid (c = (part8 sl vl i).getD i 0) := ⟨_, (HM.out.1.cell i).trans (wvs_get _ i (by rw [HPL.out]; exact hlt)), rfl⟩
          have hf := HM.out.1.free i
          have hix := ix8 vl i hlt (by rw [HVN.out]; exact hlt)
          obtain ⟨x, hx⟩ : ∃ x, x = vl.getD i 0 := ⟨_, rfl⟩
          rw [← hx] at hix
          have HX := Lib.hid hx
          have r1 := Wp_wrap
          have r2 := Wp_mod
          clear hx
          go_wp2_with fail
          go_roundw
          case rel =>
            refine ⟨i + 1, by omega, by go_num, ?_⟩
            have hn := HN.out
            rw [← HC.out, ← HX.out] at hn
            refine ⟨?_, HM.out.2.1.setCell (by show w.heap.size + 2 ≠ w.heap.size; omega) _, HM.out.2.2.setCell (Nat.le_refl _) _⟩
            rw [← hn, ← wvs_set]
            exact HM.out.1.set i _
          case measure => simp [intOf]; omega
        · rw [show (i : Int) = 8 by omega]
          have HM2 : Hid (Arr wr 104 w.heap.size (wvs (blk ⟨a0, b0, c0, d0, e0, f0, g0, h0⟩ b).list) ∧ Arr wr 104 (w.heap.size + 2) z ∧ Below w.heap.size w wr) := by
            have h := HM.out
            rw [show i = 8 by omega, HSL.out, HVL.out] at h
            rw [show (blk ⟨a0, b0, c0, d0, e0, f0, g0, h0⟩ b).list = part8 (S8.list ⟨a0, b0, c0, d0, e0, f0, g0, h0⟩) [A, B, C, D, E, F, G, H] 8 from by unfold blk; rw [HR2.out]; rfl]
            exact h
          clear HM hlt hi hi0
          obtain ⟨R, hR⟩ : ∃ R, R = (blk ⟨a0, b0, c0, d0, e0, f0, g0, h0⟩ b).list := ⟨_, rfl⟩
          have HRL : Hid (R.length = 8) := by rw [hR]; rfl
          rw [← hR] at HM2
          have HRE := Lib.hid hR
          clear hR
          have hM := HM2.out.1
          have hZ := HM2.out.2.1
          go_wp2_with (first
            | ((with_reducible refine load8w (x := .tmp 2) (o := ⟨some 121, _, _, _, _, _⟩) hM HRL.out ?_ ?_); exact ⟨rfl, rfl, rfl⟩)
            | ((with_reducible refine store8w (x := .tmp 4) (y := .tmp 121) (l := R) (o := ⟨none, .store _ _ _, _, _, _, _⟩) hZ HZL.out HRL.out ?_ ?_); exact ⟨rfl, rfl, rfl, rfl⟩))
          exact bodyPost_ret (res8w rfl (hZ.row _) HRL.out rfl) rfl ⟨by rw [HRE.out], below_row HM2.out.2.2 (by omega) _⟩
end Go.Proofs.YtaikdbbakdicgaaDoor
/-
  sha.Start, sha.Constant, sha.join; the reference's Start and Table.
-/
namespace Go.Proofs.YtaikdbbakdicgaaDoor
open Go.ChangeShapes Go.WideShapes Go.ChangeAt Go.RowKit
set_option linter.unusedVariables false


set_option maxRecDepth 100000 in
theorem rstart_any (w : World) : Calls Tryd.prog 70 #[] w fun e w' => e = .returned (.agg (wvs st0.list).toArray) ∧ Below w.heap.size w w' := by
  go_enter Tryd.func70, Tryd.ntmps70
  go_wp2_with ((with_reducible refine new8w (x := .tmp 0) (y := .tmp 1) (l := st0.list) (o := ⟨none, .store _ _ _, _, _, _, _⟩) rfl ?_ ?_); exact ⟨rfl, rfl, rfl, rfl, rfl⟩)
  exact bodyPost_ret (res8w rfl (Arr.new' w 104 (wvs st0.list).toArray (wvs st0.list) (by simp)) rfl rfl) rfl ⟨rfl, (Below.refl _ _).alloc (Nat.le_refl _) _⟩
set_option maxRecDepth 100000 in
set_option maxHeartbeats 2000000 in
theorem rtable_any (w : World) : Calls Tryd.prog 71 #[] w fun e w' => e = .returned (.agg (wvs kk).toArray) ∧ Below w.heap.size w w' := by
  obtain ⟨lk, hlk⟩ : ∃ lk, lk = kk := ⟨_, rfl⟩
  have HLK : Hid (lk.length = 64) := by rw [hlk]; rfl
  rw [← hlk]
  have hv : (#[Value.int .u32 1116352408, Value.int .u32 1899447441, Value.int .u32 3049323471, Value.int .u32 3921009573, Value.int .u32 961987163, Value.int .u32 1508970993, Value.int .u32 2453635748, Value.int .u32 2870763221, Value.int .u32 3624381080, Value.int .u32 310598401, Value.int .u32 607225278, Value.int .u32 1426881987, Value.int .u32 1925078388, Value.int .u32 2162078206, Value.int .u32 2614888103, Value.int .u32 3248222580, Value.int .u32 3835390401, Value.int .u32 4022224774, Value.int .u32 264347078, Value.int .u32 604807628, Value.int .u32 770255983, Value.int .u32 1249150122, Value.int .u32 1555081692, Value.int .u32 1996064986, Value.int .u32 2554220882, Value.int .u32 2821834349, Value.int .u32 2952996808, Value.int .u32 3210313671, Value.int .u32 3336571891, Value.int .u32 3584528711, Value.int .u32 113926993, Value.int .u32 338241895, Value.int .u32 666307205, Value.int .u32 773529912, Value.int .u32 1294757372, Value.int .u32 1396182291, Value.int .u32 1695183700, Value.int .u32 1986661051, Value.int .u32 2177026350, Value.int .u32 2456956037, Value.int .u32 2730485921, Value.int .u32 2820302411, Value.int .u32 3259730800, Value.int .u32 3345764771, Value.int .u32 3516065817, Value.int .u32 3600352804, Value.int .u32 4094571909, Value.int .u32 275423344, Value.int .u32 430227734, Value.int .u32 506948616, Value.int .u32 659060556, Value.int .u32 883997877, Value.int .u32 958139571, Value.int .u32 1322822218, Value.int .u32 1537002063, Value.int .u32 1747873779, Value.int .u32 1955562222, Value.int .u32 2024104815, Value.int .u32 2227730452, Value.int .u32 2361852424, Value.int .u32 2428436474, Value.int .u32 2756734187, Value.int .u32 3204031479, Value.int .u32 3329325298] : Array Value) = (wvs lk).toArray := by rw [hlk]; kernel_rfl
  have HV := Lib.hid hv
  clear hlk hv
  go_enter Tryd.func71, Tryd.ntmps71
  go_wp2_with ((with_reducible refine new64w (x := .tmp 0) (y := .tmp 1) (l := lk) (o := ⟨none, .store _ _ _, _, _, _, _⟩) HLK.out ?_ ?_); exact ⟨rfl, rfl, rfl, by rw [← HV.out]; rfl, rfl⟩)
  exact bodyPost_ret (res64w rfl (Arr.new' w 114 (wvs lk).toArray (wvs lk) (by simp)) HLK.out rfl) rfl ⟨rfl, (Below.refl _ _).alloc (Nat.le_refl _) _⟩
end Go.Proofs.YtaikdbbakdicgaaDoor
/-
  A whole array stored into the block that was made last, its number said.
-/
namespace Go.Proofs.YtaikdbbakdicgaaDoor
open Go.ChangeShapes Go.WideShapes Go.ChangeAt Go.RowKit
set_option linter.unusedVariables false
section
variable {ops : Array Oper} {rest : List Oper} {o : Oper} {a : Act} {Q : Exit → Act → World → Prop} {w : World} {t : TypeId} {x y : Operand}
theorem at8w (g : Nat) {l : List UInt32} {cs : Array Value} (hl : l.length = 8) (hs : o.guard = none ∧ o.op = .store 104 x y ∧ a.eval x = .pointer (some ⟨g, 0, none⟩) ∧ a.eval y = .agg (wvs l).toArray ∧ cs.toList.length = 8 ∧ g = w.heap.size)
    (hk : wpList Tryd.prog ops Q rest (a.put o.dst undef) (w.alloc (.cells (wvs l).toArray t))) : wpList Tryd.prog ops Q (o :: rest) a (w.alloc (.cells cs t)) := by
  obtain ⟨h1, h2, h3, h4, h5, h6⟩ := hs
  subst h6
  exact new8w hl ⟨h1, h2, h3, h4, h5⟩ hk
theorem at64w (g : Nat) {l : List UInt32} {cs : Array Value} (hl : l.length = 64) (hs : o.guard = none ∧ o.op = .store 114 x y ∧ a.eval x = .pointer (some ⟨g, 0, none⟩) ∧ a.eval y = .agg (wvs l).toArray ∧ cs.toList.length = 64 ∧ g = w.heap.size)
    (hk : wpList Tryd.prog ops Q rest (a.put o.dst undef) (w.alloc (.cells (wvs l).toArray t))) : wpList Tryd.prog ops Q (o :: rest) a (w.alloc (.cells cs t)) := by
  obtain ⟨h1, h2, h3, h4, h5, h6⟩ := hs
  subst h6
  exact new64w hl ⟨h1, h2, h3, h4, h5⟩ hk
theorem at32b (g : Nat) {l : List UInt8} {cs : Array Value} (hl : l.length = 32) (hs : o.guard = none ∧ o.op = .store 24 x y ∧ a.eval x = .pointer (some ⟨g, 0, none⟩) ∧ a.eval y = .agg (bvs l).toArray ∧ cs.toList.length = 32 ∧ g = w.heap.size)
    (hk : wpList Tryd.prog ops Q rest (a.put o.dst undef) (w.alloc (.cells (bvs l).toArray t))) : wpList Tryd.prog ops Q (o :: rest) a (w.alloc (.cells cs t)) := by
  obtain ⟨h1, h2, h3, h4, h5, h6⟩ := hs
  subst h6
  exact new32b hl ⟨h1, h2, h3, h4, h5⟩ hk
end
end Go.Proofs.YtaikdbbakdicgaaDoor
/-
  A slice of bytes of the call's own that need not begin at the head of its row: append, cut.
-/
namespace Go.Proofs.YtaikdbbakdicgaaDoor
open Go.ChangeShapes Go.WideShapes Go.ChangeAt Go.RowKit
set_option linter.unusedVariables false

/-- v reads as l, in a block from base on whose cells up to v's capacity are there and may be written. -/
def Held (base : Nat) (w : World) (v : Value) (l : List UInt8) : Prop :=
  (v = .slice none 0 0 ∧ l = []) ∨
  ∃ g off cap, v = .slice (some ⟨g, off, none⟩) l.length cap ∧ l.length ≤ cap ∧ cap ≤ maxLen ∧ base ≤ g ∧ g < w.heap.size ∧ (∀ i, i < l.length → w.cell? ⟨g, off + i, none⟩ = some (bv (l.getD i 0))) ∧ ∀ i, i < cap → (w.cell? ⟨g, off + i, none⟩).isSome = true ∧ w.frozen? ⟨g, off + i, none⟩ = false
theorem Held.rd {base : Nat} {w : World} {v : Value} {l : List UInt8} (h : Held base w v l) : Rd w.heap.size w v l := by
  rcases h with ⟨rfl, rfl⟩ | ⟨g, off, cap, hv, h1, h2, h3, h4, h5, h6⟩
  · exact .inl ⟨none, rfl, rfl⟩
  · exact .inr ⟨g, off, cap, hv, h1, h2, h4, h5⟩
theorem Held.later {base : Nat} {w w' : World} {v : Value} {l : List UInt8} (h : Held base w v l) (hb : Below w.heap.size w w') : Held base w' v l := by
  rcases h with h | ⟨g, off, cap, hv, h1, h2, h3, h4, h5, h6⟩
  · exact .inl h
  · exact .inr ⟨g, off, cap, hv, h1, h2, h3, Nat.lt_of_lt_of_le h4 hb.size, fun i hi => (hb.cell (p := ⟨g, off + i, none⟩) h4).trans (h5 i hi), fun i hi => by
      rw [hb.cell (p := ⟨g, off + i, none⟩) h4, hb.frozen (p := ⟨g, off + i, none⟩) h4]; exact h6 i hi⟩
theorem Held.lt {base : Nat} {w : World} {v : Value} {l : List UInt8} (h : Held base w v l) : ∀ a n c, v = .slice (some a) n c → a.block < w.heap.size := by
  intro a n c hv
  rcases h with ⟨h, _⟩ | ⟨g, off, cap, h, h1, h2, h3, h4, _⟩
  · rw [h] at hv; cases hv
  · rw [h] at hv; cases hv; exact h4
theorem Held.under {base top : Nat} {w w' : World} {v : Value} {l : List UInt8} (h : Held base w v l) (ht : ∀ a n c, v = .slice (some a) n c → a.block < top) (hb : Below top w w') : Held base w' v l := by
  rcases h with h | ⟨g, off, cap, hv, h1, h2, h3, h4, h5, h6⟩
  · exact .inl h
  · have hg : g < top := ht ⟨g, off, none⟩ _ _ hv
    exact .inr ⟨g, off, cap, hv, h1, h2, h3, Nat.lt_of_lt_of_le h4 hb.size, fun i hi => (hb.cell (p := ⟨g, off + i, none⟩) hg).trans (h5 i hi), fun i hi => by
      rw [hb.cell (p := ⟨g, off + i, none⟩) hg, hb.frozen (p := ⟨g, off + i, none⟩) hg]; exact h6 i hi⟩
theorem Held.row {base : Nat} {w : World} {v : Value} {l : List UInt8} (h : Held base w v l) {k : Nat} (hk : k < base) (c : Array Value) : Held base (w.setRow k c) v l := by
  rcases h with h | ⟨g, off, cap, hv, h1, h2, h3, h4, h5, h6⟩
  · exact .inl h
  · have hb : ∀ o, (w.setRow k c).heap[(⟨g, o, none⟩ : Addr).block]? = w.heap[(⟨g, o, none⟩ : Addr).block]? := fun o => by
      show (w.setRow k c).heap[g]? = w.heap[g]?
      simp only [World.setRow, Array.getElem?_modify]
      rw [if_neg (by omega)]
    exact .inr ⟨g, off, cap, hv, h1, h2, h3, by simpa [World.setRow] using h4, fun i hi => (World.cell?_of_block (hb _)).trans (h5 i hi), fun i hi => by
      rw [World.cell?_of_block (hb _), World.frozen?_of_block (hb _)]; exact h6 i hi⟩
theorem Held.mono {base base' : Nat} {w : World} {v : Value} {l : List UInt8} (h : Held base w v l) (hb : base' ≤ base) : Held base' w v l := by
  rcases h with h | ⟨g, off, cap, hv, h1, h2, h3, h4⟩
  · exact .inl h
  · exact .inr ⟨g, off, cap, hv, h1, h2, Nat.le_trans hb h3, h4⟩
theorem Held.of_own {base n : Nat} {w : World} {v : Value} {l : List UInt8} (h : w.ownsRow base 5 1 v n (bvs l)) : Held base w v l := by
  have hr := Rd.of_own h
  obtain rfl : n = l.length := by have := h.1; rw [bvs_length] at this; omega
  rcases h.2 with ⟨hv, hn⟩ | ⟨g, cap, cur, hv, hb, hg, h1, h2, h3, h4⟩
  · exact .inl ⟨hv, List.eq_nil_of_length_eq_zero hn⟩
  · refine .inr ⟨g, 0, cap, hv, h1, h2, hb, (Array.getElem?_eq_some_iff.1 hg).1, fun i hi => ?_, fun i hi => ?_⟩
    · rw [Nat.zero_add, cell_of_row w g i cur 5 (0, 0) hg]
      have := bvs_getElem l i hi
      rw [← h4, List.getElem?_take] at this
      split at this
      · simpa using this
      · cases this
    · rw [Nat.zero_add, cell_of_row w g i cur 5 (0, 0) hg]
      refine ⟨by rw [Array.getElem?_eq_getElem (by omega)]; rfl, ?_⟩
      simp [World.frozen?, hg]
theorem Held.form {base : Nat} {w : World} {v : Value} {l : List UInt8} (h : Held base w v l) : ∃ q c, v = .slice q l.length c ∧ l.length ≤ c ∧ c ≤ maxLen := by
  rcases h with ⟨rfl, rfl⟩ | ⟨g, off, cap, rfl, h1, h2, _⟩
  · exact ⟨none, 0, rfl, Nat.le_refl _, Nat.zero_le _⟩
  · exact ⟨_, _, rfl, h1, h2⟩
/-- What is left of a slice behind its first k bytes. -/
theorem Held.drop {base : Nat} {w : World} {g off n cap k : Nat} {l : List UInt8} (h : Held base w (.slice (some ⟨g, off, none⟩) n cap) l) (hk : k ≤ n) : Held base w (.slice (some (if k = cap then ⟨g, off, none⟩ else ⟨g, off + k, none⟩)) (n - k) (cap - k)) (l.drop k) := by
  rcases h with ⟨hv, _⟩ | ⟨g', off', cap', hv, h1, h2, h3, h4, h5, h6⟩
  · cases hv
  · simp only [Value.slice.injEq, Option.some.injEq, Addr.mk.injEq] at hv
    obtain ⟨⟨rfl, rfl, _⟩, rfl, rfl⟩ := hv
    have hl : (l.drop k).length = l.length - k := List.length_drop
    by_cases e : k = cap
    · rw [if_pos e]
      refine .inr ⟨g, off, cap - k, by rw [hl], by omega, by omega, h3, h4, fun i hi => by omega, fun i hi => h6 i (by omega)⟩
    · rw [if_neg e]
      refine .inr ⟨g, off + k, cap - k, by rw [hl], by omega, by omega, h3, h4, fun i hi => ?_, fun i hi => ?_⟩
      · rw [Nat.add_assoc, h5 (k + i) (by omega)]
        congr 2
        simp [List.getD_eq_getElem?_getD]
      · rw [Nat.add_assoc]; exact h6 (k + i) (by omega)

/-- What is appended. -/
theorem src_of_rd {C : Nat} {w : World} {vx : Value} {m : List UInt8} (hr : Rd C w vx m) : (vx = .slice none 0 0 ∧ m = []) ∨ ∃ a c, vx = .slice (some a) m.length c ∧ ∀ j u, (bvs m)[j]? = some u → w.cell? (a.add j) = some u := by
  rcases hr with ⟨_ | ad, rfl, rfl⟩ | ⟨b, off, cap, rfl, h1, h2, h3, hc⟩
  · exact .inl ⟨rfl, rfl⟩
  · exact .inr ⟨ad, 0, rfl, fun j u hu => by simp [bvs] at hu⟩
  · refine .inr ⟨⟨b, off, none⟩, cap, rfl, ?_⟩
    intro j u hu
    have hj : j < m.length := by
      have := (List.getElem?_eq_some_iff.1 hu).1; simpa [bvs] using this
    rw [bvs_getElem m j hj] at hu
    simp only [Option.some.injEq] at hu
    subst hu
    rw [show (⟨b, off, none⟩ : Addr).add j = ⟨b, off + j, none⟩ from Addr.add_mid b off j]; exact hc j hj
theorem getD_app (l m : List UInt8) (i : Nat) : (l ++ m).getD i 0 = if i < l.length then l.getD i 0 else m.getD (i - l.length) 0 := by
  simp only [List.getD_eq_getElem?_getD, List.getElem?_append]
  split <;> rfl
theorem run_held {w : World} {base C : Nat} {v vx : Value} {l m : List UInt8} (hh : Held base w v l) (hr : Rd C w vx m) (hlen : l.length + m.length ≤ 140737488355328) (hbase : base ≤ w.heap.size) (ty : TypeId) :
    ∃ v' w', (Builtin.append_ #[22, 22] ty #[v, vx]).run Tryd.prog w = .ok v' w' ∧ Held base w' v' (l ++ m) ∧ Below base w w' := by
  obtain ⟨i0, hi, hz0, hz1, hz2⟩ := info_parts Tryd.info5
  rcases src_of_rd hr with ⟨rfl, rfl⟩ | ⟨ad, c, rfl, hc⟩
  · rw [List.append_nil]
    rcases hh with ⟨rfl, rfl⟩ | ⟨g, off, cap, rfl, h1, h2, h3, h4, h5, h6⟩
    · exact ⟨.slice none 0 0, w, by simp [Builtin.append_, run_underlying Tryd.underlying22, sizeOf, typeInfo, hi, Builtin.lenOf, Builtin.firstCells], .inl ⟨rfl, rfl⟩, Below.refl _ _⟩
    · have hs := Src.ofNil (P := Tryd.prog) (size := i0.size) w Tryd.underlying22 0
      have h := run_append_room_src (P := Tryd.prog) w 22 22 ty 5 i0 Tryd.underlying22 hi g off l.length cap _ 0 [] hs (by omega) (fun j hj => by simp at hj) (fun j hj => by simp at hj)
      exact ⟨_, _, h, .inr ⟨g, off, cap, rfl, h1, h2, h3, h4, h5, h6⟩, Below.refl _ _⟩
  · rcases hh with ⟨rfl, rfl⟩ | ⟨g, off, cap, rfl, h1, h2, h3, h4, h5, h6⟩
    · obtain ⟨v', w', hrun, ho, hg, _⟩ := run_append_own (P := Tryd.prog) w base 22 ty 5 i0 (.int .u8 0) 1 1 Tryd.underlying22 hi hz0 hz1 hz2 rfl (by decide) (.slice none 0 0) 0 [] (World.ownsRow_nil _ _ _ _) ad m.length c (bvs m) (by simp [bvs]) hc (bvs_one m) (by unfold maxLen; omega) (by omega) hbase
      exact ⟨v', w', hrun, Held.of_own (n := 0 + m.length) (by simpa using ho), (Below.refl _ _).grown hg hbase (fun k hk => by cases hk)⟩
    · by_cases hroom : l.length + m.length ≤ cap
      · have h := run_append_room_cells (P := Tryd.prog) w 22 ty 5 i0 Tryd.underlying22 hi g off l.length cap ad m.length c (bvs m) (by rw [hz1]; simp [bvs]) hc (bvs_one m) hroom
          (fun j hj => by rw [hz1, Nat.mul_one, Nat.add_assoc]; exact (h6 (l.length + j) (by rw [bvs_length] at hj; omega)).1) (fun j hj => by rw [hz1, Nat.mul_one, Nat.add_assoc]; exact (h6 (l.length + j) (by rw [bvs_length] at hj; omega)).2)
        rw [hz1, Nat.mul_one] at h
        have hbel : Below base w (w.setCells g (off + l.length) (bvs m)) := Lib.below_setCells g h3 (bvs m) _ (Below.refl _ _)
        have hll : (l ++ m).length = l.length + m.length := List.length_append
        refine ⟨_, _, h, .inr ⟨g, off, cap, by rw [hll], by omega, h2, h3, Nat.lt_of_lt_of_le h4 hbel.size, fun i hi => ?_, fun i hi => ?_⟩, hbel⟩
        · rw [getD_app]
          by_cases hil : i < l.length
          · rw [if_pos hil, World.cell?_setCells_out g (bvs m) _ w _ (fun _ _ => .inl (by show off + i < off + l.length; omega))]
            exact h5 i hil
          · rw [if_neg hil]
            have := World.cell?_setCells_in g (bvs m) (off + l.length) w (fun j hj => by rw [Nat.add_assoc]; exact (h6 (l.length + j) (by rw [bvs_length] at hj; omega)).1) (i - l.length) (by rw [bvs_length]; omega)
            rw [show off + l.length + (i - l.length) = off + i by omega] at this
            rw [this]
            have hg := bvs_getElem m (i - l.length) (by omega)
            rw [List.getElem?_eq_getElem (by rw [bvs_length]; omega)] at hg
            exact hg
        · exact ⟨World.isSome_setCells g (bvs m) _ w _ (h6 i hi).1, by rw [World.frozen?_setCells]; exact (h6 i hi).2⟩
      · obtain ⟨v', w', hrun, ho, hg⟩ := run_append_arg_grows (P := Tryd.prog) w 22 ty 5 i0 (.int .u8 0) 1 1 Tryd.underlying22 hi hz0 hz1 hz2 rfl (by decide) ⟨g, off, none⟩ l.length cap (bvs l) (by simp [bvs])
          (fun j u hj => by
            have hjl : j < l.length := by
              have := (List.getElem?_eq_some_iff.1 hj).1; simpa [bvs] using this
            rw [bvs_getElem l j hjl] at hj
            simp only [Option.some.injEq] at hj
            subst hj
            rw [Addr.add_mid]; exact h5 j hjl) ad m.length c (bvs m) (by simp [bvs]) hc (by omega) (by unfold maxLen; omega) (by omega)
        refine ⟨v', w', hrun, (Held.of_own (n := l.length + m.length) ?_).mono hbase, (Below.refl _ _).grown hg hbase (fun k hk => by cases hk)⟩
        rw [bvs_append]; exact ho

section
variable {ops : Array Oper} {rest : List Oper} {o : Oper} {a : Act} {Q : Exit → Act → World → Prop} {w : World}
theorem app_held (hgd : o.guard = none) (s x : Operand) (ho : o.op = .call { callee := .builtin .append, args := #[s, x], argTypes := #[22, 22] })
    {base C : Nat} {v vx : Value} {l m : List UInt8} (hs : a.eval s = v) (hh : Held base w v l) (hx : a.eval x = vx) (hr : Rd C w vx m) (hlen : l.length + m.length ≤ 140737488355328) (hbase : base ≤ w.heap.size)
    (h : ∀ v' w', Held base w' v' (l ++ m) → Below base w w' → wpList Tryd.prog ops Q rest (a.put o.dst v') w') : wpList Tryd.prog ops Q (o :: rest) a w := by
  refine wpList_plain hgd fun K hK' => ?_
  obtain ⟨v', w', hrun, r1, r2⟩ := run_held hh hr hlen hbase o.type
  unfold Oper.wp
  simp [execOp, ho, resolve, invoke, builtin, hs, hx, hrun, Result.andThen]
  exact hK' _ _ (h v' w' r1 r2)
end
end Go.Proofs.YtaikdbbakdicgaaDoor
/-
  sha.blocks.
-/
namespace Go.Proofs.YtaikdbbakdicgaaDoor
open Go.ChangeShapes Go.WideShapes Go.ChangeAt Go.RowKit
set_option linter.unusedVariables false

theorem arr_at (a : Addr) (n c : Nat) (h : ¬ n < 64) (w : World) : (Instr.arrayAt 79 (.slice (some a) n c)).run Tryd.prog w = .ok (.pointer (some a)) w := by
  simp [Instr.arrayAt, Sem.run_bind, run_underlying Tryd.underlying79, h]
def slen : Value → Nat
  | .slice _ n _ => n
  | _ => 0
theorem comp_succ (k : Nat) (s : S8) (l : List UInt8) : compN (k + 1) s l = blk (compN k s l) ((l.drop (64 * k)).take 64) := by rw [comp_add]; rfl
/-- What a round of blocks keeps. -/
def Bl (base : Nat) (w : World) (s : S8) (l : List UInt8) (z : List Value) (k : Nat) (v : Value) (wr : World) : Prop :=
  Held base wr v (l.drop (64 * k)) ∧ Arr wr 104 w.heap.size (wvs (compN k s l).list) ∧ Arr wr 104 (w.heap.size + 1) z ∧ Below w.heap.size w wr ∧ Env wr ∧ ∀ a n c, v = .slice (some a) n c → a.block < w.heap.size
def BlPost (base : Nat) (w : World) (s : S8) (l : List UInt8) (e : Ending) (w' : World) : Prop :=
  ∃ v, e = .returned (.tuple #[.agg (wvs (compN (l.length / 64) s l).list).toArray, v]) ∧ Held base w' v (l.drop (64 * (l.length / 64))) ∧ Below w.heap.size w w'

set_option maxRecDepth 100000 in
set_option maxHeartbeats 4000000 in
theorem blocks_any {base : Nat} {s : S8} {v : Value} {l : List UInt8} {w : World} (hh : Held base w v l) (hB : base ≤ w.heap.size) (hl : l.length ≤ 140737488355328) (he : Env w) :
    Calls Tryd.prog 60 #[.agg (wvs s.list).toArray, v] w (BlPost base w s l) := by
  obtain ⟨sl, hsl⟩ : ∃ sl, sl = s.list := ⟨_, rfl⟩
  rw [← hsl]
  have HST : Hid (∀ z : Array Value, z.toList.length = 8 → Bl base w s l z.toList 0 v ((w.alloc (.cells (wvs sl).toArray 104)).alloc (.cells z 104))) := by
    intro z hz
    have h1 : Below w.heap.size w ((w.alloc (.cells (wvs sl).toArray 104)).alloc (.cells z 104)) := ((Below.refl _ _).alloc (Nat.le_refl _) _).alloc (by simp) _
    refine ⟨by simpa using hh.later h1, ?_, Arr.new2 w _ _ z _ rfl, h1, he.below h1, hh.lt⟩
    rw [hsl]
    exact (Arr.new' w _ (wvs s.list).toArray (wvs s.list) (by simp)).alloc _
  have HG : Hid (0 < w.heap.size ∧ 2 < w.heap.size) := ⟨by obtain ⟨_, h⟩ := he.1; exact h.lt, by obtain ⟨_, h⟩ := he.2; exact h.lt⟩
  clear hh he hsl
  go_enter Tryd.func60, Tryd.ntmps60
  go_wp2_with fail
  go_loopw [1] (fun vv wr => ∃ (k : Nat) (z : List Value), 64 * k ≤ l.length ∧ slen vv = l.length - 64 * k ∧ z.length = 8 ∧ Hid (Bl base w s l z k vv wr)) (fun vv _ => slen vv)
  case atStart =>
    have h := HST.out #[.int .u32 0, .int .u32 0, .int .u32 0, .int .u32 0, .int .u32 0, .int .u32 0, .int .u32 0, .int .u32 0] rfl
    obtain ⟨q, c, hv, _⟩ := h.1.form
    exact ⟨0, _, by omega, by rw [hv]; simp [slen], rfl, h⟩
  case round =>
    obtain ⟨k, z, hk, hlen, hz, HM⟩ := hrel
    clear HST
    have HZ := Lib.hid hz
    clear hz
    obtain ⟨m, hm⟩ : ∃ m, m = l.drop (64 * k) := ⟨_, rfl⟩
    have hml : m.length = l.length - 64 * k := by rw [hm, List.length_drop]
    have HE := HM.out.1
    rw [← hm] at HE
    obtain ⟨n, hn⟩ : ∃ n, n = m.length := ⟨_, rfl⟩
    by_cases h64 : 64 ≤ n
    · rcases HE with ⟨_, h0⟩ | ⟨g, off, c, rfl, h1, h2, h3, h4, h5, h6⟩
      · rw [h0] at hn; simp at hn; omega
      have HR := Lib.hid (range_bytes h5 64 (by omega))
      have HHd := Lib.hid (show Held base wr (.slice (some ⟨g, off, none⟩) m.length c) m from .inr ⟨g, off, c, rfl, h1, h2, h3, h4, h5, h6⟩)
      have i1 : (64 : Int) ≤ n := by omega
      have i2 : ¬ n < 64 := by omega
      have i3 : (64 : Int) ≤ c := by omega
      have i4 : (n : Int) ≤ c := by omega
      rw [← hn] at HHd h1 ⊢
      have HN := Lib.hid hn
      have HML := Lib.hid hml
      have HMD := Lib.hid hm
      have HLEN := Lib.hid hlen
      clear h3 h4 h5 h6 hn hml hm hlen
      go_wp2_with fail
      have har := arr_at ⟨g, off, none⟩ n c i2
      refine region_tail 4 (by kernel_rfl) (by kernel_rfl) ?_
      simp only [List.take_succ_cons, List.take_zero, List.drop_succ_cons, List.drop_zero]
      have hS : Arr wr.drew 104 w.heap.size (wvs (compN k s l).list) := HM.out.2.1
      have hR : wr.drew.rangeAt g off (bvs (List.take 64 m)) := HR.out
      have HF := Lib.hid (show Held base wr.drew (.slice (some ⟨g, off, none⟩) n c) m ∧ Arr wr.drew 104 (w.heap.size + 1) z ∧ Below w.heap.size w wr.drew ∧ Env wr.drew ∧ g < w.heap.size from ⟨HHd.out.later (Below.refl _ _).drew, HM.out.2.2.1, HM.out.2.2.2.1.drew, HM.out.2.2.2.2.1, HM.out.2.2.2.2.2 ⟨g, off, none⟩ _ _ rfl⟩)
      have HT : Hid ((List.take 64 m).length = 64) := by show _ = _; rw [List.length_take, ← HN.out]; omega
      obtain ⟨S, hS8⟩ : ∃ S, S = (compN k s l) := ⟨_, rfl⟩
      rw [← hS8] at hS
      have HS8 := Lib.hid hS8
      have HL8 : Hid (S.list.length = 8) := rfl
      clear hS8 HM HR HHd
      generalize wr.drew = w2 at hS hR HF ⊢
      have HSS := Lib.hid hS
      ((with_reducible refine still8w (x := .tmp 2) (o := ⟨some 9, _, _, _, _, _⟩) hS HL8.out ?_ ?_); exact ⟨rfl, rfl, rfl⟩)
      still_step
      still_step
      ((with_reducible refine still64b (x := .tmp 11) (o := ⟨some 12, _, _, _, _, _⟩) hR HT.out ?_ ?_); exact ⟨rfl, rfl, rfl⟩)
      refine wpStill_nil ?_
      clear hS hR
      go_wp2_with fail
      refine (block_any S (List.take 64 m) HT.out w2 HF.out.2.2.2.1).mono ?_
      rintro e w3 ⟨rfl, b3⟩
      obtain ⟨R, hRR⟩ : ∃ R, R = (blk S (List.take 64 m)).list := ⟨_, rfl⟩
      rw [← hRR]
      have HBL : Hid (R.length = 8) := by rw [hRR]; rfl
      have HRR := Lib.hid hRR
      clear hRR
      have hA := HSS.out.later b3
      have HBN : Hid ((wvs S.list).length = 8) := rfl
      have HF3 := Lib.hid (show Held base w3 (.slice (some ⟨g, off, none⟩) n c) m ∧ Arr w3 104 w.heap.size (wvs S.list) ∧ Arr w3 104 (w.heap.size + 1) z ∧ Below w.heap.size w w3 ∧ Env w3 ∧ g < w.heap.size from ⟨HF.out.1.later b3, hA, HF.out.2.1.later b3, HF.out.2.2.1.trans (b3.mono HF.out.2.2.1.size), HF.out.2.2.2.1.below b3, HF.out.2.2.2.2⟩)
      clear b3 HF HSS
      by_cases hcap : 64 = c
      all_goals go_wp2_with ((with_reducible refine store8w (x := .tmp 2) (y := .tmp 13) (l := R) (o := ⟨none, .store _ _ _, _, _, _, _⟩) hA HBN.out HBL.out ?_ ?_); exact ⟨rfl, rfl, rfl, rfl⟩)
      all_goals
        have hb4 : Below w.heap.size w3 (w3.setRow w.heap.size (wvs R).toArray) := below_row (Below.refl _ _) (Nat.le_refl _) _
        have HH4 := HF3.out.1.under (top := w.heap.size) (fun a n c e => by cases e; exact HF3.out.2.2.2.2.2) hb4
        have HD := HH4.drop (k := 64) h64
        have HMX : Hid (m.drop 64 = l.drop (64 * (k + 1))) := by show _ = _; rw [HMD.out, List.drop_drop]; congr 1
        rw [HMX.out] at HD
        have hkk : 64 * (k + 1) ≤ l.length := by have := HML.out; have := HN.out; omega
        have HRW : Hid (R = (compN (k + 1) s l).list) := by show _ = _; rw [HRR.out, comp_succ, ← HS8.out, ← HMD.out]
        have hE4 : Env (w3.setRow w.heap.size (wvs R).toArray) := ⟨HF3.out.2.2.2.2.1.1.imp fun _ h => h.row_other (Nat.ne_of_lt HG.out.1) _, HF3.out.2.2.2.2.1.2.imp fun _ h => h.row_other (Nat.ne_of_lt HG.out.2) _⟩
        have HB4 : Hid (∀ v', Held base (w3.setRow w.heap.size (wvs R).toArray) v' (l.drop (64 * (k + 1))) → (∀ a n c, v' = .slice (some a) n c → a.block < w.heap.size) → Bl base w s l z (k + 1) v' (w3.setRow w.heap.size (wvs R).toArray)) := by
          intro v' hv hlt
          exact ⟨hv, by rw [← HRW.out]; exact HF3.out.2.1.row _, HF3.out.2.2.1.row_other (by omega) _, below_row HF3.out.2.2.2.1 (Nat.le_refl _) _, hE4, hlt⟩
        have hgl := HF3.out.2.2.2.2.2
      · rw [if_pos hcap] at HD
        have hn : n = 64 := by omega
        have hc : c = 64 := by omega
        go_roundw
        case rel =>
          refine ⟨k + 1, z, hkk, ?_, HZ.out, HB4.out _ ?_ (fun a n c e => by cases e; exact hgl)⟩
          · have := HML.out; have := HN.out; simp [slen]; omega
          · rw [hn, hc] at HD; exact HD
        case measure => simp [slen]; omega
      · rw [if_neg hcap] at HD
        go_roundw
        case rel =>
          refine ⟨k + 1, z, hkk, ?_, HZ.out, HB4.out _ HD (fun a n c e => by cases e; exact hgl)⟩
          have := HML.out; have := HN.out; simp [slen]; omega
        case measure => simp [slen]; omega
    · obtain ⟨q, c, rfl, hc1, hc2⟩ := HE.form
      have hkq : k = l.length / 64 := by omega
      have hM := HM.out.2.1
      have hZ := HM.out.2.2.1
      have HHE := Lib.hid (And.intro HE (And.intro HM.out.2.2.2.1 HM.out.2.2.2.2.2))
      rw [← hn] at hc1 HHE ⊢
      have HMD := Lib.hid hm
      obtain ⟨S, hS8⟩ : ∃ S, S = (compN k s l) := ⟨_, rfl⟩
      rw [← hS8] at hM
      have HS8 := Lib.hid hS8
      have HKQ := Lib.hid hkq
      obtain ⟨R, hRR⟩ : ∃ R, R = S.list := ⟨_, rfl⟩
      rw [← hRR] at hM
      have HRL : Hid (R.length = 8) := by rw [hRR]; rfl
      have HRR := Lib.hid hRR
      have i1 : ¬ (64 : Int) ≤ n := by omega
      clear hm hkq HM hlen hml HE hn hS8 hRR
      go_wp2_with (first
        | ((with_reducible refine load8w (x := .tmp 2) (o := ⟨some 16, _, _, _, _, _⟩) hM HRL.out ?_ ?_); exact ⟨rfl, rfl, rfl⟩)
        | ((with_reducible refine store8w (x := .tmp 4) (y := .tmp 16) (l := R) (o := ⟨none, .store _ _ _, _, _, _, _⟩) hZ HZ.out HRL.out ?_ ?_); exact ⟨rfl, rfl, rfl, rfl⟩))
      have hb : Below w.heap.size wr (wr.setRow (w.heap.size + 1) (wvs R).toArray) := below_row (Below.refl _ _) (by omega) _
      refine bodyPost_ret (res8wt rfl (hZ.row _) HRL.out rfl) rfl ⟨.slice q n c, ?_, ?_, HHE.out.2.1.trans hb⟩
      · rw [HRR.out, HS8.out, HKQ.out]; rfl
      · have h := HHE.out.1.under HHE.out.2.2 hb
        rw [HMD.out, HKQ.out] at h
        exact h
end Go.Proofs.YtaikdbbakdicgaaDoor
/-
  sha.join.
-/
namespace Go.Proofs.YtaikdbbakdicgaaDoor
open Go.ChangeShapes Go.WideShapes Go.ChangeAt Go.RowKit
set_option linter.unusedVariables false

/-- Byte j of a state's digest. -/
def jbyte (l : List UInt32) (j : Nat) : UInt8 := (l.getD (j / 4) 0 >>> UInt32.ofNat (24 - 8 * (j % 4))).toUInt8
/-- The digest when n bytes of it are there. -/
def jpart (l : List UInt32) (n : Nat) : List UInt8 := (List.range 32).map fun j => if j < n then jbyte l j else 0
theorem jpart_length (l : List UInt32) (n : Nat) : (jpart l n).length = 32 := by simp [jpart]
theorem jpart_get (l : List UInt32) (n j : Nat) (h : j < 32) : (jpart l n).getD j 0 = if j < n then jbyte l j else 0 := by
  simp [jpart, List.getD_eq_getElem?_getD, h]
theorem jpart_done (s : S8) : jpart s.list 32 = joinS s := by
  unfold jpart joinS
  apply List.map_congr_left
  intro j hj
  rw [if_pos (List.mem_range.1 hj)]; rfl
theorem jpart_zero (l : List UInt32) : jpart l 0 = List.replicate 32 0 := by
  simp only [jpart, Nat.not_lt_zero, if_false]
  rfl
theorem jpart_next (l : List UInt32) (n : Nat) (h : n < 32) : (jpart l n).set n (jbyte l n) = jpart l (n + 1) := by
  apply List.ext_getElem
  · simp [jpart]
  · intro j h1 h2
    have hj : j < 32 := by simpa [jpart] using h2
    rw [List.getElem_set]
    simp only [jpart, List.getElem_map, List.getElem_range]
    by_cases e : n = j
    · subst e; rw [if_pos rfl, if_pos (by omega)]
    · rw [if_neg e]
      by_cases h3 : j < n
      · rw [if_pos h3, if_pos (by omega)]
      · rw [if_neg h3, if_neg (by omega)]
theorem bvs_set (l : List UInt8) (i : Nat) (x : UInt8) : (bvs l).set i (bv x) = bvs (l.set i x) := by simp [bvs]
theorem jbyte_val (l : List UInt32) (i k : Nat) (hk : k < 4) : ((l.getD i 0).toNat : Int) / 2 ^ (24 - 8 * k) % 256 = ((jbyte l (4 * i + k)).toNat : Int) := by
  unfold jbyte
  rw [show (4 * i + k) / 4 = i by omega, show (4 * i + k) % 4 = k by omega, w_shr _ _ (by omega)]
  simp
set_option maxRecDepth 100000 in
set_option maxHeartbeats 1000000 in
theorem sjoin_any (s : S8) (w : World) : Calls Tryd.prog 62 #[.agg (wvs s.list).toArray] w fun e w' => e = .returned (.agg (bvs (joinS s)).toArray) ∧ Below w.heap.size w w' := by
  have HJ := Lib.hid (jpart_done s)
  obtain ⟨l, hl⟩ : ∃ l, l = s.list := ⟨_, rfl⟩
  rw [← hl] at HJ ⊢
  have HL : Hid (l.length = 8) := by rw [hl]; rfl
  clear hl
  have hA : ∀ o, Arr ((w.alloc (.cells (wvs l).toArray 104)).alloc o) 104 w.heap.size (wvs l) := fun o => (Arr.new' w _ (wvs l).toArray (wvs l) (by simp)).alloc o
  go_enter Tryd.func62, Tryd.ntmps62
  go_wp2_with ((with_reducible refine load8w (x := .tmp 1) (o := ⟨some 6, _, _, _, _, _⟩) (hA _) HL.out ?_ ?_); exact ⟨rfl, rfl, rfl⟩)
  clear hA
  go_loopw [7] (fun iv wr => ∃ i : Nat, i ≤ 8 ∧ iv = .int .i64 i ∧ Hid (Arr wr 24 (w.heap.size + 1) (bvs (jpart l (4 * i))) ∧ Below w.heap.size w wr)) (fun iv _ => 8 - (intOf iv).toNat)
  case atStart =>
    refine ⟨0, by omega, rfl, ?_, ((Below.refl _ _).alloc (Nat.le_refl _) _).alloc (by simp) _⟩
    rw [Nat.mul_zero, jpart_zero]
    exact Arr.new2 _ _ _ _ _ rfl
  case round =>
    obtain ⟨i, hi, rfl, HM⟩ := hrel
    have hi0 : (0 : Int) ≤ i := by omega
    by_cases hlt : i < 8
    · have hlt1 : (i : Int) < 8 := by omega
      have hix := ix8 l i hlt (by rw [HL.out]; exact hlt)
      obtain ⟨x, hx⟩ : ∃ x, x = l.getD i 0 := ⟨_, rfl⟩
      rw [← hx] at hix
      have HX := Lib.hid hx
      clear hx
      obtain ⟨wo, hwo⟩ : ∃ wo, wo = wr := ⟨_, rfl⟩
      subst hwo
      go_wp2_with fail
      go_loopw [11] (fun kv wr => ∃ k : Nat, k ≤ 4 ∧ kv = .int .i64 k ∧ Hid (Arr wr 24 (w.heap.size + 1) (bvs (jpart l (4 * i + k))) ∧ Below w.heap.size w wr)) (fun kv _ => 4 - (intOf kv).toNat)
      case atStart => exact ⟨0, by omega, rfl, HM.out⟩
      case round =>
        obtain ⟨k, hk, rfl, HK⟩ := hrel
        clear HM
        have hk0 : (0 : Int) ≤ k := by omega
        by_cases hlk : k < 4
        · have hlk1 : (k : Int) < 4 := by omega
          have hf := HK.out.1.free (4 * i + k)
          have hc := (HK.out.1.cell (4 * i + k)).trans (bvs_getElem _ _ (by rw [jpart_length]; omega))
          have hz : (4 * (i : Int) + k) = ((4 * i + k : Nat) : Int) := by omega
          have hn1 : (4 * (i : Int) + k) < 32 := by omega
          have hn0 : (0 : Int) ≤ 4 * (i : Int) + k := by omega
          have hs0 : (0 : Int) ≤ 24 - 8 * (k : Int) := by omega
          have HZ := Lib.hid hz
          clear hz
          unfold bv at hc
          go_wp2_with fail
          go_roundw
          case rel =>
            refine ⟨k + 1, by omega, by go_num, ?_⟩
            have hv := jbyte_val l i k hlk
            rw [← HX.out] at hv
            rw [hv, ← Nat.add_assoc, ← jpart_next l (4 * i + k) (by omega), ← bvs_set]
            exact ⟨HK.out.1.set _ _, HK.out.2.setCell (by show w.heap.size ≤ w.heap.size + 1; omega) _⟩
          case measure => simp [intOf]; omega
        · rw [show (k : Int) = 4 by omega]
          have HK2 : Hid (Arr wr 24 (w.heap.size + 1) (bvs (jpart l (4 * (i + 1)))) ∧ Below w.heap.size w wr) := by
            rw [show 4 * (i + 1) = 4 * i + k by omega]; exact HK.out
          clear HK hlk hk hk0
          go_wp2_with fail
          go_roundw
          case rel => exact ⟨i + 1, by omega, by go_num, HK2.out⟩
          case measure => simp [intOf]; omega
    · rw [show (i : Int) = 8 by omega]
      have HK2 : Hid (Arr wr 24 (w.heap.size + 1) (bvs (joinS s)) ∧ Below w.heap.size w wr) := by
        rw [← HJ.out, show 32 = 4 * i by omega]; exact HM.out
      clear HM hlt hi hi0
      obtain ⟨R, hR⟩ : ∃ R, R = joinS s := ⟨_, rfl⟩
      have HRL : Hid (R.length = 32) := by rw [hR]; exact joinS_length s
      rw [← hR] at HK2
      have HRE := Lib.hid hR
      clear hR
      have hM := HK2.out.1
      have HO : Hid ((bvs R).length = 32) := by show _ = _; rw [bvs_length, HRL.out]
      go_wp2_with (first
        | ((with_reducible refine load32b (x := .tmp 2) (o := ⟨some 27, _, _, _, _, _⟩) hM HRL.out ?_ ?_); exact ⟨rfl, rfl, rfl⟩)
        | ((with_reducible refine store32b (x := .tmp 2) (y := .tmp 27) (l := R) (o := ⟨none, .store _ _ _, _, _, _, _⟩) hM HO.out HRL.out ?_ ?_); exact ⟨rfl, rfl, rfl, rfl⟩))
      exact bodyPost_ret (res32b rfl (hM.row _) HRL.out rfl) rfl ⟨by rw [HRE.out], below_row HK2.out.2 (by omega) _⟩
end Go.Proofs.YtaikdbbakdicgaaDoor
/-
  Small laws: one byte appended, a slice made of zero bytes with room behind it, Spread.
-/
namespace Go.Proofs.YtaikdbbakdicgaaDoor
open Go.ChangeShapes Go.WideShapes Go.ChangeAt Go.RowKit
set_option linter.unusedVariables false

theorem bvo (n : Nat) : bv (UInt8.ofNat n) = .int .u8 ((n : Int) % 256) := by
  unfold bv; congr 1

theorem own_nl {base n : Nat} {w : World} {v : Value} {l : List UInt8} (h : w.ownsRow base 5 1 v n (bvs l)) : w.ownsRow base 5 1 v l.length (bvs l) := by
  have h1 := h.1
  rw [bvs_length] at h1
  obtain rfl : n = l.length := by omega
  exact h
theorem app_one {ops : Array Oper} {rest : List Oper} {o : Oper} {a : Act} {Q : Exit → Act → World → Prop} {w : World} (hgd : o.guard = none) (s x : Operand)
    (ho : o.op = .call { callee := .builtin .append, args := #[s, x], argTypes := #[22, 22] })
    {base n nl : Nat} {v u : Value} {l : List UInt8} {b : UInt8} (hs : a.eval s = v) (hown' : w.ownsRow base 5 1 v nl (bvs l)) (hx : a.eval x = .slice (some ⟨n, 0, none⟩) 1 1) (hc : w.cell? ⟨n, 0, none⟩ = some u) (hu : u = bv b)
    (hlen : l.length + 1 ≤ 140737488355328) (hbase : base ≤ w.heap.size)
    (h : ∀ v' w', Hid (w'.ownsRow base 5 1 v' (l ++ [b]).length (bvs (l ++ [b]))) → w.grownBy w' v.ownBlock → wpList Tryd.prog ops Q rest (a.put o.dst v') w') : wpList Tryd.prog ops Q (o :: rest) a w := by
  have hown : w.ownsRow base 5 1 v l.length (bvs l) := by
    obtain rfl : nl = l.length := by have := hown'.1; rw [bvs_length] at this; omega
    exact hown'
  refine app_bytes (C := n + 1) (m := [b]) hgd s x ho hs hown hx ?_ (by simpa using hlen) hbase h
  refine .inr ⟨n, 0, 1, rfl, by simp, by decide, by omega, fun i hi => ?_⟩
  obtain rfl : i = 0 := by simpa using hi
  rw [Nat.zero_add, hc, hu]; rfl
theorem scell_lit (w : World) (v : Value) (t : TypeId) : (w.alloc (.cells #[v] t)).cell? ⟨w.heap.size, 0, none⟩ = some v := by
  rw [cell_of_row _ _ _ #[v] t (0, 0) (heap_alloc_new w _)]; rfl
theorem wrap64_nat (z : Int) : ∃ n : Nat, n < lim64 ∧ IntKind.u64.wrap z = n := by
  unfold lim64
  refine ⟨(IntKind.u64.wrap z).toNat, ?_, ?_⟩ <;> rw [IntKind.wrap_u64] <;> omega
theorem low8 (z : Int) : ∃ b : UInt8, Value.int .u8 (z % 256) = bv b := by
  refine ⟨UInt8.ofNat (z % 256).toNat, ?_⟩
  rw [bvo]; congr 1; omega


theorem make_rep {ops : Array Oper} {rest : List Oper} {o : Oper} {a : Act} {Q : Exit → Act → World → Prop} {w : World} (hg : o.guard = none) (l c : Operand) (hop : o.op = Op.makeSlice 22 l c)
    {base : Nat} {kl kc : IntKind} {L C : Int} (n m : Nat) (hl : a.eval l = .int kl L) (hc : a.eval c = .int kc C) (hL : L = (n : Int)) (hC : C = (m : Int)) (hnm : n ≤ m) (hm : m ≤ 1000000) (hb : base ≤ w.heap.size)
    (h : ∀ w', w'.ownsRow base 5 1 (.slice (some ⟨w.heap.size, 0, none⟩) n m) n (bvs (List.replicate n 0)) → w.grownBy w' none → wpList Tryd.prog ops Q rest (a.put o.dst (.slice (some ⟨w.heap.size, 0, none⟩) n m)) w') : wpList Tryd.prog ops Q (o :: rest) a w := by
  obtain ⟨i0, hi, hz0, hz1, hz2⟩ := info_parts Tryd.info5
  refine wpList_plain hg fun K hK' => ?_
  have hr := run_make (P := Tryd.prog) w 22 5 i0 (.int .u8 0) Tryd.underlying22 hi hz0 kl kc (n : Int) (m : Int) (by omega) (by omega) (by rw [hz2]; omega) (by omega)
  simp only [Int.toNat_natCast] at hr
  have hw : (w.alloc (.cells (madeCells (Value.int .u8 0).cells (m * i0.size)) 5)).ownsRow base 5 1 (.slice (some ⟨w.heap.size, 0, none⟩) n m) n (bvs (List.replicate n 0)) := by
    refine ⟨by simp [bvs], .inr ⟨w.heap.size, m, _, rfl, hb, heap_alloc_new w _, hnm, by unfold maxLen; omega, by rw [size_madeCells, hz1], ?_⟩⟩
    have e : (madeCells (Value.int .u8 0).cells (m * i0.size)).toList = bvs (List.replicate m 0) := by
      rw [hz1, Nat.mul_one]
      show (madeCells #[Value.int .u8 0] m).toList = _
      rw [toList_madeCells_one]; simp [bvs, bv]
    rw [e, Nat.mul_one]
    simp [bvs, hnm]
  subst hL
  subst hC
  unfold Oper.wp
  simp [execOp, hop, hl, hc, hr, Result.andThen]
  exact hK' _ _ (h _ hw (World.grownBy_alloc w _ none))

end Go.Proofs.YtaikdbbakdicgaaDoor
/-
  sha.Padding and the reference's Padding.
-/
namespace Go.Proofs.YtaikdbbakdicgaaDoor
open Go.ChangeShapes Go.WideShapes Go.ChangeAt Go.RowKit
set_option linter.unusedVariables false

theorem be64_get (x n k : Nat) (h : k < n) : (be64 x n).take (k + 1) = (be64 x n).take k ++ [UInt8.ofNat (x / 2 ^ (8 * (n - 1 - k)))] := by
  induction n generalizing k with
  | zero => omega
  | succ n ih =>
    cases k with
    | zero => simp [be64]
    | succ k =>
      rw [be64, List.take_succ_cons, List.take_succ_cons, ih k (by omega), List.cons_append]
      rw [show n + 1 - 1 - (k + 1) = n - 1 - k by omega]
theorem own_re {w : World} {base n n' : Nat} {v : Value} {l l' : List UInt8} (h : w.ownsRow base 5 1 v n (bvs l)) (hl : l = l') (hn : n' = l'.length) : w.ownsRow base 5 1 v n' (bvs l') := by
  subst hl hn; exact own_nl h
theorem own_form0 {w : World} {base n : Nat} {v : Value} {l : List UInt8} (h : w.ownsRow base 5 1 v n (bvs l)) : ∃ q c, v = .slice q l.length c := by
  obtain ⟨q, c, hv, _⟩ := (Rd.of_own h).form
  exact ⟨q, c, hv⟩

def slen1 : Value → Nat
  | .slice _ n _ => n
  | _ => 0
set_option maxRecDepth 100000 in
set_option maxHeartbeats 1000000 in
theorem pad_any (n : Nat) (hn : n ≤ 1000000000000000) (w : World) : Calls Tryd.prog 61 #[.int .i64 n] w (Owned w (padding n)) := by
  have h0 : (0 : Int) ≤ n := by omega
  have h1 : (n : Int) ≤ 1000000000000000 := by omega
  obtain ⟨q, hq⟩ : ∃ q, q = zeros n := ⟨_, rfl⟩
  have hq2 : (64 - ((n : Int) + 1 + 8) % 64) % 64 = q := by rw [hq]; unfold zeros; omega
  have hq3 : (64 - ((n : Int) + 9) % 64) % 64 = q := by rw [hq]; unfold zeros; omega
  have hq64 : q < 64 := by rw [hq]; unfold zeros; omega
  have HQ := Lib.hid hq
  have q0 : (0 : Int) ≤ q := by omega
  have q1 : (q : Int) < 64 := by omega
  clear hq
  go_enter Tryd.func61, Tryd.ntmps61
  go_wp2_with (at_make; refine make_rep rfl _ _ rfl (base := w.heap.size) (1 + q) (1 + q + 8) rfl rfl ?c1 ?c2 (by omega) (by omega) (Nat.le_refl _) ?_)
  case c1 => omega
  case c2 => omega
  intro w1 o1 g1
  have hb1 : Below w.heap.size w w1 := (Below.refl _ _).grown g1 (Nat.le_refl _) (by simp)
  have hf := World.ownsRow.frozenAt o1 0
  have hc := World.ownsRow.cellAt o1 0 (by omega)
  rw [bvs_getElem _ 0 (by simp; omega)] at hc
  obtain ⟨y, hy⟩ : ∃ y : UInt8, y = (List.replicate (1 + q) (0 : UInt8)).getD 0 0 := ⟨_, rfl⟩
  rw [← hy] at hc
  unfold bv at hc
  have hst := (World.ownsRow.stored o1 0 (bv 128)).1
  have hs0 : (bvs (List.replicate (1 + q) 0)).set 0 (bv 128) = bvs (128 :: List.replicate q 0) := by
    rw [Nat.add_comm, List.replicate_succ]; rfl
  rw [hs0] at hst
  have HO := Lib.hid (And.intro hst (hb1.setCell (p := ⟨w.heap.size, 0, none⟩) (Nat.le_refl _) (bv 128)))
  clear o1 g1 hb1 hst hs0 hy hq2 hq3
  go_wp2_with fail
  have i8 : (8 * (n : Int)) ≤ 8000000000000000 := by omega
  go_loopw [5, 6] (fun v sv wr => ∃ (k : Nat), k ≤ 8 ∧ sv = .int .i64 (56 - 8 * (k : Int)) ∧ Hid (wr.ownsRow w.heap.size 5 1 v (1 + q + k) (bvs (128 :: (List.replicate q 0 ++ (be64 (8 * n) 8).take k))) ∧ Below w.heap.size w wr)) (fun _ sv _ => (intOf sv + 8).toNat)
  case atStart => exact ⟨0, by omega, rfl, by show _ ∧ _; simpa [bv] using HO.out⟩
  case round =>
    obtain ⟨k, hk, rfl, HM⟩ := hrel
    clear hc hf HO
    have hk0 : (0 : Int) ≤ k := by omega
    by_cases hlt : k < 8
    · have hlt1 : (0 : Int) ≤ 56 - 8 * (k : Int) := by omega
      have hlt2 : 8 * (k : Int) ≤ 56 := by omega
      have HO := Lib.hid HM.out.1
      have HBK := Lib.hid HM.out.2
      have hsz := HM.out.2.size
      have hb8 : Value.int .u8 (8 * (n : Int) / 2 ^ (56 - 8 * k) % 256) = bv (UInt8.ofNat (8 * n / 2 ^ (8 * (8 - 1 - k)))) := by
        rw [bvo, show 8 * (8 - 1 - k) = 56 - 8 * k by omega]; simp
      have HB8 := Lib.hid hb8
      have HTK := Lib.hid (be64_get (8 * n) 8 k hlt)
      have HLB := Lib.hid (be64_length (8 * n) 8)
      clear hb8
      go_wp2_with (at_builtin; refine app_one rfl (.tmp 26) (.tmp 32) rfl rfl (HO.out.alloc _) rfl (scell_lit _ _ _) HB8.out ?c1 ?c2 ?_)
      case c1 => have := HLB.out; simp; omega
      case c2 => simp; omega
      intro v1 w2 HO1 hg1
      have hb2 := below_append HBK.out hsz (Nat.le_refl _) HO.out hg1
      have HF := Lib.hid (And.intro HO1.out hb2)
      clear hg1 HO hb2 HO1
      go_wp2_with fail
      go_roundw
      case rel =>
        refine ⟨k + 1, by omega, by rw [show (56 : Int) - 8 * ((k + 1 : Nat) : Int) = 56 - 8 * (k : Int) - 8 by omega], ?_⟩
        refine ⟨own_re HF.out.1 (by rw [HTK.out]) ?_, HF.out.2⟩
        rw [HTK.out]
        have := HLB.out
        simp; omega
      case measure => simp [intOf]; omega
    · rw [show (56 : Int) - 8 * (k : Int) = -8 by omega]
      have HF : Hid (wr.ownsRow w.heap.size 5 1 u5 (padding n).length (bvs (padding n)) ∧ Below w.heap.size w wr) := by
        refine ⟨own_re HM.out.1 ?_ rfl, HM.out.2⟩
        rw [show k = 8 by omega, HQ.out]
        unfold padding
        rw [List.take_of_length_le (by rw [be64_length]; exact Nat.le_refl _)]
      clear HM
      go_wp2_with fail
      go_ret
      exact ⟨_, rfl, HF.out.1, HF.out.2⟩

set_option maxRecDepth 100000 in
set_option maxHeartbeats 1000000 in
theorem rpad_any (n : Nat) (hn : n ≤ 1000000000000000) (w : World) : Calls Tryd.prog 69 #[.int .i64 n] w (Owned w (padding n)) := by
  have h0 : (0 : Int) ≤ n := by omega
  have h1 : (n : Int) ≤ 1000000000000000 := by omega
  obtain ⟨q, hq⟩ : ∃ q, q = zeros n := ⟨_, rfl⟩
  have hq64 : q < 64 := by rw [hq]; unfold zeros; omega
  have HQ := Lib.hid hq
  have HZ : Hid ((n + 9 + q) % 64 = 0) := by show _ = _; rw [hq]; unfold zeros; omega
  have HZ1 : Hid (∀ k, k < q → ¬ (n + 9 + k) % 64 = 0) := by intro k hk; rw [hq] at hk; unfold zeros at hk; omega
  clear hq
  go_enter Tryd.func69, Tryd.ntmps69
  go_wp2_with fail
  go_loopw [3] (fun v wr => ∃ k : Nat, k ≤ q ∧ slen1 v = 1 + k ∧ Hid (wr.ownsRow w.heap.size 5 1 v (1 + k) (bvs (128 :: List.replicate k 0)) ∧ Below w.heap.size w wr)) (fun v _ => 64 - slen1 v)
  case atStart =>
    refine ⟨0, Nat.zero_le _, rfl, ?_, (Below.refl _ _).alloc (Nat.le_refl _) _⟩
    exact World.ownsRow_lit (base := w.heap.size) (e := 5) (size := 1) w #[.int .u8 128] 1 (Nat.le_refl _) (by decide) rfl
  case round =>
    obtain ⟨k, hk, hsl, HM⟩ := hrel
    obtain ⟨qv, c, hv⟩ := own_form0 HM.out.1
    obtain ⟨L, hL⟩ : ∃ L, L = 1 + k := ⟨_, rfl⟩
    have hl1 : (128 :: List.replicate k (0 : UInt8)).length = L := by rw [hL]; simp; omega
    rw [hl1] at hv
    subst hv
    have HL := Lib.hid hL
    have HO := Lib.hid (show wr.ownsRow w.heap.size 5 1 (.slice qv L c) L (bvs (128 :: List.replicate k 0)) by rw [hL] at HM ⊢; exact HM.out.1)
    have HBK := Lib.hid HM.out.2
    have hsz := HM.out.2.size
    have l0 : (0 : Int) ≤ L := by omega
    have l1 : (L : Int) ≤ 65 := by omega
    by_cases hlt : k < q
    · have ht : (((n : Int) + L + 8) % 64 != 0) = true := by rw [bne_iff_ne]; have := HZ1.out k hlt; omega
      have hb8 : Value.int .u8 0 = bv 0 := rfl
      have HB8 := Lib.hid hb8
      clear HM hL hl1 hsl hb8
      go_wp2_with (at_builtin; refine app_one rfl (.tmp 14) (.tmp 15) rfl rfl (HO.out.alloc _) rfl (scell_lit _ _ _) HB8.out ?c1 ?c2 ?_)
      case c1 => simp; omega
      case c2 => simp; omega
      intro v1 w2 HO1 hg1
      have hb2 := below_append HBK.out hsz (Nat.le_refl _) HO.out hg1
      have HF : Hid (w2.ownsRow w.heap.size 5 1 v1 (1 + (k + 1)) (bvs (128 :: List.replicate (k + 1) 0)) ∧ Below w.heap.size w w2) := by
        refine ⟨own_re HO1.out ?_ (by simp; try omega), hb2⟩
        rw [List.replicate_succ']
        try rfl
      obtain ⟨q2, c2, hv2⟩ := own_form0 HF.out.1
      clear hg1 HO hb2 HO1
      subst hv2
      go_wp2_with fail
      go_roundw
      case rel => exact ⟨k + 1, by omega, by simp [slen1]; omega, HF.out⟩
      case measure => have := HL.out; simp [slen1]; omega
    · have ht : (((n : Int) + L + 8) % 64 != 0) = false := by rw [bne_eq_false_iff_eq]; have := HZ.out; omega
      have HF : Hid (wr.ownsRow w.heap.size 5 1 (.slice qv L c) L (bvs (128 :: List.replicate q 0)) ∧ Below w.heap.size w wr) := by rw [show q = k by omega]; exact ⟨HO.out, HBK.out⟩
      have hLq : L = 1 + q := by omega
      have HLQ := Lib.hid hLq
      clear HM hL hl1 hsl HO HBK hk hlt HL hLq
      go_wp2_with fail
      go_loopw [3, 5] (fun v sv wr => ∃ (k : Nat), k ≤ 8 ∧ sv = .int .i64 (7 - (k : Int)) ∧ Hid (wr.ownsRow w.heap.size 5 1 v (1 + q + k) (bvs (128 :: (List.replicate q 0 ++ (be64 (8 * n) 8).take k))) ∧ Below w.heap.size w wr)) (fun _ sv _ => (intOf sv + 1).toNat)
      case atStart => exact ⟨0, by omega, rfl, own_re HF.out.1 (by simp) (by simp; try omega), HF.out.2⟩
      case round =>
        obtain ⟨k, hk, rfl, HM⟩ := hrel
        clear HF
        have hk0 : (0 : Int) ≤ k := by omega
        by_cases hlt : k < 8
        · have hlt1 : (0 : Int) ≤ 7 - (k : Int) := by omega
          have hlt2 : (k : Int) ≤ 7 := by omega
          have HO := Lib.hid HM.out.1
          have HBK := Lib.hid HM.out.2
          have hsz := HM.out.2.size
          have HTK := Lib.hid (be64_get (8 * n) 8 k hlt)
          have HLB := Lib.hid (be64_length (8 * n) 8)
          clear HM
          have hb8 : Value.int .u8 ((n : Int) * 8 / 2 ^ (8 * (7 - k)) % 256) = bv (UInt8.ofNat (8 * n / 2 ^ (8 * (8 - 1 - k)))) := by
            rw [bvo, Int.mul_comm]; simp
          have HB8 := Lib.hid hb8
          clear hb8
          go_wp2_with (at_builtin; refine app_one rfl (.tmp 24) (.tmp 31) rfl rfl (HO.out.alloc _) rfl (scell_lit _ _ _) HB8.out ?c1 ?c2 ?_)
          case c1 => have := HLB.out; simp; omega
          case c2 => simp; omega
          intro v1 w2 HO1 hg1
          have hb2 := below_append HBK.out hsz (Nat.le_refl _) HO.out hg1
          have HF := Lib.hid (And.intro HO1.out hb2)
          clear hg1 HO hb2 HO1
          go_wp2_with fail
          go_roundw
          case rel =>
            refine ⟨k + 1, by omega, by rw [show (7 : Int) - ((k + 1 : Nat) : Int) = 7 - (k : Int) - 1 by omega], ?_⟩
            refine ⟨own_re HF.out.1 (by rw [HTK.out]) ?_, HF.out.2⟩
            rw [HTK.out]
            have := HLB.out
            simp; omega
          case measure => simp [intOf]; omega
        · rw [show (7 : Int) - (k : Int) = -1 by omega]
          have HF : Hid (wr.ownsRow w.heap.size 5 1 u3 (padding n).length (bvs (padding n)) ∧ Below w.heap.size w wr) := by
            refine ⟨own_re HM.out.1 ?_ rfl, HM.out.2⟩
            rw [show k = 8 by omega, HQ.out]
            unfold padding
            rw [List.take_of_length_le (by rw [be64_length]; exact Nat.le_refl _)]
          clear HM
          go_wp2_with fail
          go_ret
          exact ⟨_, rfl, HF.out.1, HF.out.2⟩
end Go.Proofs.YtaikdbbakdicgaaDoor
/-
  Steps of a region that draws its order: a call by its contract, an append to a slice of the call's own.
-/
namespace Go.Proofs.YtaikdbbakdicgaaDoor
open Go.ChangeShapes Go.WideShapes Go.ChangeAt Go.RowKit
set_option linter.unusedVariables false

theorem step_call {P : Program} {ops : Array Oper} {o : Oper} {a : Act} {w : World} {K : Act → World → Prop} {Q : Exit → Act → World → Prop} {E : Prop} {f : FuncId} {args : Array Value} {R : Value → World → Prop}
    (hg : o.guard = none) (hrun : (execOp a.eval o).run P w = .ok (.enter f args) w) (hc : Calls P f args w fun e w' => ∃ v, e = .returned v ∧ R v w')
    (hK : ∀ v w', R v w' → K (a.put o.dst v) w') : if Region.wanted o (yielded ops a.tmps) = true then Oper.wp P o a w K Q else E := by
  have hw : Region.wanted o (yielded ops a.tmps) = true := by simp [Region.wanted, hg]
  rw [if_pos hw]
  unfold Oper.wp
  rw [hrun]
  simp only [Oper.upon]
  refine hc.mono fun e w' ⟨v, he, hr⟩ => ?_
  subst he
  exact hK v w' hr
theorem step_held {ops : Array Oper} {o : Oper} {a : Act} {w : World} {K : Act → World → Prop} {Q : Exit → Act → World → Prop} {E : Prop} (hgd : o.guard = none) (s x : Operand)
    (ho : o.op = .call { callee := .builtin .append, args := #[s, x], argTypes := #[22, 22] })
    {base C : Nat} {v vx : Value} {l m : List UInt8} (hs : a.eval s = v) (hh : Held base w v l) (hx : a.eval x = vx) (hr : Rd C w vx m) (hlen : l.length + m.length ≤ 140737488355328) (hbase : base ≤ w.heap.size)
    (hK : ∀ v' w', Held base w' v' (l ++ m) → Below base w w' → K (a.put o.dst v') w') : if Region.wanted o (yielded ops a.tmps) = true then Oper.wp Tryd.prog o a w K Q else E := by
  have hw : Region.wanted o (yielded ops a.tmps) = true := by simp [Region.wanted, hgd]
  rw [if_pos hw]
  obtain ⟨v', w', hrun, r1, r2⟩ := run_held hh hr hlen hbase o.type
  unfold Oper.wp
  simp [execOp, ho, resolve, invoke, builtin, hs, hx, hrun, Result.andThen]
  exact hK v' w' r1 r2
end Go.Proofs.YtaikdbbakdicgaaDoor
/-
  sha.Sum.
-/
namespace Go.Proofs.YtaikdbbakdicgaaDoor
open Go.ChangeShapes Go.WideShapes Go.ChangeAt Go.RowKit
set_option linter.unusedVariables false

/-- What Sum keeps: t are the bytes so far; block w.heap.size is the result's, the next one the state's. -/
def Sm (w : World) (t : List UInt8) (v : Value) (wr : World) : Prop :=
  Held (w.heap.size + 2) wr v (t.drop (64 * (t.length / 64))) ∧ Arr wr 104 (w.heap.size + 1) (wvs (compN (t.length / 64) st0 t).list) ∧ (∃ z, z.length = 32 ∧ Arr wr 24 w.heap.size z) ∧ Below w.heap.size w wr
theorem cells8 {w : World} {g : Nat} {a b c d e f g' h : UInt32} (hA : Arr w 104 g (wvs (S8.list ⟨a, b, c, d, e, f, g', h⟩))) :
    (w.cell? ⟨g, 0, none⟩ = some (.int .u32 a.toNat) ∧ w.cell? ⟨g, 1, none⟩ = some (.int .u32 b.toNat) ∧ w.cell? ⟨g, 2, none⟩ = some (.int .u32 c.toNat) ∧ w.cell? ⟨g, 3, none⟩ = some (.int .u32 d.toNat) ∧
      w.cell? ⟨g, 4, none⟩ = some (.int .u32 e.toNat) ∧ w.cell? ⟨g, 5, none⟩ = some (.int .u32 f.toNat) ∧ w.cell? ⟨g, 6, none⟩ = some (.int .u32 g'.toNat) ∧ w.cell? ⟨g, 7, none⟩ = some (.int .u32 h.toNat)) ∧
    (w.frozen? ⟨g, 0, none⟩ = false ∧ w.frozen? ⟨g, 1, none⟩ = false ∧ w.frozen? ⟨g, 2, none⟩ = false ∧ w.frozen? ⟨g, 3, none⟩ = false ∧ w.frozen? ⟨g, 4, none⟩ = false ∧ w.frozen? ⟨g, 5, none⟩ = false ∧ w.frozen? ⟨g, 6, none⟩ = false ∧ w.frozen? ⟨g, 7, none⟩ = false) :=
  ⟨⟨hA.cell 0, hA.cell 1, hA.cell 2, hA.cell 3, hA.cell 4, hA.cell 5, hA.cell 6, hA.cell 7⟩, ⟨hA.free 0, hA.free 1, hA.free 2, hA.free 3, hA.free 4, hA.free 5, hA.free 6, hA.free 7⟩⟩
/-- What is left of the digest at the end: the last blocks. -/
theorem digest_last (t : List UInt8) : compN ((t.drop (64 * (t.length / 64)) ++ padding t.length).length / 64) (compN (t.length / 64) st0 t) (t.drop (64 * (t.length / 64)) ++ padding t.length) = compN ((t ++ padding t.length).length / 64) st0 (t ++ padding t.length) := (comp_next st0 t (padding t.length)).1

set_option maxRecDepth 100000 in
set_option maxHeartbeats 4000000 in
theorem sum_any {B : Nat} {w : World} {oa : Option Addr} {cap : Nat} {ls : List (List UInt8)} (hr : RdAll B w oa ls) (hB : B ≤ w.heap.size) (hn : ls.length ≤ 140737488355328) (ht : total ls ≤ 100000000000000) (he : Env w) :
    Calls Tryd.prog 45 #[.slice oa ls.length cap] w fun e w' => e = .returned (.agg (bvs (digest ls.flatten)).toArray) ∧ Below w.heap.size w w' := by
  obtain ⟨L0, hL0⟩ : ∃ L0, L0 = st0.list := ⟨_, rfl⟩
  have HL0 := Lib.hid hL0
  have HLL : Hid (L0.length = 8) := by rw [hL0]; rfl
  obtain ⟨tt, hh0⟩ := he.1
  have hA : ∀ o, Arr (w.alloc o) tt 0 (wvs L0) := fun o => by rw [hL0]; exact hh0.alloc o
  clear hh0
  have HE := Lib.hid he
  clear hL0 he
  go_enter Tryd.func45, Tryd.ntmps45
  go_wp2_with (first
    | ((with_reducible refine load8w (x := .global 0) (o := ⟨some 8, _, _, _, _, _⟩) (hA _) HLL.out ?_ ?_); exact ⟨rfl, rfl, rfl⟩)
    | ((with_reducible refine at8w (w.heap.size + 1) (x := .tmp 3) (y := .tmp 8) (l := L0) (o := ⟨none, .store _ _ _, _, _, _, _⟩) HLL.out ?_ ?_); exact ⟨rfl, rfl, rfl, rfl, rfl, by simp⟩))
  clear hA
  have HST : Hid (∀ cs : Array Value, cs.toList.length = 32 → Sm w [] (.slice none 0 0) ((w.alloc (.cells cs 24)).alloc (.cells (wvs L0).toArray 104))) := by
    intro cs hcs
    have h1 : Below w.heap.size w ((w.alloc (.cells cs 24)).alloc (.cells (wvs L0).toArray 104)) := ((Below.refl _ _).alloc (Nat.le_refl _) _).alloc (by simp) _
    refine ⟨.inl ⟨rfl, rfl⟩, ?_, ⟨_, hcs, (Arr.new w _ cs).alloc _⟩, h1⟩
    have := Arr.new2 w (.cells cs 24) 104 (wvs L0).toArray (wvs L0) (by simp)
    rw [HL0.out] at this ⊢
    exact this
  go_wp2_with fail
  go_loopw [4, 5, 11] (fun v nv iv wr => ∃ (k : Nat) (t : List UInt8), k ≤ ls.length ∧ iv = .int .i64 k ∧ nv = .int .i64 (t.length : Nat) ∧ Hid (t = (ls.take k).flatten) ∧ Hid (Sm w t v wr)) (fun _ _ iv _ => ls.length - (intOf iv).toNat)
  case atStart => exact ⟨0, [], Nat.zero_le _, rfl, rfl, rfl, HST.out _ rfl⟩
  case round =>
    obtain ⟨k, t, hk, rfl, rfl, HT, HM⟩ := hrel
    clear HST
    have htl := total_le ls k
    rw [← HT.out] at htl
    by_cases hlt : k < ls.length
    · obtain ⟨b, off, rfl, hbB, hc⟩ := hr (by omega)
      obtain ⟨u, hu, hru⟩ := hc k hlt
      obtain ⟨ou, cu, rfl, hmu, _⟩ := hru.form
      have hnx := total_le ls (k + 1)
      have hsm := total_take ls k hlt
      obtain ⟨p, hp⟩ : ∃ p, p = ls.getD k [] := ⟨_, rfl⟩
      rw [← hp] at hsm hu hru hmu
      rw [← HT.out] at hsm
      rw [hsm, List.length_append] at hnx
      have HSM := Lib.hid hsm
      have hu' : wr.cell? ⟨b, off + k, none⟩ = some (.slice ou p.length cu) := (HM.out.2.2.2.cell (by show b < w.heap.size; omega)).trans hu
      have HRU := Lib.hid (hru.below HM.out.2.2.2 hB)
      obtain ⟨n, hn2⟩ : ∃ n, n = t.length := ⟨_, rfl⟩
      obtain ⟨m, hm2⟩ : ∃ m, m = p.length := ⟨_, rfl⟩
      have HN := Lib.hid hn2
      have HMM := Lib.hid hm2
      rw [← hn2] at htl hnx ⊢
      rw [← hm2] at hnx hu' hmu
      have hi1 : (k : Int) < ls.length := by omega
      have hi0 : (0 : Int) ≤ k := by omega
      have hn0 : (0 : Int) ≤ n := by omega
      have hn1 : (n : Int) ≤ 100000000000000 := by omega
      have hm0 : (m : Int) ≤ 100000000000000 := by omega
      have hsz : w.heap.size + 2 ≤ wr.heap.size := HM.out.2.1.lt
      have HRU2 : Hid (Rd B wr (.slice ou m cu) p) := by rw [hm2]; exact HRU.out
      have hdl : (t.drop (64 * (t.length / 64))).length + p.length ≤ 140737488355328 := by rw [List.length_drop]; omega
      have HDL := Lib.hid hdl
      clear hc hu hru hsm hp hn2 hm2 HRU hdl
      go_wp2_with (at_builtin; refine app_held rfl (.tmp 15) (.tmp 16) rfl rfl HM.out.1 rfl HRU2.out HDL.out hsz ?_)
      intro v1 w1 h1 b1
      obtain ⟨z, hzl, hzA⟩ := HM.out.2.2.1
      obtain ⟨S, hS⟩ : ∃ S, S = compN (t.length / 64) st0 t := ⟨_, rfl⟩
      have hB1 : Below w.heap.size w w1 := HM.out.2.2.2.trans (b1.mono (by omega))
      have hA1 := HM.out.2.1.below b1 (by omega)
      rw [← hS] at hA1
      have HZ1 := Lib.hid (And.intro hzl (hzA.below b1 (by omega)))
      have HB1 := Lib.hid hB1
      have HSS := Lib.hid hS
      have HAA := Lib.hid hA1
      have HH1 := Lib.hid h1
      obtain ⟨SL, hSL⟩ : ∃ SL, SL = S.list := ⟨_, rfl⟩
      have HSL := Lib.hid hSL
      have HSN : Hid (SL.length = 8) := by rw [hSL]; rfl
      rw [← hSL] at hA1
      have hsz1 : w.heap.size + 2 ≤ w1.heap.size := Nat.le_trans hsz b1.size
      have HNX := Lib.hid (comp_next st0 t p)
      rw [← hS] at HNX
      have HLT : Hid ((t.drop (64 * (t.length / 64)) ++ p).length ≤ 140737488355328) := by show _ ≤ _; rw [List.length_append]; exact HDL.out
      clear hS hSL hB1 hzA hzl h1 b1
      go_wp2_with ((with_reducible refine load8w (x := .tmp 3) (o := ⟨some 23, _, _, _, _, _⟩) hA1 HSN.out ?_ ?_); exact ⟨rfl, rfl, rfl⟩)
      rw [HSL.out]
      refine (blocks_any (s := S) HH1.out hsz1 HLT.out (HE.out.below HB1.out)).mono ?_
      rintro e w2 ⟨v2, rfl, h2, b2⟩
      obtain ⟨R8, hR8⟩ : ∃ R8, R8 = compN ((t.drop (64 * (t.length / 64)) ++ p).length / 64) S (t.drop (64 * (t.length / 64)) ++ p) := ⟨_, rfl⟩
      rw [← hR8]
      obtain ⟨R, hR⟩ : ∃ R, R = R8.list := ⟨_, rfl⟩
      have HR := Lib.hid hR
      have HRN : Hid (R.length = 8) := by rw [hR]; rfl
      rw [← hR]
      have hA2 := HAA.out.later b2
      have HON : Hid ((wvs S.list).length = 8) := rfl
      have HM2 : Hid (Sm w (t ++ p) v2 (w2.setRow (w.heap.size + 1) (wvs R).toArray)) := by
        have hx := HNX.out
        rw [← hR8] at hx
        refine ⟨?_, ?_, ⟨z, HZ1.out.1, (HZ1.out.2.later b2).row_other (by omega) _⟩, below_row (HB1.out.trans (b2.mono HB1.out.size)) (by omega) _⟩
        · rw [hx.2] at h2
          exact h2.row (by omega) _
        · rw [← hx.1, ← hR]
          exact hA2.row _
      clear hR hR8 h2 b2 HAA
      go_wp2_with ((with_reducible refine store8w (x := .tmp 3) (y := .tmp 26) (l := R) (o := ⟨none, .store _ _ _, _, _, _, _⟩) hA2 HON.out HRN.out ?_ ?_); exact ⟨rfl, rfl, rfl, rfl⟩)
      go_roundw
      case rel => exact ⟨k + 1, t ++ p, by omega, by go_num, by rw [List.length_append, ← HN.out, ← HMM.out]; go_num, by rw [HSM.out]; rfl, HM2.out⟩
      case measure => simp [intOf]; omega
    · rw [show (k : Int) = ls.length by omega]
      have HT2 : Hid (t = ls.flatten) := by show _ = _; rw [HT.out, show k = ls.length by omega, List.take_length]
      clear HT hlt hk
      have HDG := Lib.hid (digest_last t)
      obtain ⟨N, hN⟩ : ∃ N, N = t.length := ⟨_, rfl⟩
      have htn : t.length ≤ 100000000000000 := by rw [HT2.out]; exact ht
      have hpl := padding_length t.length
      have hzz : zeros t.length < 64 := by unfold zeros; omega
      have HPW : Hid (Calls Tryd.prog 61 #[.int .i64 N] wr.drew fun e w' => ∃ v, e = .returned v ∧ (w'.ownsRow wr.drew.heap.size 5 1 v (padding N).length (bvs (padding N)) ∧ Below wr.drew.heap.size wr.drew w')) := by
        rw [hN]; exact pad_any t.length (by omega) _
      have hsz : w.heap.size + 2 ≤ wr.heap.size := HM.out.2.1.lt
      obtain ⟨z, hzl, hzA⟩ := HM.out.2.2.1
      obtain ⟨S, hS⟩ : ∃ S, S = compN (t.length / 64) st0 t := ⟨_, rfl⟩
      rw [← hS] at HDG
      have HS0 := Lib.hid (show Arr wr.drew 104 (w.heap.size + 1) (wvs S.list) by rw [hS]; exact HM.out.2.1)
      have HH0 := Lib.hid (show Held (w.heap.size + 2) wr.drew u4 (t.drop (64 * (t.length / 64))) from HM.out.1.later (Below.refl _ _).drew)
      have HB0 := Lib.hid (show Below w.heap.size w wr.drew from HM.out.2.2.2.drew)
      have HZ0 := Lib.hid (show Arr wr.drew 24 w.heap.size z from hzA)
      have HZL := Lib.hid hzl
      obtain ⟨T, hT⟩ : ∃ T, T = t.drop (64 * (t.length / 64)) := ⟨_, rfl⟩
      have HTL : Hid (T.length + (padding N).length ≤ 140737488355328) := by show _ ≤ _; rw [hN, hpl, hT, List.length_drop]; omega
      rw [← hT, ← hN] at HDG
      rw [← hT] at HH0
      obtain ⟨R, hR⟩ : ∃ R, R = compN ((T ++ padding N).length / 64) S (T ++ padding N) := ⟨_, rfl⟩
      rw [← hR] at HDG
      have HRR := Lib.hid hR
      have HDR : Hid (joinS R = digest ls.flatten) := by
        show _ = _
        rw [HDG.out, ← HT2.out, hN]; rfl
      have HBW := Lib.hid (fun (v' : Value) (w' : World) (hh : Held (w.heap.size + 2) w' v' (T ++ padding N)) (hb : Below w.heap.size w w') (hz : w.heap.size + 2 ≤ w'.heap.size) =>
        blocks_any (s := S) hh hz (by rw [List.length_append]; exact HTL.out) (HE.out.below hb))
      rw [← hN]
      have HSZ := Lib.hid hsz
      obtain ⟨a0, b0, c0, d0, e0, f0, g0, h0⟩ := S
      obtain ⟨A0, B0, C0, D0, E0, F0, G0, H0⟩ := R
      obtain ⟨⟨q0, q1, q2, q3, q4, q5, q6, q7⟩, _⟩ := cells8 (w := wr) HS0.out
      clear hS hzA hzl HM hN htn hT hR hpl hzz HDG
      have HJO : Hid (∀ w', Calls Tryd.prog 62 #[.agg #[.int .u32 A0.toNat, .int .u32 B0.toNat, .int .u32 C0.toNat, .int .u32 D0.toNat, .int .u32 E0.toNat, .int .u32 F0.toNat, .int .u32 G0.toNat, .int .u32 H0.toNat]] w' fun e w'' => e = .returned (.agg (bvs (joinS ⟨A0, B0, C0, D0, E0, F0, G0, H0⟩)).toArray) ∧ Below w'.heap.size w' w'') := fun w' => sjoin_any ⟨A0, B0, C0, D0, E0, F0, G0, H0⟩ w'
      go_wp2_with fail
      go_region_law ((first | (refine step_held rfl (.tmp 31) (.tmp 33) rfl rfl HHP.out rfl HRP.out HTL.out HGP.out ?_; intro vA wA hA bA; have HBA := Lib.hid (HBP.out.trans (bA.mono (by omega))); have HSA := Lib.hid (HSP.out.below bA (by omega)); have HZA := Lib.hid (HZP.out.below bA (by omega)); obtain ⟨⟨m0, m1, m2, m3, m4, m5, m6, m7⟩, _⟩ := cells8 HSA.out; have HCA := Lib.hid (HBW.out vA wA hA HBA.out (Nat.le_trans HGP.out bA.size)); clear hA bA) | (go_simp; go_at_call 61; refine HPW.out.mono ?_; rintro e wP ⟨vP, rfl, oP, bP⟩; (try simp only []); have HHP := Lib.hid (HH0.out.later bP); have HRP := Lib.hid (Rd.of_own oP); have HBP := Lib.hid (HB0.out.trans (bP.mono HB0.out.size)); have HSP := Lib.hid (HS0.out.later bP); have HZP := Lib.hid (HZ0.out.later bP); have HGP := Lib.hid (show w.heap.size + 2 ≤ wP.heap.size from Nat.le_trans HSZ.out bP.size); obtain ⟨⟨k0, k1, k2, k3, k4, k5, k6, k7⟩, _⟩ := cells8 HSP.out; clear oP bP) | (go_simp; go_at_call 60; refine HCA.out.mono ?_; rintro e wB ⟨vB, rfl, hB2, bB⟩; (try simp only []); rw [← HRR.out]; rw [show (wvs (S8.list ⟨A0, B0, C0, D0, E0, F0, G0, H0⟩)).toArray = #[.int .u32 A0.toNat, .int .u32 B0.toNat, .int .u32 C0.toNat, .int .u32 D0.toNat, .int .u32 E0.toNat, .int .u32 F0.toNat, .int .u32 G0.toNat, .int .u32 H0.toNat] from rfl]; have HBB := Lib.hid (HBA.out.trans (bB.mono HBA.out.size)); have HSB := Lib.hid (HSA.out.later bB); have HZB := Lib.hid (HZA.out.later bB); obtain ⟨⟨m0, m1, m2, m3, m4, m5, m6, m7⟩, ⟨f0, f1, f2, f3, f4, f5, f6, f7⟩⟩ := cells8 HSB.out; clear hB2 bB)))
      all_goals go_wp2_with fail
      all_goals refine (HJO.out _).mono ?_
      all_goals rintro e wJ ⟨rfl, bJ⟩
      all_goals
        have hZJ : Arr wJ 24 w.heap.size z := by
          refine Arr.later ?_ bJ
          repeat (first | (with_reducible exact HZB.out) | refine Arr.setCell ?_ (by show w.heap.size ≠ w.heap.size + 1; omega) _)
        have hBJ : Below w.heap.size w wJ := by
          refine Below.trans ?_ (Below.mono bJ ?_)
          · repeat (first | (with_reducible exact HBB.out) | refine Below.setCell ?_ (by show w.heap.size ≤ w.heap.size + 1; omega) _)
          · refine Below.size (B := w.heap.size) ?_
            repeat (first | (with_reducible exact HBB.out) | refine Below.setCell ?_ (by show w.heap.size ≤ w.heap.size + 1; omega) _)
        obtain ⟨D, hD⟩ : ∃ D, D = joinS ⟨A0, B0, C0, D0, E0, F0, G0, H0⟩ := ⟨_, rfl⟩
        have HDN : Hid (D.length = 32) := by rw [hD]; exact joinS_length _
        rw [← hD]
        have HDE : Hid (D = digest ls.flatten) := by rw [hD]; exact HDR.out
        clear hD bJ
      all_goals go_wp2_with ((with_reducible refine store32b (x := .tmp 2) (y := .tmp 39) (l := D) (o := ⟨none, .store _ _ _, _, _, _, _⟩) hZJ HZL.out HDN.out ?_ ?_); exact ⟨rfl, rfl, rfl, rfl⟩)
      all_goals exact bodyPost_ret (res32b rfl (hZJ.row _) HDN.out rfl) rfl ⟨by rw [HDE.out], below_row hBJ (Nat.le_refl _) _⟩
end Go.Proofs.YtaikdbbakdicgaaDoor
/-
  What the walks of the law say of digests and of slices in fresh memory.
-/
namespace Go.Proofs.YtaikdbbakdicgaaDoor
open Go.ChangeShapes Go.WideShapes Go.ChangeAt Go.RowKit
set_option linter.unusedVariables false

theorem digest_length (l : List UInt8) : (digest l).length = 32 := joinS_length _
theorem rd_one {B : Nat} {w : World} {t : TypeId} {v0 : Value} {l0 : List UInt8} (h0 : Rd B w v0 l0) (hB : B ≤ w.heap.size) :
    RdAll (w.heap.size + 1) (w.alloc (.cells #[v0] t)) (some ⟨w.heap.size, 0, none⟩) [l0] := by
  intro _
  have hb : Below w.heap.size w (w.alloc (.cells #[v0] t)) := (Below.refl _ _).alloc (Nat.le_refl _) _
  refine ⟨w.heap.size, 0, rfl, by omega, fun i hi => ?_⟩
  obtain rfl : i = 0 := by simpa using hi
  refine ⟨v0, ?_, (h0.below hb hB).mono (by omega)⟩
  rw [cell_of_row _ _ _ #[v0] t (0, 0) (heap_alloc_new w _)]; rfl
theorem rd_mark (w : World) (l : List UInt8) (cs : Array Value) (fr : Nat × Nat) (hcs : cs.toList = bvs l) (n : Nat) (hn : n = l.length) (hm : l.length ≤ maxLen) : Rd (w.heap.size + 1) (w.alloc (.cells cs 5 fr)) (.slice (some ⟨w.heap.size, 0, none⟩) n n) l := by
  subst hn
  refine .inr ⟨_, 0, _, rfl, Nat.le_refl _, hm, by omega, fun i hi => ?_⟩
  rw [Nat.zero_add, cell_of_row _ _ i cs 5 fr (heap_alloc_new w _)]
  rw [← Array.getElem?_toList, hcs]
  exact bvs_getElem l i hi
theorem dcell {w : World} {t : TypeId} {g : Nat} {l : List UInt8} (h : Arr w t g (bvs l)) (i : Nat) (hi : i < l.length) (n : Nat) (hn : (l.getD i 0).toNat = n) : w.cell? ⟨g, i, none⟩ = some (.int .u8 n) := by
  rw [h.cell i, bvs_getElem l i hi]
  unfold bv; rw [hn]

end Go.Proofs.YtaikdbbakdicgaaDoor
