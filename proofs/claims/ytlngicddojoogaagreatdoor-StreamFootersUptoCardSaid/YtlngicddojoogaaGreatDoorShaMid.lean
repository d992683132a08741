/-
  The words of a schedule while they are made; plain facts.
-/
import Derived.Test.YtlngicddojoogaaGreatDoorShaMath
namespace Go.Proofs.YtlngicddojoogaaGreatDoor

/-- The 64 words when i bytes are in. -/
def mid (b : List UInt8) (i : Nat) : List UInt32 := (List.range 64).map fun j => if j < 16 then wpart b j (min 4 (i - 4 * j)) else 0
theorem mid_length (b : List UInt8) (i : Nat) : (mid b i).length = 64 := by simp [mid]
theorem mid_get (b : List UInt8) (i j : Nat) (h : j < 64) : (mid b i).getD j 0 = if j < 16 then wpart b j (min 4 (i - 4 * j)) else 0 := by
  simp [mid, List.getD_eq_getElem?_getD, h]
theorem getD_ext {l m : List UInt32} (hl : l.length = m.length) (h : ∀ j, j < l.length → l.getD j 0 = m.getD j 0) : l = m := by
  apply List.ext_getElem hl
  intro j h1 h2
  have := h j h1
  simpa [List.getD_eq_getElem?_getD, List.getElem?_eq_getElem h1, List.getElem?_eq_getElem h2] using this
theorem getD_set (l : List UInt32) (i j : Nat) (x : UInt32) (h : i < l.length) : (l.set i x).getD j 0 = if j = i then x else l.getD j 0 := by
  by_cases e : j = i
  · subst e; simp [List.getD_eq_getElem?_getD, h]
  · rw [if_neg e, List.getD_eq_getElem?_getD, List.getElem?_set_ne (fun h => e h.symm), ← List.getD_eq_getElem?_getD]
theorem mid_next (b : List UInt8) (i : Nat) (h : i < 64) : (mid b i).set (i / 4) ((mid b i).getD (i / 4) 0 * 256 + (b.getD i 0).toUInt32) = mid b (i + 1) := by
  apply getD_ext
  · simp [mid_length]
  · intro j hj
    rw [List.length_set, mid_length] at hj
    rw [getD_set _ _ _ _ (by rw [mid_length]; omega), mid_get b (i + 1) j hj, mid_get b i (i / 4) (by omega), mid_get b i j hj, if_pos (show i / 4 < 16 by omega)]
    by_cases e : j = i / 4
    · subst e
      rw [if_pos rfl, if_pos (show i / 4 < 16 by omega), show min 4 (i + 1 - 4 * (i / 4)) = min 4 (i - 4 * (i / 4)) + 1 by omega, wpart, show 4 * (i / 4) + min 4 (i - 4 * (i / 4)) = i by omega]
    · rw [if_neg e]
      by_cases h16 : j < 16
      · rw [if_pos h16, if_pos h16]
        congr 1
        omega
      · rw [if_neg h16, if_neg h16]
theorem rep_get (n j : Nat) : (List.replicate n (0 : UInt32)).getD j 0 = 0 := by
  rw [List.getD_eq_getElem?_getD, List.getElem?_replicate]
  split <;> rfl
theorem mid_zero (b : List UInt8) : mid b 0 = List.replicate 64 0 := by
  apply getD_ext
  · simp [mid_length]
  · intro j hj
    rw [mid_length] at hj
    rw [mid_get b 0 j hj, rep_get]
    simp [wpart]
/-- The 64 words when i of them are there. -/
def ext64 (b : List UInt8) (i : Nat) : List UInt32 := extN (i - 16) (words16 b) ++ List.replicate (64 - i) 0
theorem ext64_length (b : List UInt8) (i : Nat) (h : 16 ≤ i) (h2 : i ≤ 64) : (ext64 b i).length = 64 := by
  rw [ext64, List.length_append, extN_length, words16_length, List.length_replicate]; omega
theorem mid_done (b : List UInt8) : mid b 64 = ext64 b 16 := by
  apply getD_ext
  · rw [mid_length, ext64_length b 16 (by omega) (by omega)]
  · intro j hj
    rw [mid_length] at hj
    rw [mid_get b 64 j hj, ext64, List.getD_eq_getElem?_getD, List.getElem?_append, extN_length, words16_length]
    by_cases h16 : j < 16
    · rw [if_pos h16, if_pos (by omega), show min 4 (64 - 4 * j) = 4 by omega]
      simp [extN, words16, h16]
    · rw [if_neg h16, if_neg (by omega), ← List.getD_eq_getElem?_getD, rep_get]
theorem ext64_done (b : List UInt8) : ext64 b 64 = sched b := by simp [ext64, sched]
theorem ext64_get (b : List UInt8) (i j : Nat) (h : 16 ≤ i) (hj : j < i) : (ext64 b i).getD j 0 = (extN (i - 16) (words16 b)).getD j 0 := by
  rw [ext64, List.getD_eq_getElem?_getD, List.getElem?_append_left (by rw [extN_length, words16_length]; omega), ← List.getD_eq_getElem?_getD]
theorem ext64_next (b : List UInt8) (i : Nat) (h : 16 ≤ i) (h2 : i < 64) :
    (ext64 b i).set i ((ext64 b i).getD (i - 16) 0 + sg0 ((ext64 b i).getD (i - 15) 0) + (ext64 b i).getD (i - 7) 0 + sg1 ((ext64 b i).getD (i - 2) 0)) = ext64 b (i + 1) := by
  rw [ext64_get b i (i - 16) h (by omega), ext64_get b i (i - 15) h (by omega), ext64_get b i (i - 7) h (by omega), ext64_get b i (i - 2) h (by omega)]
  have hl : (extN (i - 16) (words16 b)).length = i := by rw [extN_length, words16_length]; omega
  unfold ext64
  rw [show i + 1 - 16 = (i - 16) + 1 by omega, extN, ext, hl, List.set_append_right _ _ (by rw [hl]; exact Nat.le_refl _), hl, Nat.sub_self, show 64 - i = (64 - (i + 1)) + 1 by omega, List.replicate_succ, List.set_cons_zero, List.append_assoc]
  rfl
theorem u32_of_u8 (x : UInt8) : (x.toNat : Int) = ((x.toUInt32).toNat : Int) := by simp
theorem shl8_or (c : UInt32) (x : UInt8) : bits .or .u32 (IntKind.u32.wrap ((c.toNat : Int) * 2 ^ 8)) (x.toNat : Int) = ((c * 256 + x.toUInt32).toNat : Int) := by
  have hx : x.toNat < 256 := x.toNat_lt
  have e : IntKind.u32.wrap ((c.toNat : Int) * 2 ^ 8) = ((c.toNat * 256 % 4294967296 : Nat) : Int) := by rw [IntKind.wrap_u32']; omega
  rw [e, u32_or_nat _ _ (Nat.mod_lt _ (by decide)) (by omega), nat_join 8 _ _ (by omega) (by omega)]
  congr 1
  rw [UInt32.toNat_add, UInt32.toNat_mul, UInt8.toNat_toUInt32]
  simp
  omega
theorem shl8_or' (c : UInt32) (x : UInt8) : bits .or .u32 ((c.toNat : Int) * 256 % 4294967296) ((x.toNat : Int) % 4294967296) = ((c * 256 + x.toUInt32).toNat : Int) := by
  have hx : x.toNat < 256 := x.toNat_lt
  have h := shl8_or c x
  rw [IntKind.wrap_u32'] at h
  rw [← h]
  congr 1
  omega
theorem mul256_add (c : UInt32) (x : UInt8) : IntKind.u32.wrap (IntKind.u32.wrap ((c.toNat : Int) * 256) + (x.toNat : Int)) = ((c * 256 + x.toUInt32).toNat : Int) := by
  have hx : x.toNat < 256 := x.toNat_lt
  rw [IntKind.wrap_u32', IntKind.wrap_u32', UInt32.toNat_add, UInt32.toNat_mul, UInt8.toNat_toUInt32]
  simp
theorem sg0_val (x : UInt32) : bits .xor .u32 (bits .xor .u32 ((rotr x 7).toNat : Int) ((rotr x 18).toNat : Int)) ((x.toNat : Int) / 2 ^ 3) = ((sg0 x).toNat : Int) := by
  rw [w_shr x 3 (by omega), w_xor, w_xor]; rfl
theorem sg1_val (x : UInt32) : bits .xor .u32 (bits .xor .u32 ((rotr x 17).toNat : Int) ((rotr x 19).toNat : Int)) ((x.toNat : Int) / 2 ^ 10) = ((sg1 x).toNat : Int) := by
  rw [w_shr x 10 (by omega), w_xor, w_xor]; rfl
theorem sum2 (a b : UInt32) : ((a.toNat : Int) + b.toNat) % 4294967296 = ((a + b).toNat : Int) := by rw [UInt32.toNat_add]; omega
theorem sum4 (a b c d : UInt32) : ((a.toNat : Int) + b.toNat + c.toNat + d.toNat) % 4294967296 = ((a + b + c + d).toNat : Int) := by
  rw [UInt32.toNat_add, UInt32.toNat_add, UInt32.toNat_add]; omega
theorem sum5 (a b c d e : UInt32) : ((a.toNat : Int) + b.toNat + c.toNat + d.toNat + e.toNat) % 4294967296 = ((a + b + c + d + e).toNat : Int) := by
  rw [UInt32.toNat_add, UInt32.toNat_add, UInt32.toNat_add, UInt32.toNat_add]; omega
/- The operations on words under names that nothing opens. -/
def Wp (x y : UInt32) : UInt32 := x + y
def Wx (x y : UInt32) : UInt32 := x ^^^ y
def Wa (x y : UInt32) : UInt32 := x &&& y
def Wn (x : UInt32) : UInt32 := ~~~x
theorem Wp_wrap (x y : UInt32) : IntKind.u32.wrap ((x.toNat : Int) + (y.toNat : Int)) = ((Wp x y).toNat : Int) := w_add x y
theorem Wp_mod (x y : UInt32) : ((x.toNat : Int) + (y.toNat : Int)) % 4294967296 = ((Wp x y).toNat : Int) := sum2 x y
theorem Wx_val (x y : UInt32) : bits .xor .u32 (x.toNat : Int) (y.toNat : Int) = ((Wx x y).toNat : Int) := w_xor x y
theorem Wa_val (x y : UInt32) : bits .and .u32 (x.toNat : Int) (y.toNat : Int) = ((Wa x y).toNat : Int) := w_and x y
theorem Wn_val' (x : UInt32) : bits .xor .u32 4294967295 (x.toNat : Int) = ((Wn x).toNat : Int) := by
  have h : (4294967295 : UInt32) ^^^ x = ~~~x := by
    rw [show (4294967295 : UInt32) = -1 by decide]; exact UInt32.neg_one_xor
  unfold Wn
  rw [← h, ← w_xor]; rfl
theorem Wn_val (x : UInt32) : bits .xor .u32 (if IntKind.u32.signed = true then -1 else IntKind.u32.max) (x.toNat : Int) = ((Wn x).toNat : Int) := Wn_val' x
def part8 (s v : List UInt32) (i : Nat) : List UInt32 := (List.range 8).map fun j => if j < i then s.getD j 0 + v.getD j 0 else s.getD j 0
theorem part8_length (s v : List UInt32) (i : Nat) : (part8 s v i).length = 8 := by simp [part8]
theorem part8_get (s v : List UInt32) (i j : Nat) (h : j < 8) : (part8 s v i).getD j 0 = if j < i then s.getD j 0 + v.getD j 0 else s.getD j 0 := by
  simp [part8, List.getD_eq_getElem?_getD, h]
theorem part8_zero (s v : List UInt32) (hs : s.length = 8) : part8 s v 0 = s := by
  apply getD_ext
  · rw [part8_length, hs]
  · intro j hj
    rw [part8_length] at hj
    rw [part8_get s v 0 j hj, if_neg (by omega)]
theorem part8_next (s v : List UInt32) (i : Nat) (h : i < 8) : (part8 s v i).set i (Wp ((part8 s v i).getD i 0) (v.getD i 0)) = part8 s v (i + 1) := by
  apply getD_ext
  · simp [part8_length]
  · intro j hj
    rw [List.length_set, part8_length] at hj
    rw [getD_set _ _ _ _ (by rw [part8_length]; exact h), part8_get s v (i + 1) j hj, part8_get s v i j hj, part8_get s v i i h, if_neg (Nat.lt_irrefl i)]
    by_cases e : j = i
    · subst e; rw [if_pos rfl, if_pos (by omega)]; rfl
    · rw [if_neg e]
      by_cases h2 : j < i
      · rw [if_pos h2, if_pos (by omega)]
      · rw [if_neg h2, if_neg (by omega)]
theorem part8_done (a b : S8) : part8 a.list b.list 8 = (a.add b).list := rfl
theorem wvs_set (l : List UInt32) (i : Nat) (x : UInt32) : (wvs l).set i (wv x) = wvs (l.set i x) := by simp [wvs]
theorem wvs_get (l : List UInt32) (i : Nat) (h : i < l.length) : (wvs l)[i]? = some (.int .u32 (l.getD i 0).toNat) := by
  simp [wvs, wv, List.getElem?_eq_getElem h]
theorem wvs_one (l : List UInt32) : ∀ v ∈ wvs l, v.oneCell' = true := by
  intro v hv; simp only [wvs, List.mem_map] at hv; obtain ⟨b, _, rfl⟩ := hv; rfl
end Go.Proofs.YtlngicddojoogaaGreatDoor
