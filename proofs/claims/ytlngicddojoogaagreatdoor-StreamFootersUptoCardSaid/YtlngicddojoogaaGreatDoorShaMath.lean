/-
  SHA-256 as plain functions on 32-bit words; no program is spoken of.
-/
import Derived.Test.YtlngicddojoogaaGreatDoorPlain
namespace Go.Proofs.YtlngicddojoogaaGreatDoor

def wv (x : UInt32) : Value := .int .u32 x.toNat
def wvs (l : List UInt32) : List Value := l.map wv
def rotr (x : UInt32) (n : Nat) : UInt32 := (x >>> UInt32.ofNat n) ||| (x <<< UInt32.ofNat (32 - n))
def sg0 (x : UInt32) : UInt32 := rotr x 7 ^^^ rotr x 18 ^^^ (x >>> 3)
def sg1 (x : UInt32) : UInt32 := rotr x 17 ^^^ rotr x 19 ^^^ (x >>> 10)
def ext (l : List UInt32) : List UInt32 := l ++ [l.getD (l.length - 16) 0 + sg0 (l.getD (l.length - 15) 0) + l.getD (l.length - 7) 0 + sg1 (l.getD (l.length - 2) 0)]
def extN : Nat → List UInt32 → List UInt32
  | 0, l => l
  | n + 1, l => ext (extN n l)
def wpart (b : List UInt8) (j : Nat) : Nat → UInt32
  | 0 => 0
  | k + 1 => wpart b j k * 256 + (b.getD (4 * j + k) 0).toUInt32
def words16 (b : List UInt8) : List UInt32 := (List.range 16).map fun j => wpart b j 4
def sched (b : List UInt8) : List UInt32 := extN 48 (words16 b)
structure S8 where
  a : UInt32
  b : UInt32
  c : UInt32
  d : UInt32
  e : UInt32
  f : UInt32
  g : UInt32
  h : UInt32
def S8.list (s : S8) : List UInt32 := [s.a, s.b, s.c, s.d, s.e, s.f, s.g, s.h]
def rt (s : S8) (k w : UInt32) : UInt32 := s.h + (rotr s.e 6 ^^^ rotr s.e 11 ^^^ rotr s.e 25) + ((s.e &&& s.f) ^^^ (~~~s.e &&& s.g)) + k + w
def ru (s : S8) : UInt32 := (rotr s.a 2 ^^^ rotr s.a 13 ^^^ rotr s.a 22) + ((s.a &&& s.b) ^^^ (s.a &&& s.c) ^^^ (s.b &&& s.c))
def rnd (s : S8) (k w : UInt32) : S8 := ⟨rt s k w + ru s, s.a, s.b, s.c, s.d + rt s k w, s.e, s.f, s.g⟩
def rounds (ks ws : List UInt32) : Nat → S8 → S8
  | 0, s => s
  | i + 1, s => rnd (rounds ks ws i s) (ks.getD i 0) (ws.getD i 0)
def S8.add (s t : S8) : S8 := ⟨s.a + t.a, s.b + t.b, s.c + t.c, s.d + t.d, s.e + t.e, s.f + t.f, s.g + t.g, s.h + t.h⟩
def kk : List UInt32 := [
  0x428a2f98, 0x71374491, 0xb5c0fbcf, 0xe9b5dba5, 0x3956c25b, 0x59f111f1, 0x923f82a4, 0xab1c5ed5,
  0xd807aa98, 0x12835b01, 0x243185be, 0x550c7dc3, 0x72be5d74, 0x80deb1fe, 0x9bdc06a7, 0xc19bf174,
  0xe49b69c1, 0xefbe4786, 0x0fc19dc6, 0x240ca1cc, 0x2de92c6f, 0x4a7484aa, 0x5cb0a9dc, 0x76f988da,
  0x983e5152, 0xa831c66d, 0xb00327c8, 0xbf597fc7, 0xc6e00bf3, 0xd5a79147, 0x06ca6351, 0x14292967,
  0x27b70a85, 0x2e1b2138, 0x4d2c6dfc, 0x53380d13, 0x650a7354, 0x766a0abb, 0x81c2c92e, 0x92722c85,
  0xa2bfe8a1, 0xa81a664b, 0xc24b8b70, 0xc76c51a3, 0xd192e819, 0xd6990624, 0xf40e3585, 0x106aa070,
  0x19a4c116, 0x1e376c08, 0x2748774c, 0x34b0bcb5, 0x391c0cb3, 0x4ed8aa4a, 0x5b9cca4f, 0x682e6ff3,
  0x748f82ee, 0x78a5636f, 0x84c87814, 0x8cc70208, 0x90befffa, 0xa4506ceb, 0xbef9a3f7, 0xc67178f2]
def st0 : S8 := ⟨0x6a09e667, 0xbb67ae85, 0x3c6ef372, 0xa54ff53a, 0x510e527f, 0x9b05688c, 0x1f83d9ab, 0x5be0cd19⟩
def blk (s : S8) (b : List UInt8) : S8 := s.add (rounds kk (sched b) 64 s)
def compN : Nat → S8 → List UInt8 → S8
  | 0, s, _ => s
  | n + 1, s, l => compN n (blk s (l.take 64)) (l.drop 64)
def joinS (s : S8) : List UInt8 := (List.range 32).map fun i => (s.list.getD (i / 4) 0 >>> UInt32.ofNat (24 - 8 * (i % 4))).toUInt8
def zeros (n : Nat) : Nat := (64 - (n + 9) % 64) % 64
def be64 (x : Nat) : Nat → List UInt8
  | 0 => []
  | k + 1 => UInt8.ofNat (x / 2 ^ (8 * k)) :: be64 x k
def padding (n : Nat) : List UInt8 := 128 :: (List.replicate (zeros n) 0 ++ be64 (8 * n) 8)
def digest (l : List UInt8) : List UInt8 := joinS (compN ((l ++ padding l.length).length / 64) st0 (l ++ padding l.length))

theorem wvs_length (l : List UInt32) : (wvs l).length = l.length := by simp [wvs]
theorem ext_length (l : List UInt32) : (ext l).length = l.length + 1 := by simp [ext]
theorem extN_length (n : Nat) (l : List UInt32) : (extN n l).length = l.length + n := by
  induction n with
  | zero => rfl
  | succ n ih => rw [extN, ext_length, ih]; omega
theorem words16_length (b : List UInt8) : (words16 b).length = 16 := by simp [words16]
theorem sched_length (b : List UInt8) : (sched b).length = 64 := by rw [sched, extN_length, words16_length]
theorem be64_length (x k : Nat) : (be64 x k).length = k := by
  induction k with
  | zero => rfl
  | succ k ih => simp [be64, ih]
theorem padding_length (n : Nat) : (padding n).length = zeros n + 9 := by
  simp only [padding, List.length_cons, List.length_append, List.length_replicate, be64_length]
theorem padding_whole (n : Nat) : (n + (padding n).length) % 64 = 0 := by
  rw [padding_length]; unfold zeros; omega
theorem joinS_length (s : S8) : (joinS s).length = 32 := by simp [joinS]

/- Words and their numbers. -/
theorem w_lt (x : UInt32) : x.toNat < 4294967296 := x.toNat_lt
theorem w_add (x y : UInt32) : IntKind.u32.wrap ((x.toNat : Int) + (y.toNat : Int)) = ((x + y).toNat : Int) := by
  rw [IntKind.wrap_u32', UInt32.toNat_add]; omega
theorem w_and (x y : UInt32) : bits .and .u32 (x.toNat : Int) (y.toNat : Int) = ((x &&& y).toNat : Int) := by
  rw [u32_and_nat _ _ (w_lt x) (w_lt y), UInt32.toNat_and]
theorem w_or (x y : UInt32) : bits .or .u32 (x.toNat : Int) (y.toNat : Int) = ((x ||| y).toNat : Int) := by
  rw [u32_or_nat _ _ (w_lt x) (w_lt y), UInt32.toNat_or]
theorem w_xor (x y : UInt32) : bits .xor .u32 (x.toNat : Int) (y.toNat : Int) = ((x ^^^ y).toNat : Int) := by
  rw [u32_xor_nat _ _ (w_lt x) (w_lt y), UInt32.toNat_xor]
theorem w_not (x : UInt32) : 4294967295 - (x.toNat : Int) = ((~~~x).toNat : Int) := by
  have h1 : (~~~x).toNat = 4294967295 - x.toNat := by
    rw [UInt32.toNat_not]; rfl
  have := w_lt x
  rw [h1]; omega
theorem w_shr (x : UInt32) (n : Nat) (h : n < 32) : (x.toNat : Int) / 2 ^ n = ((x >>> UInt32.ofNat n).toNat : Int) := by
  rw [UInt32.toNat_shiftRight, UInt32.toNat_ofNat', Nat.mod_eq_of_lt (b := 2 ^ 32) (by omega), Nat.mod_eq_of_lt h, Nat.shiftRight_eq_div_pow]
  simp
theorem w_shl (x : UInt32) (n : Nat) (h : n < 32) : IntKind.u32.wrap ((x.toNat : Int) * 2 ^ n) = ((x <<< UInt32.ofNat n).toNat : Int) := by
  rw [UInt32.toNat_shiftLeft, UInt32.toNat_ofNat', Nat.mod_eq_of_lt (a := n) (b := 2 ^ 32) (by omega), Nat.mod_eq_of_lt h, Nat.shiftLeft_eq, IntKind.wrap_u32']
  have e : (x.toNat : Int) * 2 ^ n = ((x.toNat * 2 ^ n : Nat) : Int) := by simp
  rw [e]; omega

theorem comp_take (m : Nat) : ∀ (s : S8) (l r : List UInt8), 64 * m ≤ l.length → compN m s (l ++ r) = compN m s l := by
  induction m with
  | zero => intro s l r _; rfl
  | succ m ih =>
    intro s l r h
    have h1 : 64 ≤ l.length := by omega
    rw [compN, compN, List.take_append_of_le_length h1, List.drop_append_of_le_length h1]
    exact ih _ _ _ (by rw [List.length_drop]; omega)
theorem comp_add (m : Nat) : ∀ (n : Nat) (s : S8) (l : List UInt8), compN (m + n) s l = compN n (compN m s l) (l.drop (64 * m)) := by
  induction m with
  | zero => intro n s l; simp [compN]
  | succ m ih =>
    intro n s l
    rw [show m + 1 + n = (m + n) + 1 by omega, compN, ih, compN, List.drop_drop]
    congr 2
    omega
/-- What Sum keeps: the state after whole blocks, and the bytes behind them. -/
theorem comp_next (s : S8) (t p : List UInt8) :
    compN ((t.drop (64 * (t.length / 64)) ++ p).length / 64) (compN (t.length / 64) s t) (t.drop (64 * (t.length / 64)) ++ p) = compN ((t ++ p).length / 64) s (t ++ p) ∧
    (t.drop (64 * (t.length / 64)) ++ p).drop (64 * ((t.drop (64 * (t.length / 64)) ++ p).length / 64)) = (t ++ p).drop (64 * ((t ++ p).length / 64)) := by
  obtain ⟨q, hq⟩ : ∃ q, q = t.length / 64 := ⟨_, rfl⟩
  rw [← hq]
  have hle : 64 * q ≤ t.length := by omega
  have hd : t.drop (64 * q) ++ p = (t ++ p).drop (64 * q) := (List.drop_append_of_le_length hle).symm
  have hn : (t ++ p).length / 64 = q + (t.drop (64 * q) ++ p).length / 64 := by
    rw [List.length_append, List.length_append, List.length_drop]; omega
  refine ⟨?_, ?_⟩
  · rw [hn, comp_add, comp_take q s t p hle, hd]
  · rw [hn, hd, List.drop_drop]
    congr 1
    omega
end Go.Proofs.YtlngicddojoogaaGreatDoor
