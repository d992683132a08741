/-
  crc.Open and the reference's Sealed.
-/
import Derived.Test.YtikokimnhanloaaDoorCrcSeal
namespace Go.Proofs.YtikokimnhanloaaDoor
open Go.ChangeShapes Go.WideShapes Go.ChangeAt Go.RowKit
set_option linter.unusedVariables false

def le (x0 x1 x2 x3 : UInt8) : Nat := x0.toNat + 256 * x1.toNat + 65536 * x2.toNat + 16777216 * x3.toNat

theorem Rd.tail4 {B : Nat} {w : World} {v : Value} {a : List UInt8} {x0 x1 x2 x3 : UInt8} (h : Rd B w v (a ++ [x0, x1, x2, x3])) :
    ∃ b off cap, v = .slice (some ⟨b, off, none⟩) (a.length + 4) cap ∧ a.length + 4 ≤ cap ∧ cap ≤ maxLen ∧ b < B ∧ w.cell? ⟨b, off + a.length, none⟩ = some (.int .u8 x0.toNat) ∧ w.cell? ⟨b, off + a.length + 1, none⟩ = some (.int .u8 x1.toNat) ∧
      w.cell? ⟨b, off + a.length + 2, none⟩ = some (.int .u8 x2.toNat) ∧ w.cell? ⟨b, off + a.length + 3, none⟩ = some (.int .u8 x3.toNat) := by
  rcases h with ⟨oa, _, h⟩ | ⟨b, off, cap, rfl, h1, h2, h3, hc⟩
  · simp at h
  · have hl : (a ++ [x0, x1, x2, x3]).length = a.length + 4 := by simp
    rw [hl] at h1 hc ⊢
    refine ⟨b, off, cap, rfl, h1, h2, h3, ?_, ?_, ?_, ?_⟩
    · rw [hc a.length (by omega)]; simp [bv]
    · rw [Nat.add_assoc, hc (a.length + 1) (by omega)]; simp [bv]
    · rw [Nat.add_assoc, hc (a.length + 2) (by omega)]; simp [bv]
    · rw [Nat.add_assoc, hc (a.length + 3) (by omega)]; simp [bv]

theorem or_join {x y : Nat} (i : Nat) (hx : x < 2 ^ i) (hx32 : x < 4294967296) (hy : y % 2 ^ i = 0) (hy32 : y < 4294967296) : bits .or .u32 (x : Int) (y : Int) = ((x + y : Nat) : Int) := by
  rw [u32_or_nat _ _ hx32 hy32, Nat.or_comm, nat_join i y x hy hx, Nat.add_comm]
theorem or4 (x0 x1 x2 x3 : UInt8) : bits BinOp.or IntKind.u32 (bits BinOp.or IntKind.u32 (bits BinOp.or IntKind.u32 (bits BinOp.or IntKind.u32 0 ((x0.toNat : Int) % 4294967296)) ((x1.toNat : Int) % 4294967296 * 256 % 4294967296))
    ((x2.toNat : Int) % 4294967296 * 65536 % 4294967296)) ((x3.toNat : Int) % 4294967296 * 16777216 % 4294967296) = ((le x0 x1 x2 x3 : Nat) : Int) := by
  have l0 := x0.toNat_lt
  have l1 := x1.toNat_lt
  have l2 := x2.toNat_lt
  have l3 := x3.toNat_lt
  have e0 : (x0.toNat : Int) % 4294967296 = ((x0.toNat : Nat) : Int) := by omega
  have e1 : (x1.toNat : Int) % 4294967296 * 256 % 4294967296 = ((256 * x1.toNat : Nat) : Int) := by omega
  have e2 : (x2.toNat : Int) % 4294967296 * 65536 % 4294967296 = ((65536 * x2.toNat : Nat) : Int) := by omega
  have e3 : (x3.toNat : Int) % 4294967296 * 16777216 % 4294967296 = ((16777216 * x3.toNat : Nat) : Int) := by omega
  have ez : (0 : Int) = ((0 : Nat) : Int) := rfl
  rw [e0, e1, e2, e3, ez, or_join 0 (by decide) (by decide) (Nat.mod_one _) (by omega), or_join 8 (by omega) (by omega) (by omega) (by omega), or_join 16 (by omega) (by omega) (by omega) (by omega), or_join 24 (by omega) (by omega) (by omega) (by omega)]
  unfold le
  rw [Nat.zero_add]

set_option maxRecDepth 100000 in
theorem open_yes {B : Nat} {w : World} {vb : Value} {a : List UInt8} {x0 x1 x2 x3 : UInt8} (hr : Rd B w vb (a ++ [x0, x1, x2, x3])) (hB : B ≤ w.heap.size) (hl : a.length ≤ 30000000000000) (hs : le x0 x1 x2 x3 = crc a) :
    Calls Tryd.prog 31 #[vb] w fun e w' => ∃ v, e = .returned (.tuple #[v, .bool true]) ∧ w'.ownsRow w.heap.size 5 1 v a.length (bvs a) ∧ Below w.heap.size w w' := by
  obtain ⟨b, off, cap, rfl, h1, h2, h3, c0, c1, c2, c3⟩ := hr.tail4
  have hra : Rd B w (.slice (some ⟨b, off, none⟩) a.length cap) a := by
    have := hr.take (k := a.length) (by simp)
    rw [List.take_left'] at this
    · exact this
    · rfl
  have HR := Lib.hid hra
  have HO := Lib.hid (or4 x0 x1 x2 x3)
  have HS := Lib.hid hs
  have hcap : ((a.length : Int)) < cap := by omega
  have hcap2 : ((a.length : Int)) + 4 ≤ cap := by omega
  clear hr hra hs
  go_enter Tryd.func31, Tryd.ntmps31
  go_wp2_with fail
  refine wp_loop_rounds 5 ?_
  rw [rounds_succ]
  go_wp2_with fail
  rw [rounds_succ]
  go_wp2_with fail
  rw [rounds_succ]
  go_wp2_with fail
  rw [rounds_succ]
  go_wp2_with fail
  rw [rounds_succ]
  go_wp2_with fail
  rw [HO.out]
  refine (csum_one HR.out hB).mono ?_
  rintro e w1 ⟨rfl, rfl⟩
  have hne : (((le x0 x1 x2 x3 : Nat) : Int) != ((crc a : Nat) : Int)) = false := by rw [HS.out]; simp
  have hb0 : Below w.heap.size w (w.alloc (.cells #[.slice (some ⟨b, off, none⟩) a.length cap] 22)) := (Below.refl w.heap.size w).alloc (Nat.le_refl _) _
  obtain ⟨w0, hw0⟩ : ∃ w0, w0 = w.alloc (.cells #[.slice (some ⟨b, off, none⟩) a.length cap] 22) := ⟨_, rfl⟩
  rw [← hw0] at hb0 ⊢
  clear hw0 c0 c1 c2 c3
  have hbz := hb0.size
  have hb1 : Below w.heap.size w (w0.alloc (.cells #[] 5)) := hb0.alloc hb0.size _
  have hr1 := HR.out.below hb1 hB
  go_wp2_with (at_builtin; refine app_bytes rfl (.tmp 37) (.tmp 40) rfl rfl (own_empty w0 hb0.size) rfl hr1 ?c1 ?c2 ?_)
  case c1 => simp; omega
  case c2 => simp; omega
  intro v1 W1 hown1 hg1
  have hb2 := below_grown hb1 hb1.size (Nat.le_refl _) (own_empty w0 hb0.size) hg1
  have HO1 := Lib.hid (own_nl hown1)
  clear hown1 hg1
  go_wp2_with fail
  go_ret2
  exact ⟨v1, rfl, HO1.out, hb2⟩

set_option maxRecDepth 100000 in
theorem open_no {B : Nat} {w : World} {vb : Value} {a : List UInt8} {x0 x1 x2 x3 : UInt8} (hr : Rd B w vb (a ++ [x0, x1, x2, x3])) (hB : B ≤ w.heap.size) (hl : a.length ≤ 30000000000000) (hs : le x0 x1 x2 x3 ≠ crc a) :
    Calls Tryd.prog 31 #[vb] w fun e w' => e = .returned (.tuple #[.slice none 0 0, .bool false]) ∧ Below w.heap.size w w' := by
  obtain ⟨b, off, cap, rfl, h1, h2, h3, c0, c1, c2, c3⟩ := hr.tail4
  have hra : Rd B w (.slice (some ⟨b, off, none⟩) a.length cap) a := by
    have := hr.take (k := a.length) (by simp)
    rw [List.take_left'] at this
    · exact this
    · rfl
  have HR := Lib.hid hra
  have HO := Lib.hid (or4 x0 x1 x2 x3)
  have HS := Lib.hid hs
  have hcap : ((a.length : Int)) < cap := by omega
  have hcap2 : ((a.length : Int)) + 4 ≤ cap := by omega
  clear hr hra hs
  go_enter Tryd.func31, Tryd.ntmps31
  go_wp2_with fail
  refine wp_loop_rounds 5 ?_
  rw [rounds_succ]
  go_wp2_with fail
  rw [rounds_succ]
  go_wp2_with fail
  rw [rounds_succ]
  go_wp2_with fail
  rw [rounds_succ]
  go_wp2_with fail
  rw [rounds_succ]
  go_wp2_with fail
  rw [HO.out]
  refine (csum_one HR.out hB).mono ?_
  rintro e w1 ⟨rfl, rfl⟩
  have hne : (((le x0 x1 x2 x3 : Nat) : Int) != ((crc a : Nat) : Int)) = true := by rw [bne_iff_ne]; have := HS.out; omega
  go_wp2_with fail
  go_ret2
  exact ⟨rfl, (Below.refl w.heap.size w).alloc (Nat.le_refl _) _⟩


theorem ret_bool {a b : Bool} (h : a = b) : Ending.returned (.bool a) = .returned (.bool b) := by rw [h]

set_option maxRecDepth 100000 in
theorem sealed_short {B : Nat} {w : World} {vb : Value} {l : List UInt8} (hr : Rd B w vb l) (hl : l.length < 4) :
    Calls Tryd.prog 33 #[vb] w fun e w' => e = .returned (.bool false) ∧ w = w' := by
  obtain ⟨ov, cv, rfl, hmx, hcell⟩ := hr.form
  have hl' : (l.length : Int) < 4 := by omega
  go_enter Tryd.func33, Tryd.ntmps33
  go_wp2_with fail
  go_ret
  exact ⟨rfl, rfl⟩

set_option maxRecDepth 100000 in
theorem sealed_long {B : Nat} {w : World} {vb : Value} {a : List UInt8} {x0 x1 x2 x3 : UInt8} (hr : Rd B w vb (a ++ [x0, x1, x2, x3])) (hl : a.length ≤ 30000000000000) :
    Calls Tryd.prog 33 #[vb] w fun e w' => e = .returned (.bool (decide (le x0 x1 x2 x3 = crc a))) ∧ w = w' := by
  obtain ⟨b, off, cap, rfl, h1, h2, h3, c0, c1, c2, c3⟩ := hr.tail4
  have hra : Rd B w (.slice (some ⟨b, off, none⟩) a.length cap) a := by
    have := hr.take (k := a.length) (by simp)
    rw [List.take_left'] at this
    · exact this
    · rfl
  have HR := Lib.hid hra
  have hcap : ((a.length : Int)) < cap := by omega
  have hcap2 : ((a.length : Int)) + 4 ≤ cap := by omega
  rw [Nat.add_assoc] at c1 c2 c3
  clear hr hra
  go_enter Tryd.func33, Tryd.ntmps33
  go_wp2_with fail
  refine (fast_any HR.out).mono ?_
  rintro e w1 ⟨rfl, rfl⟩
  obtain ⟨c, hc⟩ : ∃ c, c = crc a := ⟨_, rfl⟩
  have hcl : c < lim32 := by rw [hc]; exact crc_lt a
  rw [← hc]
  have HC := Lib.hid hc
  have hc0 : (0 : Int) ≤ c := by omega
  clear hc
  go_wp2_with fail
  all_goals
    have l0 := x0.toNat_lt
    have l1 := x1.toNat_lt
    have l2 := x2.toNat_lt
    have l3 := x3.toNat_lt
    unfold lim32 at hcl
    go_ret
    refine ⟨ret_bool ?_, rfl⟩
    rw [← HC.out, Bool.eq_iff_iff, decide_eq_true_eq]
    unfold le
    simp only [beq_iff_eq, Bool.false_eq_true, false_iff] at *
    omega
end Go.Proofs.YtikokimnhanloaaDoor
