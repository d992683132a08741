/-
  Allowed types: their order, name.Compare with its exact world, the reference's Compare; allowed types as the elements of a row.
-/
import Derived.Test.YtdnmgemjhpkekaaGreatCnC
import Derived.Test.YtdnmgemjhpkekaaGreatCnE
import Derived.Test.YtdnmgemjhpkekaaGreatOrd
import Derived.StillTailTactics
namespace Go.Proofs.YtdnmgemjhpkekaaGreat
open Go.ChangeShapes Go.WideShapes Go.ChangeAt Go.RowKit Go.Lib Go.Sort
set_option linter.unusedVariables false

/-- Block b holds two strings. -/
def Pair (w : World) (b : Nat) (t : TypeId) (x y : ByteArray) : Prop := w.heap[b]? = some (.cells #[.string x, .string y] t (0, 0))
theorem Pair.new (w : World) (t : TypeId) (x y : ByteArray) : Pair (w.alloc (.cells #[.string x, .string y] t)) w.heap.size t x y := heap_alloc_new w _
theorem Pair.below {w w' : World} {b : Nat} {t : TypeId} {x y : ByteArray} (h : Pair w b t x y) (hb : Below w.heap.size w w') : Pair w' b t x y := (hb.block b (Array.getElem?_eq_some_iff.1 h).1).trans h
theorem Pair.alloc {w : World} {b : Nat} {t : TypeId} {x y : ByteArray} (h : Pair w b t x y) (o : Obj) : Pair (w.alloc o) b t x y := h.below ((Below.refl _ _).alloc (Nat.le_refl _) o)
theorem Pair.c0 {w : World} {b : Nat} {t : TypeId} {x y : ByteArray} (h : Pair w b t x y) : w.cell? ⟨b, 0, none⟩ = some (.string x) := cell_of_row _ _ 0 _ _ _ h
theorem Pair.c1 {w : World} {b : Nat} {t : TypeId} {x y : ByteArray} (h : Pair w b t x y) : w.cell? ⟨b, 1, none⟩ = some (.string y) := cell_of_row _ _ 1 _ _ _ h
theorem Pair.at {w : World} {b c : Nat} {t : TypeId} {x y : ByteArray} (h : Pair w b t x y) (e : b = c) : Pair w c t x y := e ▸ h
theorem below_alloc {W w : World} (h : Below W.heap.size W w) (o : Obj) : Below W.heap.size W (w.alloc o) := h.alloc h.size o
set_option maxRecDepth 100000 in
set_option maxHeartbeats 1000000 in
theorem order_big (a b : ByteArray) (ha : a.size ≤ 140737488355328) (hb : b.size ≤ 140737488355328) (w : World) : Calls Tryz.prog 20 #[.string a, .string b] w fun e w' => e = .returned (.int .i64 (ord a b)) ∧ Below w.heap.size w w' := by
  have ha' : (a.size : Int) ≤ 140737488355328 := by omega
  have hb' : (b.size : Int) ≤ 140737488355328 := by omega
  go_enter Tryz.func20, Tryz.ntmps20
  go_wp2_with fail
  go_loopw [5] (fun iv wr => ∃ k : Nat, k ≤ a.size ∧ k ≤ b.size ∧ iv = .int .i64 k ∧ Hid (Same a b k) ∧ Hid (Below w.heap.size w wr)) (fun iv _ => a.size - (intOf iv).toNat)
  case atStart => exact ⟨0, Nat.zero_le _, Nat.zero_le _, rfl, fun j _ _ hj => by omega, Below.refl _ _⟩
  case round =>
    obtain ⟨k, hk, hkb, rfl, HP, HB⟩ := hrel
    have HEND := Lib.hid (fun h => ord_end HP.out hk hkb h)
    have HLT := Lib.hid (fun h1 h2 h3 => ord_lt HP.out (k := k) h1 h2 h3)
    have HGT := Lib.hid (fun h1 h2 h3 => ord_gt HP.out (k := k) h1 h2 h3)
    have hk0 : (0 : Int) ≤ k := by omega
    by_cases hl1 : k < a.size
    · by_cases hl2 : k < b.size
      · have g1 : (k : Int) < a.size := by omega
        have g2 : (k : Int) < b.size := by omega
        have NX : Hid (a[k] = b[k] → Same a b (k + 1)) := fun h j x y hlt => by
          by_cases e : j = k
          · subst e; exact h
          · exact HP.out j x y (by omega)
        clear HEND
        by_cases c1 : a[k].toNat < b[k].toNat
        · have HR : Hid (ord a b = -1) := HLT.out hl1 hl2 (by rw [UInt8.lt_iff_toNat_lt]; exact c1)
          have d1 : (a[k].toNat : Int) < b[k].toNat := by omega
          clear HLT HGT NX HP
          go_wp2_with fail
          go_region
          go_wp2_with fail
          go_ret
          exact ⟨by rw [HR.out]; rfl, below_dr HB.out _⟩
        · by_cases c2 : b[k].toNat < a[k].toNat
          · have HR : Hid (ord a b = 1) := HGT.out hl1 hl2 (by rw [UInt8.lt_iff_toNat_lt]; exact c2)
            have d1 : ¬ (a[k].toNat : Int) < b[k].toNat := by omega
            have d2 : (b[k].toNat : Int) < a[k].toNat := by omega
            clear HLT HGT NX HP
            go_wp2_with fail
            go_region
            go_wp2_with fail
            go_region
            go_wp2_with fail
            go_ret
            exact ⟨by rw [HR.out]; rfl, below_dr (below_dr HB.out 1) 1⟩
          · have HX := Lib.hid (NX.out (UInt8.toNat_inj.1 (by omega)))
            have d1 : ¬ (a[k].toNat : Int) < b[k].toNat := by omega
            have d2 : ¬ (b[k].toNat : Int) < a[k].toNat := by omega
            clear HLT HGT NX HP
            go_wp2_with fail
            go_region
            go_wp2_with fail
            go_region
            go_wp2_with fail
            go_roundw
            case rel => exact ⟨k + 1, by omega, by omega, by go_num, HX.out, below_dr (below_dr HB.out 1) 1⟩
            case measure => simp [intOf]; omega
      · obtain rfl : k = b.size := by omega
        have HR : Hid (ord a b = 1) := by
          show _ = _
          rw [HEND.out (by omega), if_neg (by omega), if_pos (by omega)]
        have g1 : (b.size : Int) < a.size := by omega
        have g2 : ¬ (a.size : Int) < b.size := by omega
        clear HLT HGT HP HEND
        go_wp2_with fail
        go_ret
        exact ⟨by rw [HR.out]; rfl, HB.out⟩
    · obtain rfl : k = a.size := by omega
      by_cases hl2 : a.size < b.size
      · have HR : Hid (ord a b = -1) := by
          show _ = _
          rw [HEND.out (by omega), if_pos (by omega)]
        have g1 : (a.size : Int) < b.size := by omega
        clear HLT HGT HP HEND
        go_wp2_with fail
        go_ret
        exact ⟨by rw [HR.out]; rfl, HB.out⟩
      · have HR : Hid (ord a b = 0) := by
          show _ = _
          rw [HEND.out (by omega), if_neg (by omega), if_neg (by omega)]
        have g1 : ¬ (a.size : Int) < b.size := by omega
        have g2 : ¬ (b.size : Int) < a.size := by omega
        clear HLT HGT HP HEND
        go_wp2_with fail
        go_ret
        exact ⟨by rw [HR.out]; rfl, HB.out⟩
theorem corA_new (x y : Int) (w : World) :
    Calls Tryz.prog 49 #[.slice (some ⟨w.heap.size, 0, none⟩) 2 2] (w.alloc (.cells #[.int .i64 x, .int .i64 y] 3)) fun e w' => e = .returned (.int .i64 (if x = 0 then y else x)) ∧ w.alloc (.cells #[.int .i64 x, .int .i64 y] 3) = w' := by
  have h := or_any [x, y] (by simp) w.heap.size (w.alloc (.cells #[.int .i64 x, .int .i64 y] 3)) (Arr.new' _ _ _ _ rfl)
  rw [show orL [x, y] = if x = 0 then y else x from orL2 x y] at h
  exact h
set_option maxRecDepth 100000 in
set_option maxHeartbeats 1000000 in
theorem ncmp_gw (t r u q : ByteArray) (w : World) :
    Calls Tryz.prog 30 #[.agg #[.string t, .string r], .agg #[.string u, .string q]] w fun e w' => e = .returned (.int .i64 (ord2 t r u q)) ∧ Below w.heap.size w w' ∧ w.drawn ≤ w'.drawn := by
  have hb := below_alloc (below_alloc (Below.refl w.heap.size w) (.cells #[.string t, .string r] 41)) (.cells #[.string u, .string q] 41)
  have p1 := (Pair.new w 41 t r).alloc (.cells #[.string u, .string q] 41)
  have p2 := Pair.at (c := w.heap.size + 1) (Pair.new (w.alloc (.cells #[.string t, .string r] 41)) 41 u q) (by simp)
  obtain ⟨w0, hw0⟩ : ∃ w0, w0 = (w.alloc (.cells #[.string t, .string r] 41)).alloc (.cells #[.string u, .string q] 41) := ⟨_, rfl⟩
  rw [← hw0] at hb p1 p2
  have H1 := Lib.hid (Tryz.strings_Compare t u)
  have H2 := Lib.hid (Tryz.strings_Compare r q)
  have HO : Hid (ord2 t r u q = if ord t u = 0 then ord r q else ord t u) := rfl
  have HB := Lib.hid hb
  have HDN : Hid (w.drawn ≤ w0.drawn) := by rw [hw0]; exact Nat.le_refl _
  have HW := Lib.hid hw0
  have P1 := Lib.hid p1
  have P2 := Lib.hid p2
  clear hb p1 p2 hw0
  go_enter Tryz.func30, Tryz.ntmps30
  go_wp2_with fail
  rw [← HW.out]
  have c1 := P1.out.c0
  have c2 := P1.out.c1
  have c3 := P2.out.c0
  have c4 := P2.out.c1
  refine wp_region_still_tail 10 (by kernel_rfl) (by kernel_rfl) ?_
  simp only [List.take_succ_cons, List.take_zero, List.drop_succ_cons, List.drop_zero]
  repeat first | still_step | still_call (H1.out _) | still_call (H2.out _)
  refine wpStill_nil ?_
  change wpList _ _ _ _ _ w0.drew
  have HB2 : Hid (Below w.heap.size w w0.drew) := HB.out.drew
  have HDN2 : Hid (w.drawn ≤ w0.drew.drawn) := Nat.le_succ_of_le HDN.out
  generalize w0.drew = w2 at HB2 HDN2 ⊢
  obtain ⟨x, hx⟩ : ∃ x, ord t u = x := ⟨_, rfl⟩
  obtain ⟨y, hy⟩ : ∃ y, ord r q = y := ⟨_, rfl⟩
  rw [show Lib.compareBytes t.data.toList u.data.toList = x from hx, show Lib.compareBytes r.data.toList q.data.toList = y from hy]
  rw [hx, hy] at HO
  clear hx hy H1 H2 HW HB P1 P2 c1 c2 c3 c4
  go_wp2_with fail
  refine (corA_new x y _).mono ?_
  rintro e w3 ⟨rfl, rfl⟩
  rw [← HO.out]
  go_wp2_with fail
  go_ret
  exact ⟨rfl, below_alloc HB2.out _, HDN2.out⟩
/-- An allowed type: type and relation. -/
abbrev Yl := ByteArray × ByteArray
def ordY (a b : Yl) : Int := ord2 a.1 a.2 b.1 b.2
theorem ordY_up : ∀ a b c : Yl, ordY a b < 0 → ordY b c < 0 → ordY a c < 0 := fun a b c h1 h2 => by
  have h := ord2_le a.1 a.2 b.1 b.2 c.1 c.2 (by unfold ordY at h1; omega) (by unfold ordY at h2; omega)
  by_cases e : ordY a c = 0
  · obtain ⟨e1, e2⟩ := (ord2_zero a.1 a.2 c.1 c.2).1 e
    have f := ord2_flip a.1 a.2 b.1 b.2
    unfold ordY at h1 h2
    rw [← e1, ← e2] at h2
    omega
  · unfold ordY at e ⊢; omega
theorem ordYL : OrdL ordY := ⟨fun a b h => by
  obtain ⟨e1, e2⟩ := (ord2_zero a.1 a.2 b.1 b.2).1 h
  exact Prod.ext e1 e2, fun a => (ord2_zero a.1 a.2 a.1 a.2).2 ⟨rfl, rfl⟩, fun a b => ord2_flip a.1 a.2 b.1 b.2, ordY_up⟩
instance : DecidableEq Yl := fun a b => if h : ordY a b = 0 then .isTrue (ordYL.eq h) else .isFalse fun e => h (by rw [e]; exact ordYL.self b)
def yenc (x : Yl) : List Value := [.string x.1, .string x.2]
def ykey (x : Yl) : Yl := x
def y0 : Yl := (ByteArray.empty, ByteArray.empty)
instance : Inhabited Yl := ⟨y0⟩
theorem yenc_len (x : Yl) : (yenc x).length = 2 := rfl
theorem yenc_one (x : Yl) : ∀ v ∈ yenc x, v.oneCell' = true := fun v hv => by
  simp only [yenc, List.mem_cons, List.not_mem_nil, or_false] at hv
  rcases hv with rfl | rfl <;> rfl
theorem cmpY {w : World} {g size : Nat} : CmpLays Tryz.prog 30 #[] yenc 2 (fun x y => ordY (ykey x) (ykey y)) g 0 size w := fun m os dk _ x y => by
  refine (ncmp_gw x.1 x.2 y.1 y.2 _).mono ?_
  rintro e w' ⟨rfl, hb, hd⟩
  exact ⟨rfl, exact_of hb hd⟩
end Go.Proofs.YtdnmgemjhpkekaaGreat
