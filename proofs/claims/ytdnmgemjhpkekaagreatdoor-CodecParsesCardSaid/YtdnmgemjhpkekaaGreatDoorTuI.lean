/-
  The cursor's method Text, all of it (of XTuI).
-/
import Derived.Test.YtdnmgemjhpkekaaGreatDoorTuG
import Derived.Test.YtdnmgemjhpkekaaGreatDoorShf
import Derived.Test.YtdnmgemjhpkekaaGreatDoorArr
import Derived.Test.YtdnmgemjhpkekaaGreatDoorNameR
namespace Go.Proofs.YtdnmgemjhpkekaaGreatDoor
open Go.ChangeShapes Go.WideShapes Go.ChangeAt Go.RowKit
set_option linter.unusedVariables false

open errAs (ErrT)
theorem grown_trans {w w1 w2 : World} {r : Option Nat} (h1 : w.grownBy w1 r) (h2 : w1.grownBy w2 r) : w.grownBy w2 r :=
  ⟨h2.os.trans h1.os, h2.tape.trans h1.tape, h2.output.trans h1.output, Nat.le_trans h1.size h2.size, fun k hk hne => (h2.block k (Nat.lt_of_lt_of_le hk h1.size) hne).trans (h1.block k hk hne)⟩
theorem grown_of {w w' : World} (h : Below w.heap.size w w') (r : Option Nat) : w.grownBy w' r := ⟨h.os, h.tape, h.output, h.size, fun k hk _ => h.block k hk⟩
theorem grown_cell {w w' : World} {r : Option Nat} (h : w.grownBy w' r) {a : Addr} (ha : w.heap.size ≤ a.block) (v : Value) : w.grownBy (w'.setCell a v) r :=
  ⟨h.os, h.tape, h.output, Nat.le_trans h.size (by simp [World.setCell]), fun k hk hne => (Below.heap_setCell w' a v k (by omega)).trans (h.block k hk hne)⟩
theorem grown_below' {w w' : World} {c C : Nat} (h : w.grownBy w' (some c)) (hC : C ≤ c) (hw : C ≤ w.heap.size) : Below C w w' := (Below.refl _ _).grown h hw (fun k hk => by injection hk with hk; omega)
theorem Arr.grown {w w' : World} {t : TypeId} {g c : Nat} {cs : List Value} (h : Arr w t g cs) (hg : w.grownBy w' (some c)) (hne : g ≠ c) : Arr w' t g cs := (hg.block g h.lt (fun e => hne (Option.some.inj e))).trans h
theorem errF_zero (n : Nat) : errF 0 n = .nilIface := rfl
theorem eqEC (d : Int) (w : World) : (binOp BinOp.eql 28 (.iface 73 (.int .i64 d)) .nilIface).run Tryz.prog w = .ok (.bool false) w := by kernel_rfl
theorem eqNF (d e : Int) (w : World) : (binOp BinOp.neq 28 (.iface 105 (.agg #[.int .i64 d, .int .i64 e])) .nilIface).run Tryz.prog w = .ok (.bool true) w := by kernel_rfl
/-- The method Cursor.Text, all of it. -/
theorem ctext_all {w : World} {c at' : Nat} {l : List UInt8} (h : Cur w c l at') (most : Nat) (hm : most ≤ 1000) :
    ((partP most (l.drop at')).2.2 ≠ 0 → Calls Tryz.prog 71 #[.pointer (some ⟨c, 0, none⟩), .int .i64 most] w fun e w' => e = .returned (.tuple #[.string ByteArray.empty, .iface 73 (.int .i64 (partP most (l.drop at')).2.2)]) ∧ ∃ n, w' = w.drewN n) ∧
    ((partP most (l.drop at')).2.2 = 0 → Calls Tryz.prog 71 #[.pointer (some ⟨c, 0, none⟩), .int .i64 most] w fun e w' => e = .returned (.tuple #[.string (str (partP most (l.drop at')).1), .nilIface]) ∧ Cur w' c l (at' + (partP most (l.drop at')).2.1) ∧ w.grownBy w' (some c)) := by
  have hle : at' ≤ l.length := by obtain ⟨_, _, _, h3, _⟩ := h; exact h3
  obtain ⟨r, hr⟩ : ∃ r, r = l.drop at' := ⟨_, rfl⟩
  have hrl : r.length = l.length - at' := by rw [hr, List.length_drop]
  rw [← hr]
  by_cases h0 : (num r).2.2 = 0
  · obtain ⟨k0, k1, k2⟩ := num_at h0
    obtain ⟨n, hn⟩ : ∃ n, n = (num r).1 := ⟨_, rfl⟩
    obtain ⟨k, hk⟩ : ∃ k, k = (num r).2.1 := ⟨_, rfl⟩
    have hnum : num (l.drop at') = (n, k, 0) := by rw [← hr, hn, hk, ← h0]
    rw [← hk] at k0 k1
    by_cases h1 : most < n
    · rw [partP_lim h0 (by rw [← hn]; exact h1)]
      exact ⟨fun _ => ctext_lim h most hm h1 hnum, fun e => by cases e⟩
    · by_cases h2 : r.length < k + n
      · rw [partP_short h0 (by rw [← hn]; exact h1) (by rw [← hn, ← hk]; exact h2)]
        exact ⟨fun _ => ctext_short h most hm (by omega) (by omega) (by omega) hnum, fun e => by cases e⟩
      · have hp := partP_yes (most := most) h0 (by rw [← hn]; exact h1) (by rw [← hn, ← hk]; exact h2)
        rw [← hn, ← hk] at hp
        rw [hp, hr]
        refine ⟨fun e => absurd rfl e, fun _ => ?_⟩
        by_cases hz : n = 0
        · exact ctext_nil h most hm hz (by omega) k0 (by omega) hnum
        · exact ctext_yes h most hm (by omega) (by omega) k0 (by omega) hnum
  · rw [partP_num (most := most) h0]
    have hb := numGo_bad r 0 0 h0
    have e1 : (num r).1 = 0 := hb.1
    have e2 : (num r).2.1 = 0 := hb.2
    have hnum : num (l.drop at') = (0, 0, (num r).2.2) := by rw [← hr]; exact Prod.ext e1 (Prod.ext e2 rfl)
    exact ⟨fun _ => ctext_num h most hm h0 hnum, fun e => absurd e h0⟩
open errAs (ErrT)
def Env (w : World) : Prop := ResT w ∧ ErrT w
theorem Env.below {w w' : World} (h : Env w) (hb : Below w.heap.size w w') : Env w' := ⟨h.1.below hb h.1.lt, errT_below h.2 hb⟩
/-- The laid variables hold since before the cursor was made. -/
def EnvC (c : Nat) (W : World) : Prop := ∃ wE, Env wE ∧ wE.heap.size ≤ c ∧ Below wE.heap.size wE W
theorem EnvC.env {c : Nat} {W : World} (h : EnvC c W) : Env W := by
  obtain ⟨wE, h1, _, h3⟩ := h
  exact h1.below h3
theorem EnvC.grown {c : Nat} {W W' : World} (h : EnvC c W) (hg : W.grownBy W' (some c)) : EnvC c W' := by
  obtain ⟨wE, h1, h2, h3⟩ := h
  exact ⟨wE, h1, h2, h3.trans (grown_below' hg h2 h3.size)⟩
theorem EnvC.cell {c : Nat} {W : World} (h : EnvC c W) {a : Addr} (ha : c ≤ a.block) (v : Value) : EnvC c (W.setCell a v) := by
  obtain ⟨wE, h1, h2, h3⟩ := h
  exact ⟨wE, h1, h2, h3.setCell (Nat.le_trans h2 ha) v⟩
variable {W : World} {c A : Nat} {b : List UInt8}
/-- The cursor's two cells. -/
theorem Cur.two (h : Cur W c b A) : ∃ q p, Arr W 116 c [.slice q b.length p, .int .i64 A] ∧ Rd c W (.slice q b.length p) b ∧ A ≤ b.length ∧ b.length ≤ 140737488355328 := by
  obtain ⟨v, h1, h2, h3, h4⟩ := h
  obtain ⟨q, p, hv⟩ := rd_form h2
  subst hv
  exact ⟨q, p, h1, h2, h3, h4⟩
theorem cur_of {q : Option Addr} {p : Nat} (h1 : Arr W 116 c [.slice q b.length p, .int .i64 A]) (h2 : Rd c W (.slice q b.length p) b) (h3 : A ≤ b.length) (h4 : b.length ≤ 140737488355328) : Cur W c b A := ⟨_, h1, h2, h3, h4⟩
end Go.Proofs.YtdnmgemjhpkekaaGreatDoor
