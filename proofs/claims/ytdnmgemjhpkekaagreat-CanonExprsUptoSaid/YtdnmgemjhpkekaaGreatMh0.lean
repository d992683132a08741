/-
  schema.Same and canon.Is on two definitions without members.
-/
import Derived.Test.YtdnmgemjhpkekaaGreatCnM
import Derived.Test.YtdnmgemjhpkekaaGreatCnK
import Derived.Test.YtdnmgemjhpkekaaGreatExT
import Derived.Test.YtdnmgemjhpkekaaGreatCnQ
import Derived.Test.YtdnmgemjhpkekaaGreatExC
import Derived.Test.YtdnmgemjhpkekaaGreatExQ
namespace Go.Proofs.YtdnmgemjhpkekaaGreat
open Go.ChangeShapes Go.WideShapes Go.ChangeAt Go.RowKit Go.Lib Go.Sort
set_option linter.unusedVariables false

set_option maxRecDepth 100000 in
set_option maxHeartbeats 4000000 in
theorem eqfM_nil (w : World) (f : Value) : Calls Tryz.prog 65 #[.slice none 0 0, .slice none 0 0, f] w fun e w' => e = .returned (.bool true) ∧ w = w' := by
  go_enter Tryz.func65, Tryz.ntmps65
  go_wp2_with fail
  go_loopw [17] (fun iv wr => iv = .int .i64 0 ∧ wr = w) (fun _ _ => 0)
  case atStart => exact ⟨rfl, rfl⟩
  case round =>
    obtain ⟨rfl, rfl⟩ := hrel
    go_wp2_with fail
    go_ret
    exact ⟨rfl, rfl⟩
set_option maxRecDepth 100000 in
set_option maxHeartbeats 4000000 in
theorem sameDn (n : ByteArray) (w : World) : Calls Tryz.prog 44 #[.agg #[.string n, .slice none 0 0], .agg #[.string n, .slice none 0 0]] w fun e w' => e = .returned (.bool true) ∧ Below w.heap.size w w' := by
  have hb : Below w.heap.size w ((w.alloc (.cells #[.string n, .slice none 0 0] 36)).alloc (.cells #[.string n, .slice none 0 0] 36)) := ((Below.refl _ _).alloc (Nat.le_refl _) _).alloc (by simp) _
  have HB := Lib.hid hb
  clear hb
  go_enter Tryz.func44, Tryz.ntmps44
  go_wp2_with fail
  refine (eqfM_nil _ _).mono ?_
  rintro e w1 ⟨rfl, rfl⟩
  go_wp2_with fail
  go_ret
  exact ⟨rfl, HB.out⟩
set_option maxRecDepth 100000 in
set_option maxHeartbeats 4000000 in
theorem eqfD2 {w : World} {g h c d : Nat} {n1 n2 : ByteArray} (hp : DR w g n1 n2) (hq : DR w h n1 n2) : Calls Tryz.prog 43 #[.slice (some ⟨g, 0, none⟩) 2 c, .slice (some ⟨h, 0, none⟩) 2 d, .func (.func 44) #[] #[]] w fun e w' => e = .returned (.bool true) ∧ Below w.heap.size w w' := by
  have HP0 := Lib.hid hp
  have HQ0 := Lib.hid hq
  clear hp hq
  go_enter Tryz.func43, Tryz.ntmps43
  go_wp2_with fail
  go_loopw [17] (fun iv wr => ∃ i : Nat, i ≤ 2 ∧ iv = .int .i64 i ∧ Hid (DR wr g n1 n2) ∧ Hid (DR wr h n1 n2) ∧ Hid (Below w.heap.size w wr)) (fun iv _ => 2 - (intOf iv).toNat)
  case atStart => exact ⟨0, by omega, rfl, HP0.out, HQ0.out, Below.refl _ _⟩
  case round =>
    obtain ⟨i, hi, rfl, HP, HQ, HB⟩ := hrel
    clear HP0 HQ0
    by_cases h0 : i = 0
    · subst h0
      have ba : Below wr.heap.size wr (wr.alloc (.cells #[.string n1, .slice none 0 0] 36)) := (Below.refl _ _).alloc (Nat.le_refl _) _
      have bb : Below wr.heap.size wr ((wr.alloc (.cells #[.string n1, .slice none 0 0] 36)).alloc (.cells #[.string n1, .slice none 0 0] 36)) := ba.alloc (by simp) _
      have HPa := Lib.hid (HP.out.later ba)
      have HQa := Lib.hid (HQ.out.later ba)
      have k0 := HP.out.2.1.1
      have k1 := HP.out.2.1.2.1
      have j0 := HQa.out.2.1.1
      have j1 := HQa.out.2.1.2.1
      have HPb := Lib.hid (HP.out.later bb)
      have HQb := Lib.hid (HQ.out.later bb)
      have HBb := Lib.hid (HB.out.trans (bb.mono HB.out.size))
      have HSM := Lib.hid (sameDn n1 ((wr.alloc (.cells #[.string n1, .slice none 0 0] 36)).alloc (.cells #[.string n1, .slice none 0 0] 36)))
      clear ba bb HP HQ HB HPa HQa
      go_wp2_with fail
      refine HSM.out.mono ?_
      rintro e w5 ⟨rfl, b5⟩
      have HP5 := Lib.hid (HPb.out.later b5)
      have HQ5 := Lib.hid (HQb.out.later b5)
      have HB5 := Lib.hid (HBb.out.trans (b5.mono HBb.out.size))
      clear b5 HPb HQb HBb HSM k0 k1 j0 j1
      go_wp2_with fail
      go_roundw
      case rel => exact ⟨1, by omega, by go_num, HP5.out, HQ5.out, HB5.out⟩
      case measure => simp [intOf]
    · by_cases h1 : i = 1
      · subst h1
        have ba : Below wr.heap.size wr (wr.alloc (.cells #[.string n2, .slice none 0 0] 36)) := (Below.refl _ _).alloc (Nat.le_refl _) _
        have bb : Below wr.heap.size wr ((wr.alloc (.cells #[.string n2, .slice none 0 0] 36)).alloc (.cells #[.string n2, .slice none 0 0] 36)) := ba.alloc (by simp) _
        have HPa := Lib.hid (HP.out.later ba)
        have HQa := Lib.hid (HQ.out.later ba)
        have k0 := HP.out.2.1.2.2.1
        have k1 := HP.out.2.1.2.2.2
        have j0 := HQa.out.2.1.2.2.1
        have j1 := HQa.out.2.1.2.2.2
        have HPb := Lib.hid (HP.out.later bb)
        have HQb := Lib.hid (HQ.out.later bb)
        have HBb := Lib.hid (HB.out.trans (bb.mono HB.out.size))
        have HSM := Lib.hid (sameDn n2 ((wr.alloc (.cells #[.string n2, .slice none 0 0] 36)).alloc (.cells #[.string n2, .slice none 0 0] 36)))
        clear ba bb HP HQ HB HPa HQa
        go_wp2_with fail
        refine HSM.out.mono ?_
        rintro e w5 ⟨rfl, b5⟩
        have HP5 := Lib.hid (HPb.out.later b5)
        have HQ5 := Lib.hid (HQb.out.later b5)
        have HB5 := Lib.hid (HBb.out.trans (b5.mono HBb.out.size))
        clear b5 HPb HQb HBb HSM k0 k1 j0 j1
        go_wp2_with fail
        go_roundw
        case rel => exact ⟨2, by omega, by go_num, HP5.out, HQ5.out, HB5.out⟩
        case measure => simp [intOf]
      · obtain rfl : i = 2 := by omega
        clear h0 h1 hi
        go_wp2_with fail
        go_ret
        exact ⟨rfl, HB.out⟩
set_option maxRecDepth 100000 in
set_option maxHeartbeats 4000000 in
theorem same2 {w : World} {g h c d : Nat} {n1 n2 : ByteArray} (hp : DR w g n1 n2) (hq : DR w h n1 n2) : Calls Tryz.prog 28 #[.agg #[.slice (some ⟨g, 0, none⟩) 2 c], .agg #[.slice (some ⟨h, 0, none⟩) 2 d]] w fun e w' => e = .returned (.bool true) ∧ Below w.heap.size w w' := by
  have hb : Below w.heap.size w ((w.alloc (.cells #[.slice (some ⟨g, 0, none⟩) 2 c] 32)).alloc (.cells #[.slice (some ⟨h, 0, none⟩) 2 d] 32)) := ((Below.refl _ _).alloc (Nat.le_refl _) _).alloc (by simp) _
  have HE := Lib.hid (eqfD2 (c := c) (d := d) (hp.later hb) (hq.later hb))
  have HB := Lib.hid hb
  have a1 := (Arr.new2 w (.cells #[.slice (some ⟨g, 0, none⟩) 2 c] 32) 32 #[.slice (some ⟨h, 0, none⟩) 2 d] [.slice (some ⟨h, 0, none⟩) 2 d] rfl).cell 0
  have a0 := ((Arr.new' w 32 #[.slice (some ⟨g, 0, none⟩) 2 c] [.slice (some ⟨g, 0, none⟩) 2 c] rfl).alloc (.cells #[.slice (some ⟨h, 0, none⟩) 2 d] 32)).cell 0
  simp only [List.getElem?_cons_zero] at a0 a1
  clear hp hq hb
  go_enter Tryz.func28, Tryz.ntmps28
  go_wp2_with fail
  refine HE.out.mono ?_
  rintro e w1 ⟨rfl, b1⟩
  have HB1 := Lib.hid (HB.out.trans (b1.mono HB.out.size))
  clear b1 HE HB a0 a1
  go_wp2_with fail
  go_ret
  exact ⟨rfl, HB1.out⟩
theorem takeS2 {ops : Array Oper} {md : Region.Mode} {S : World → Prop} {Q : Exit → Act → World → Prop} {i : Nat} {o : Oper} {fuel : Nat} {listed : Array Bool} {a : Act} {w : World} {v : Value} (hi : ops[i]? = some o) (hs : Region.noSelect ops = true) (hf : Region.free md ops listed i = true) (hr : (Region.ready md ops listed).contains i = true)
    (hQ : ∀ c a w, Q (.panic c) (a.put o.dst (.agg #[v])) w → Q (.panic c) a w) (hwt : Region.wanted o (yielded ops a.tmps) = true) {x : Operand} {b off : Nat} (ho : o.op = .load 32 x ∧ a.eval x = .pointer (some ⟨b, off, none⟩)) (hS : ∀ w, S w → w.rangeAt b off [v]) (hw : S w)
    (h : wpAnyH Tryz.prog md ops Q S fuel (listed.setIfInBounds i true) (a.put o.dst (.agg #[v])) w) : wpAnyH Tryz.prog md ops Q S (fuel + 1) listed a w :=
  wpAnyH_take hi hs hf hr hQ (yieldsIf_load_mid hwt _ x ho.1 b off ho.2 [v] _ hS Tryz.underlying32 rfl (by kernel_rfl)) hw h
set_option maxRecDepth 100000 in
set_option maxHeartbeats 4000000 in
theorem is2 {w : World} {g c : Nat} {n1 n2 : ByteArray} (hp : DR w g n1 n2) (ho : ¬ ord n2 n1 < 0) : Calls Tryz.prog 12 #[.agg #[.slice (some ⟨g, 0, none⟩) 2 c]] w fun e w' => e = .returned (.bool true) ∧ Below w.heap.size w w' := by
  obtain ⟨w1, hw1⟩ : ∃ w1, w1 = w.alloc (.cells #[.slice (some ⟨g, 0, none⟩) 2 c] 32) := ⟨_, rfl⟩
  have hb : Below w.heap.size w w1 := by rw [hw1]; exact (Below.refl _ _).alloc (Nat.le_refl _) _
  have ha : Arr w1 32 w.heap.size [.slice (some ⟨g, 0, none⟩) 2 c] := by rw [hw1]; exact Arr.new' w 32 #[.slice (some ⟨g, 0, none⟩) 2 c] [.slice (some ⟨g, 0, none⟩) 2 c] rfl
  have HR : Hid (∀ w', Below w1.heap.size w1 w' → w'.rangeAt w.heap.size 0 [.slice (some ⟨g, 0, none⟩) 2 c]) := fun w' h => (ha.later h).range
  have HD := Lib.hid (hp.later hb)
  have HO : Hid (∀ (A B : Prop), (if ord n2 n1 < 0 then A else B) → B) := fun A B h => by rwa [if_neg ho] at h
  have HB := Lib.hid hb
  have HW := Lib.hid hw1
  clear hp ho hb ha hw1
  go_enter Tryz.func12, Tryz.ntmps12
  go_wp2_with fail
  rw [← HW.out]
  refine wp_region_noPanic ?_
  refine wp_region_held_drew (S := Below w1.heap.size w1) (by kernel_rfl) ((Below.refl _ _).drew) (fun hHeld => ?_)
  try simp only [Act.put]
  generalize w1.drew = wd at hHeld ⊢
  refine takeS2 (v := .slice (some ⟨g, 0, none⟩) 2 c) (i := 0) (o := ⟨some 3, _, _, _, _, _⟩) rfl (by kernel_rfl) (by kernel_rfl) (by kernel_rfl) (fun _ _ _ h => h) (by rfl) ⟨rfl, rfl⟩ HR.out hHeld ?_
  try simp only [Act.put, List.setIfInBounds_toArray, List.set_cons_zero, List.set_cons_succ]
  refine takeS2 (v := .slice (some ⟨g, 0, none⟩) 2 c) (i := 1) (o := ⟨some 4, _, _, _, _, _⟩) rfl (by kernel_rfl) (by kernel_rfl) (by kernel_rfl) (fun _ _ _ h => h) (by rfl) ⟨rfl, rfl⟩ HR.out hHeld ?_
  try simp only [Act.put, List.setIfInBounds_toArray, List.set_cons_zero, List.set_cons_succ]
  refine wpAnyH_ready (rs := [2]) (by kernel_rfl) (by simp) ?_
  refine AllReadyH.cons (o := ⟨some 5, _, _, _, _, _⟩) rfl (fun K' hK' => ?_) AllReadyH.nil
  refine stepw_call (R := fun v w'' => (∃ h d, v = .agg #[.slice (some ⟨h, 0, none⟩) 2 d] ∧ DR w'' h n1 n2) ∧ Below w1.heap.size w1 w'') (by rfl) ?_ ((csch2 (c := c) (HD.out.later hHeld)).mono fun e w'' ⟨h, d, h1, _, h3, b1⟩ => ⟨_, h1, ⟨h, d, rfl, HO.out _ _ h3⟩, hHeld.trans (b1.mono hHeld.size)⟩) ?_
  focus go_simp
  rintro v5 w5 ⟨⟨h, d, rfl, hd5⟩, hkn⟩
  refine hK'.out _ _ hkn (fun _ => ?_)
  clear hK' K' hHeld
  have hHeld := hkn
  clear hkn
  try simp only [Act.put, List.setIfInBounds_toArray, List.set_cons_zero, List.set_cons_succ]
  refine wpAnyH_ready (rs := [3]) (by kernel_rfl) (by simp) ?_
  refine AllReadyH.cons (o := ⟨some 6, _, _, _, _, _⟩) rfl (fun K' hK' => ?_) AllReadyH.nil
  refine stepw_call (R := fun v w'' => v = .bool true ∧ Below w1.heap.size w1 w'') (by rfl) ?_ ((same2 (c := c) (d := d) (HD.out.later hHeld) hd5).mono fun e w'' ⟨h1, b1⟩ => ⟨_, h1, rfl, hHeld.trans (b1.mono hHeld.size)⟩) ?_
  focus go_simp
  rintro v6 w6 ⟨rfl, hkn⟩
  refine hK'.out _ _ hkn (fun _ => ?_)
  clear hK' K' hHeld
  have hHeld := hkn
  clear hkn
  try simp only [Act.put, List.setIfInBounds_toArray, List.set_cons_zero, List.set_cons_succ]
  clear hd5
  refine wpAnyH_take (i := 4) (oi := ⟨some 2, _, _, _, _, _⟩) (v := .bool true) rfl (by kernel_rfl) (by kernel_rfl) (by kernel_rfl) (fun _ _ _ h => h) (.inl ⟨by rfl, fun w' hSw => ?_⟩) hHeld ?_
  focus (skip; clear hHeld; go_simp)
  try simp only [Act.put, List.setIfInBounds_toArray, List.set_cons_zero, List.set_cons_succ]
  refine wpAnyH_done (by kernel_rfl) ?_ _
  refine NoPanic.normal ?_
  have HB3 := Lib.hid (HB.out.trans (hHeld.mono HB.out.size))
  clear hHeld HB
  go_wp2_with fail
  go_ret
  exact ⟨rfl, HB3.out⟩
end Go.Proofs.YtdnmgemjhpkekaaGreat
/-
  vestrylaw15.awake.
-/
namespace Go.Proofs.YtdnmgemjhpkekaaGreat
open Go.ChangeShapes Go.WideShapes Go.ChangeAt Go.RowKit Go.Lib Go.Sort
set_option linter.unusedVariables false

def lA : Ex := .mk 1 [] [97] []
def lB : Ex := .mk 1 [] [98] []
def uAB : Ex := .mk 3 [] [] [lA, lB]
def uIn : Ex := .mk 3 [] [] [lB, uAB]
def iAA : Ex := .mk 4 [] [] [lA, lA]
theorem uIn_form : formE uIn = true := by decide +kernel
theorem iAA_form : formE iAA = true := by decide +kernel
theorem uIn_can : canE cmpE uIn = uAB := by decide +kernel
theorem iAA_can : canE cmpE iAA = lA := by decide +kernel
theorem uIn_size : sizeE uIn ≤ 900000 := by decide +kernel
theorem iAA_size : sizeE iAA ≤ 900000 := by decide +kernel
theorem uAB_size : sizeE uAB ≤ 900000 := by decide +kernel
theorem lA_size : sizeE lA ≤ 900000 := by decide +kernel
theorem uAB_ok : okE 100000 uAB := by unfold uAB lA lB; simp [okE, okL]
theorem lA_ok : okE 100000 lA := by unfold lA; simp [okE, okL]
theorem ord_ab : ord ⟨#[97]⟩ ⟨#[98]⟩ < 0 := by decide +kernel
theorem ord_ba : ¬ ord ⟨#[98]⟩ ⟨#[97]⟩ < 0 := by decide +kernel
theorem bb_one : sortedO ordY [(⟨#[98]⟩, ⟨#[]⟩), (⟨#[98]⟩, ⟨#[]⟩)] = [((⟨#[98]⟩, ⟨#[]⟩) : Yl)] := by decide +kernel
theorem rdA (P : Nat → Prop) (w : World) (q : Option Addr) (c : Nat) : RdE P w lA (.agg #[.int .i64 1, .string ⟨#[]⟩, .string ⟨#[97]⟩, .slice q 0 c]) := by
  unfold lA RdE
  exact ⟨q, c, rfl, Nat.zero_le _, fun h => by simp at h⟩
theorem rdB (P : Nat → Prop) (w : World) (q : Option Addr) (c : Nat) : RdE P w lB (.agg #[.int .i64 1, .string ⟨#[]⟩, .string ⟨#[98]⟩, .slice q 0 c]) := by
  unfold lB RdE
  exact ⟨q, c, rfl, Nat.zero_le _, fun h => by simp at h⟩
theorem rdUAB {P : Nat → Prop} {w : World} {g : Nat} (hA : Arr w 24 g [.int .i64 1, .string ⟨#[]⟩, .string ⟨#[97]⟩, .slice none 0 0, .int .i64 1, .string ⟨#[]⟩, .string ⟨#[98]⟩, .slice none 0 0]) (hg : P g) : RdE P w uAB (.agg #[.int .i64 3, .string ⟨#[]⟩, .string ⟨#[]⟩, .slice (some ⟨g, 0, none⟩) 2 2]) := by
  unfold uAB RdE
  refine ⟨_, _, rfl, Nat.le_refl _, fun _ => ⟨g, 0, rfl, hg, ?_⟩⟩
  exact CellsL.rdL (cs := [.int .i64 1, .string ⟨#[]⟩, .string ⟨#[97]⟩, .slice none 0 0, .int .i64 1, .string ⟨#[]⟩, .string ⟨#[98]⟩, .slice none 0 0]) ⟨rdA _ _ _ _, rdB _ _ _ _, trivial⟩ fun j u hj => by rw [Nat.zero_add, ← hj]; exact hA.cell j
theorem loadSG {ops : Array Oper} {rest : List Oper} {o : Oper} {a : Act} {Q : Exit → Act → World → Prop} {w : World} {b off : Nat} {x : Operand} {v : Value} (hr : w.rangeAt b off [v]) (hs : Region.wanted o (yielded ops a.tmps) = true ∧ o.op = .load 32 x ∧ a.eval x = .pointer (some ⟨b, off, none⟩))
    (hk : wpList Tryz.prog ops Q rest (a.put o.dst (.agg #[v])) w) : wpList Tryz.prog ops Q (o :: rest) a w :=
  wpList_step fun K hK => by
    rw [if_pos hs.1]
    exact wp_load_mid _ x hs.2.1 b off hs.2.2 [v] _ hr Tryz.underlying32 rfl (by kernel_rfl) (hK _ _ hk)
theorem loadEG {ops : Array Oper} {rest : List Oper} {o : Oper} {a : Act} {Q : Exit → Act → World → Prop} {w : World} {b off : Nat} {x : Operand} {u0 u1 u2 u3 : Value} (hr : w.rangeAt b off [u0, u1, u2, u3]) (hs : Region.wanted o (yielded ops a.tmps) = true ∧ o.op = .load 24 x ∧ a.eval x = .pointer (some ⟨b, off, none⟩))
    (hk : wpList Tryz.prog ops Q rest (a.put o.dst (.agg #[u0, u1, u2, u3])) w) : wpList Tryz.prog ops Q (o :: rest) a w :=
  wpList_step fun K hK => by
    rw [if_pos hs.1]
    exact wp_load_mid _ x hs.2.1 b off hs.2.2 [u0, u1, u2, u3] _ hr Tryz.underlying24 rfl (by kernel_rfl) (hK _ _ hk)
set_option maxRecDepth 100000 in
set_option maxHeartbeats 4000000 in
theorem awake_any (w : World) : Calls Tryz.prog 4 #[] w fun e w' => e = .returned (.bool true) ∧ Below w.heap.size w w' := by
  have HA0 : Hid (Arr ((w.alloc (.cells #[.int .i64 1, .string ⟨#[]⟩, .string ⟨#[97]⟩, .slice none 0 0] 24)).alloc (.cells #[.int .i64 1, .string ⟨#[]⟩, .string ⟨#[98]⟩, .slice none 0 0] 24)) 24 w.heap.size [.int .i64 1, .string ⟨#[]⟩, .string ⟨#[97]⟩, .slice none 0 0]) := (Arr.new' w _ _ _ rfl).alloc _
  have HB0 : Hid (Arr ((w.alloc (.cells #[.int .i64 1, .string ⟨#[]⟩, .string ⟨#[97]⟩, .slice none 0 0] 24)).alloc (.cells #[.int .i64 1, .string ⟨#[]⟩, .string ⟨#[98]⟩, .slice none 0 0] 24)) 24 (w.heap.size + 1) [.int .i64 1, .string ⟨#[]⟩, .string ⟨#[98]⟩, .slice none 0 0]) := Arr.new2 w _ _ _ _ rfl
  have HW0 : Hid (Below w.heap.size w ((w.alloc (.cells #[.int .i64 1, .string ⟨#[]⟩, .string ⟨#[97]⟩, .slice none 0 0] 24)).alloc (.cells #[.int .i64 1, .string ⟨#[]⟩, .string ⟨#[98]⟩, .slice none 0 0] 24))) := ((Below.refl _ _).alloc (Nat.le_refl _) _).alloc (by simp) _
  go_enter Tryz.func4, Tryz.ntmps4
  go_upto_region 3 with fail
  generalize ((w.alloc (.cells #[.int .i64 1, .string ⟨#[]⟩, .string ⟨#[97]⟩, .slice none 0 0] 24)).alloc (.cells #[.int .i64 1, .string ⟨#[]⟩, .string ⟨#[98]⟩, .slice none 0 0] 24)) = w0 at HA0 HB0 HW0 ⊢
  have a0 := HA0.out.cell 0
  have a1 := HA0.out.cell 1
  have a2 := HA0.out.cell 2
  have a3 := HA0.out.cell 3
  have b0 := HB0.out.cell 0
  have b1 := HB0.out.cell 1
  have b2 := HB0.out.cell 2
  have b3 := HB0.out.cell 3
  simp only [List.getElem?_cons_zero, List.getElem?_cons_succ] at a0 a1 a2 a3 b0 b1 b2 b3
  have hb1 : Below w0.heap.size w0 (w0.alloc (.cells #[.int .i64 1, .string ⟨#[]⟩, .string ⟨#[97]⟩, .slice none 0 0, .int .i64 1, .string ⟨#[]⟩, .string ⟨#[98]⟩, .slice none 0 0] 24)) := (Below.refl _ _).alloc (Nat.le_refl _) _
  have hb2 : Below w0.heap.size w0 ((w0.alloc (.cells #[.int .i64 1, .string ⟨#[]⟩, .string ⟨#[97]⟩, .slice none 0 0, .int .i64 1, .string ⟨#[]⟩, .string ⟨#[98]⟩, .slice none 0 0] 24)).alloc (.cells #[.int .i64 1, .string ⟨#[]⟩, .string ⟨#[98]⟩, .slice none 0 0, .int .i64 3, .string ⟨#[]⟩, .string ⟨#[]⟩, .slice (some ⟨w0.heap.size, 0, none⟩) 2 2] 24)) := hb1.alloc hb1.size _
  have hin : Arr ((w0.alloc (.cells #[.int .i64 1, .string ⟨#[]⟩, .string ⟨#[97]⟩, .slice none 0 0, .int .i64 1, .string ⟨#[]⟩, .string ⟨#[98]⟩, .slice none 0 0] 24)).alloc (.cells #[.int .i64 1, .string ⟨#[]⟩, .string ⟨#[98]⟩, .slice none 0 0, .int .i64 3, .string ⟨#[]⟩, .string ⟨#[]⟩, .slice (some ⟨w0.heap.size, 0, none⟩) 2 2] 24)) 24 w0.heap.size [.int .i64 1, .string ⟨#[]⟩, .string ⟨#[97]⟩, .slice none 0 0, .int .i64 1, .string ⟨#[]⟩, .string ⟨#[98]⟩, .slice none 0 0] := (Arr.new' w0 _ _ _ rfl).alloc _
  have hout : Arr ((w0.alloc (.cells #[.int .i64 1, .string ⟨#[]⟩, .string ⟨#[97]⟩, .slice none 0 0, .int .i64 1, .string ⟨#[]⟩, .string ⟨#[98]⟩, .slice none 0 0] 24)).alloc (.cells #[.int .i64 1, .string ⟨#[]⟩, .string ⟨#[98]⟩, .slice none 0 0, .int .i64 3, .string ⟨#[]⟩, .string ⟨#[]⟩, .slice (some ⟨w0.heap.size, 0, none⟩) 2 2] 24)) 24 (w0.heap.size + 1) [.int .i64 1, .string ⟨#[]⟩, .string ⟨#[98]⟩, .slice none 0 0, .int .i64 3, .string ⟨#[]⟩, .string ⟨#[]⟩, .slice (some ⟨w0.heap.size, 0, none⟩) 2 2] := Arr.new2 w0 _ _ _ _ rfl
  have hz2 : ((w0.alloc (.cells #[.int .i64 1, .string ⟨#[]⟩, .string ⟨#[97]⟩, .slice none 0 0, .int .i64 1, .string ⟨#[]⟩, .string ⟨#[98]⟩, .slice none 0 0] 24)).alloc (.cells #[.int .i64 1, .string ⟨#[]⟩, .string ⟨#[98]⟩, .slice none 0 0, .int .i64 3, .string ⟨#[]⟩, .string ⟨#[]⟩, .slice (some ⟨w0.heap.size, 0, none⟩) 2 2] 24)).heap.size = w0.heap.size + 2 := by simp
  have hrd : RdE (Bt w0.heap.size (w0.heap.size + 2)) ((w0.alloc (.cells #[.int .i64 1, .string ⟨#[]⟩, .string ⟨#[97]⟩, .slice none 0 0, .int .i64 1, .string ⟨#[]⟩, .string ⟨#[98]⟩, .slice none 0 0] 24)).alloc (.cells #[.int .i64 1, .string ⟨#[]⟩, .string ⟨#[98]⟩, .slice none 0 0, .int .i64 3, .string ⟨#[]⟩, .string ⟨#[]⟩, .slice (some ⟨w0.heap.size, 0, none⟩) 2 2] 24)) uIn (.agg #[.int .i64 3, .string ⟨#[]⟩, .string ⟨#[]⟩, .slice (some ⟨w0.heap.size + 1, 0, none⟩) 2 2]) := by
    unfold uIn RdE
    refine ⟨_, _, rfl, Nat.le_refl _, fun _ => ⟨w0.heap.size + 1, 0, rfl, ⟨by omega, by omega⟩, ?_⟩⟩
    exact CellsL.rdL (cs := [.int .i64 1, .string ⟨#[]⟩, .string ⟨#[98]⟩, .slice none 0 0, .int .i64 3, .string ⟨#[]⟩, .string ⟨#[]⟩, .slice (some ⟨w0.heap.size, 0, none⟩) 2 2]) ⟨rdB _ _ _ _, rdUAB hin ⟨by omega, by omega⟩, trivial⟩ fun j u hj => by rw [Nat.zero_add, ← hj]; exact hout.cell j
  have HC := cexpr_any hrd (fun b hb => by rw [hz2]; exact hb.2) uIn_size uIn_form
  rw [uIn_can] at HC
  replace HC := Lib.hid HC
  have HWa := Lib.hid (HW0.out.trans (hb2.mono HW0.out.size))
  have HAa := Lib.hid (HA0.out.later hb2)
  have HBa := Lib.hid (HB0.out.later hb2)
  clear hb1 hb2 hin hout hz2 hrd
  go_wp2_with fail
  refine HC.out.mono ?_
  rintro e w3 ⟨v3, rfl, r3, c3⟩
  have HW3 := Lib.hid (HWa.out.trans (c3.mono HWa.out.size))
  have HA3 := Lib.hid (HAa.out.later c3)
  have HB3 := Lib.hid (HBa.out.later c3)
  obtain ⟨q3, d3, hv3, _, _⟩ := r3.form
  have hv3' : v3 = .agg #[.int .i64 3, .string ⟨#[]⟩, .string ⟨#[]⟩, .slice q3 2 d3] := hv3
  subst hv3'
  clear hv3
  have R3 : Hid (∀ W, Below w3.heap.size w3 W → RdE (fun b => b < w3.heap.size) W uAB (.agg #[.int .i64 3, .string ⟨#[]⟩, .string ⟨#[]⟩, .slice q3 2 d3])) := fun W hW => (r3.imp (Q := fun b => b < w3.heap.size) fun b hb => hb.2).below hW (fun b hb => hb)
  have HR3 : Hid (Arr (w3.alloc (.cells #[.int .i64 3, .string ⟨#[]⟩, .string ⟨#[]⟩, .slice q3 2 d3] 24)) 24 w3.heap.size [.int .i64 3, .string ⟨#[]⟩, .string ⟨#[]⟩, .slice q3 2 d3]) := Arr.new' w3 _ _ _ rfl
  have hb4 : Below w3.heap.size w3 (w3.alloc (.cells #[.int .i64 3, .string ⟨#[]⟩, .string ⟨#[]⟩, .slice q3 2 d3] 24)) := (Below.refl _ _).alloc (Nat.le_refl _) _
  have HX4 := Lib.hid hb4
  have HA4 := Lib.hid (HA3.out.later hb4)
  have HB4 := Lib.hid (HB3.out.later hb4)
  have HW4 := Lib.hid (HW3.out.trans (hb4.mono HW3.out.size))
  clear hb4 a0 a1 a2 a3 b0 b1 b2 b3 HC HWa HAa HBa c3 r3 HW3 HA3 HB3 HA0 HB0 HW0
  go_upto_region 4 with fail
  generalize w3.alloc (.cells #[.int .i64 3, .string ⟨#[]⟩, .string ⟨#[]⟩, .slice q3 2 d3] 24) = w4 at HR3 HX4 HA4 HB4 HW4 ⊢
  have a0 := HA4.out.cell 0
  have a1 := HA4.out.cell 1
  have a2 := HA4.out.cell 2
  have a3 := HA4.out.cell 3
  simp only [List.getElem?_cons_zero, List.getElem?_cons_succ] at a0 a1 a2 a3
  have hb5 : Below w4.heap.size w4 (w4.alloc (.cells #[.int .i64 1, .string ⟨#[]⟩, .string ⟨#[97]⟩, .slice none 0 0, .int .i64 1, .string ⟨#[]⟩, .string ⟨#[97]⟩, .slice none 0 0] 24)) := (Below.refl _ _).alloc (Nat.le_refl _) _
  have hia : Arr (w4.alloc (.cells #[.int .i64 1, .string ⟨#[]⟩, .string ⟨#[97]⟩, .slice none 0 0, .int .i64 1, .string ⟨#[]⟩, .string ⟨#[97]⟩, .slice none 0 0] 24)) 24 w4.heap.size [.int .i64 1, .string ⟨#[]⟩, .string ⟨#[97]⟩, .slice none 0 0, .int .i64 1, .string ⟨#[]⟩, .string ⟨#[97]⟩, .slice none 0 0] := Arr.new' w4 _ _ _ rfl
  have hz5 : (w4.alloc (.cells #[.int .i64 1, .string ⟨#[]⟩, .string ⟨#[97]⟩, .slice none 0 0, .int .i64 1, .string ⟨#[]⟩, .string ⟨#[97]⟩, .slice none 0 0] 24)).heap.size = w4.heap.size + 1 := by simp
  have hrd : RdE (Bt w4.heap.size (w4.heap.size + 1)) (w4.alloc (.cells #[.int .i64 1, .string ⟨#[]⟩, .string ⟨#[97]⟩, .slice none 0 0, .int .i64 1, .string ⟨#[]⟩, .string ⟨#[97]⟩, .slice none 0 0] 24)) iAA (.agg #[.int .i64 4, .string ⟨#[]⟩, .string ⟨#[]⟩, .slice (some ⟨w4.heap.size, 0, none⟩) 2 2]) := by
    unfold iAA RdE
    refine ⟨_, _, rfl, Nat.le_refl _, fun _ => ⟨w4.heap.size, 0, rfl, ⟨by omega, by omega⟩, ?_⟩⟩
    exact CellsL.rdL (cs := [.int .i64 1, .string ⟨#[]⟩, .string ⟨#[97]⟩, .slice none 0 0, .int .i64 1, .string ⟨#[]⟩, .string ⟨#[97]⟩, .slice none 0 0]) ⟨rdA _ _ _ _, rdA _ _ _ _, trivial⟩ fun j u hj => by rw [Nat.zero_add, ← hj]; exact hia.cell j
  have HC := cexpr_any hrd (fun b hb => by rw [hz5]; exact hb.2) iAA_size iAA_form
  rw [iAA_can] at HC
  replace HC := Lib.hid HC
  have HXa := Lib.hid (HX4.out.trans (hb5.mono HX4.out.size))
  have HRa := Lib.hid (HR3.out.later hb5)
  have HAa := Lib.hid (HA4.out.later hb5)
  have HBa := Lib.hid (HB4.out.later hb5)
  have HWa := Lib.hid (HW4.out.trans (hb5.mono HW4.out.size))
  clear hb5 hia hz5 hrd HX4 HR3 HA4 HB4 HW4
  go_wp2_with fail
  refine HC.out.mono ?_
  rintro e w5 ⟨v5, rfl, r5, c5⟩
  obtain ⟨q5, d5, hv5, _, _⟩ := r5.form
  have hv5' : v5 = .agg #[.int .i64 1, .string ⟨#[]⟩, .string ⟨#[97]⟩, .slice q5 0 d5] := hv5
  subst hv5'
  clear hv5
  have hb6 : Below w5.heap.size w5 (w5.alloc (.cells #[.int .i64 1, .string ⟨#[]⟩, .string ⟨#[97]⟩, .slice q5 0 d5] 24)) := (Below.refl _ _).alloc (Nat.le_refl _) _
  have cc := c5.trans (hb6.mono c5.size)
  have HF5 : Hid (Arr (w5.alloc (.cells #[.int .i64 1, .string ⟨#[]⟩, .string ⟨#[97]⟩, .slice q5 0 d5] 24)) 24 w5.heap.size [.int .i64 1, .string ⟨#[]⟩, .string ⟨#[97]⟩, .slice q5 0 d5]) := Arr.new' w5 _ _ _ rfl
  have HX6 := Lib.hid (HXa.out.trans (cc.mono HXa.out.size))
  have HR6 := Lib.hid (HRa.out.later cc)
  have HA6 := Lib.hid (HAa.out.later cc)
  have HB6 := Lib.hid (HBa.out.later cc)
  have HW6 := Lib.hid (HWa.out.trans (cc.mono HWa.out.size))
  clear hb6 cc c5 r5 HXa HRa HAa HBa HWa HC a0 a1 a2 a3
  go_upto_region 5 with fail
  generalize w5.alloc (.cells #[.int .i64 1, .string ⟨#[]⟩, .string ⟨#[97]⟩, .slice q5 0 d5] 24) = w6 at HF5 HX6 HR6 HA6 HB6 HW6 ⊢
  have hb7 : Below w6.heap.size w6 (w6.alloc (.cells #[.string ⟨#[98]⟩, .slice none 0 0, .string ⟨#[97]⟩, .slice none 0 0] 36)) := (Below.refl _ _).alloc (Nat.le_refl _) _
  have hda : Arr (w6.alloc (.cells #[.string ⟨#[98]⟩, .slice none 0 0, .string ⟨#[97]⟩, .slice none 0 0] 36)) 36 w6.heap.size [.string ⟨#[98]⟩, .slice none 0 0, .string ⟨#[97]⟩, .slice none 0 0] := Arr.new' w6 _ _ _ rfl
  have hdr : DR (w6.alloc (.cells #[.string ⟨#[98]⟩, .slice none 0 0, .string ⟨#[97]⟩, .slice none 0 0] 36)) w6.heap.size ⟨#[98]⟩ ⟨#[97]⟩ := ⟨hda.lt, ⟨hda.cell 0, hda.cell 1, hda.cell 2, hda.cell 3⟩, fun j => hda.free j⟩
  have HC := Lib.hid (csch2 (c := 2) hdr)
  have HXa := Lib.hid (HX6.out.trans (hb7.mono HX6.out.size))
  have HRa := Lib.hid (HR6.out.later hb7)
  have HFa := Lib.hid (HF5.out.later hb7)
  have HAa := Lib.hid (HA6.out.later hb7)
  have HBa := Lib.hid (HB6.out.later hb7)
  have HWa := Lib.hid (HW6.out.trans (hb7.mono HW6.out.size))
  clear hb7 hda hdr HX6 HR6 HF5 HA6 HB6 HW6
  go_wp2_with fail
  refine HC.out.mono ?_
  rintro e w7 ⟨g, c, rfl, _, hs, c7⟩
  unfold SD at hs
  rw [if_pos ord_ab] at hs
  have hb8 : Below w7.heap.size w7 (w7.alloc (.cells #[.slice (some ⟨g, 0, none⟩) 2 c] 32)) := (Below.refl _ _).alloc (Nat.le_refl _) _
  have cc := c7.trans (hb8.mono c7.size)
  have HS8 : Hid (Arr (w7.alloc (.cells #[.slice (some ⟨g, 0, none⟩) 2 c] 32)) 32 w7.heap.size [.slice (some ⟨g, 0, none⟩) 2 c]) := Arr.new' w7 _ _ _ rfl
  have HD8 := Lib.hid (hs.later hb8)
  have HX8 := Lib.hid (HXa.out.trans (cc.mono HXa.out.size))
  have HR8 := Lib.hid (HRa.out.later cc)
  have HF8 := Lib.hid (HFa.out.later cc)
  have HA8 := Lib.hid (HAa.out.later cc)
  have HB8 := Lib.hid (HBa.out.later cc)
  have HW8 := Lib.hid (HWa.out.trans (cc.mono HWa.out.size))
  clear hb8 cc c7 hs HXa HRa HFa HAa HBa HWa HC
  go_upto_region 6 with fail
  generalize w7.alloc (.cells #[.slice (some ⟨g, 0, none⟩) 2 c] 32) = w8 at HS8 HD8 HX8 HR8 HF8 HA8 HB8 HW8 ⊢
  have s0 := HS8.out.cell 0
  have a0 := HA8.out.cell 0
  have a1 := HA8.out.cell 1
  have a2 := HA8.out.cell 2
  have a3 := HA8.out.cell 3
  have b0 := HB8.out.cell 0
  have b1 := HB8.out.cell 1
  have b2 := HB8.out.cell 2
  have b3 := HB8.out.cell 3
  have r0 := HR8.out.cell 0
  have r1 := HR8.out.cell 1
  have r2 := HR8.out.cell 2
  have r3 := HR8.out.cell 3
  simp only [List.getElem?_cons_zero, List.getElem?_cons_succ] at s0 a0 a1 a2 a3 b0 b1 b2 b3 r0 r1 r2 r3
  have hb9 : Below w8.heap.size w8 (w8.alloc (.cells #[.int .i64 1, .string ⟨#[]⟩, .string ⟨#[97]⟩, .slice none 0 0, .int .i64 1, .string ⟨#[]⟩, .string ⟨#[98]⟩, .slice none 0 0] 24)) := (Below.refl _ _).alloc (Nat.le_refl _) _
  have hi9 : Arr (w8.alloc (.cells #[.int .i64 1, .string ⟨#[]⟩, .string ⟨#[97]⟩, .slice none 0 0, .int .i64 1, .string ⟨#[]⟩, .string ⟨#[98]⟩, .slice none 0 0] 24)) 24 w8.heap.size [.int .i64 1, .string ⟨#[]⟩, .string ⟨#[97]⟩, .slice none 0 0, .int .i64 1, .string ⟨#[]⟩, .string ⟨#[98]⟩, .slice none 0 0] := Arr.new' w8 _ _ _ rfl
  have HC := rcompare_any (sizeE uAB) uAB uAB _ _ _ (fun b => b = w8.heap.size) (w8.alloc (.cells #[.int .i64 1, .string ⟨#[]⟩, .string ⟨#[97]⟩, .slice none 0 0, .int .i64 1, .string ⟨#[]⟩, .string ⟨#[98]⟩, .slice none 0 0] 24)) (Nat.le_refl _) uAB_size uAB_size uAB_ok uAB_ok (R3.out _ (HX8.out.trans (hb9.mono HX8.out.size))) (rdUAB hi9 rfl) (fun b hb => Nat.lt_of_lt_of_le hb (HX8.out.trans (hb9.mono HX8.out.size)).size) (fun b hb => by rw [hb]; simp)
  rw [cmpE_self] at HC
  replace HC := Lib.hid HC
  have HXa := Lib.hid (HX8.out.trans (hb9.mono HX8.out.size))
  have HFa := Lib.hid (HF8.out.later hb9)
  have HAa := Lib.hid (HA8.out.later hb9)
  have HSa := Lib.hid (HS8.out.later hb9)
  have HDa := Lib.hid (HD8.out.later hb9)
  have HWa := Lib.hid (HW8.out.trans (hb9.mono HW8.out.size))
  clear hb9 hi9 HX8 HR8 HF8 HA8 HB8 HW8 HS8 HD8 R3
  go_wp2_with fail
  refine HC.out.mono ?_
  rintro e w9 ⟨rfl, c9⟩
  have HF9 := Lib.hid (HFa.out.later c9)
  have HA9 := Lib.hid (HAa.out.later c9)
  have HS9 := Lib.hid (HSa.out.later c9)
  have HD9 := Lib.hid (HDa.out.later c9)
  have HW9 := Lib.hid (HWa.out.trans (c9.mono HWa.out.size))
  clear c9 HXa HFa HAa HSa HDa HWa HC s0 a0 a1 a2 a3 b0 b1 b2 b3 r0 r1 r2 r3
  have HC := rcompare_any (sizeE lA) lA lA _ _ (fun _ => False) (fun _ => False) w9 (Nat.le_refl _) lA_size lA_size lA_ok lA_ok (rdA _ _ q5 d5) (rdA _ _ none 0) (fun b hb => hb.elim) (fun b hb => hb.elim)
  rw [cmpE_self] at HC
  replace HC := Lib.hid HC
  have HRF := Lib.hid HF9.out.range
  have HRA := Lib.hid HA9.out.range
  go_wp2_with (first
    | ((with_reducible refine loadEG (x := .tmp 4) (o := ⟨some 38, _, _, _, _, _⟩) HRF.out ?_ ?_); exact ⟨rfl, rfl, by rfl⟩)
    | ((with_reducible refine loadEG (x := .tmp 1) (o := ⟨some 39, _, _, _, _, _⟩) HRA.out ?_ ?_); exact ⟨rfl, rfl, by rfl⟩))
  refine HC.out.mono ?_
  rintro e w10 ⟨rfl, c10⟩
  have HS10 := Lib.hid (HS9.out.later c10)
  have HD10 := Lib.hid (HD9.out.later c10)
  have HW10 := Lib.hid (HW9.out.trans (c10.mono HW9.out.size))
  clear c10 HF9 HA9 HS9 HD9 HW9 HC HRF HRA
  have s0 := HS10.out.cell 0
  have k0 := HD10.out.2.1.1
  simp only [List.getElem?_cons_zero] at s0
  have HC := Lib.hid (is2 (c := c) HD10.out ord_ba)
  have HRS := Lib.hid HS10.out.range
  go_wp2_with ((with_reducible refine loadSG (x := .tmp 5) (o := ⟨some 52, _, _, _, _, _⟩) HRS.out ?_ ?_); exact ⟨rfl, rfl, by rfl⟩)
  refine HC.out.mono ?_
  rintro e w11 ⟨rfl, c11⟩
  have HW11 := Lib.hid (HW10.out.trans (c11.mono HW10.out.size))
  clear c11 HS10 HD10 HW10 HC HRS s0 k0
  have hb12 : Below w11.heap.size w11 (w11.alloc (.cells #[.string ⟨#[98]⟩, .string ⟨#[]⟩, .string ⟨#[98]⟩, .string ⟨#[]⟩] 41)) := (Below.refl _ _).alloc (Nat.le_refl _) _
  have hi12 : (w11.alloc (.cells #[.string ⟨#[98]⟩, .string ⟨#[]⟩, .string ⟨#[98]⟩, .string ⟨#[]⟩] 41)).rangeAt w11.heap.size 0 ([(⟨#[98]⟩, ⟨#[]⟩), ((⟨#[98]⟩, ⟨#[]⟩) : Yl)].flatMap yenc) := (Arr.new' w11 41 #[.string ⟨#[98]⟩, .string ⟨#[]⟩, .string ⟨#[98]⟩, .string ⟨#[]⟩] [.string ⟨#[98]⟩, .string ⟨#[]⟩, .string ⟨#[98]⟩, .string ⟨#[]⟩] rfl).range
  have HC := ctypes_any (c := 2) hi12 (by simp) (by decide)
  rw [bb_one] at HC
  replace HC := Lib.hid HC
  have HWa := Lib.hid (HW11.out.trans (hb12.mono HW11.out.size))
  clear hb12 hi12 HW11
  go_wp2_with fail
  refine HC.out.mono ?_
  rintro e w12 ⟨g2, c2, rfl, _, _, _, c12, _⟩
  have HW12 := Lib.hid (HWa.out.trans (c12.mono HWa.out.size))
  clear c12 HWa HC
  go_wp2_with fail
  go_ret
  exact ⟨rfl, HW12.out⟩
end Go.Proofs.YtdnmgemjhpkekaaGreat
/-
  vestrylaw15.CanonExprs.
-/
namespace Go.Proofs.YtdnmgemjhpkekaaGreat
open Go.ChangeShapes Go.WideShapes Go.ChangeAt Go.RowKit
set_option linter.unusedVariables false

/-- The expression that came in, and the cell that it was put in. -/
def SR (w : World) (k : Int) (xv xn : List UInt8) (ks : List Ex) (q : Option Addr) (c : Nat) (W : World) : Prop :=
  Arr W 24 w.heap.size [.int .i64 k, .string (bstr xv), .string (bstr xn), .slice q ks.length c] ∧ RdE (fun b => b < w.heap.size) W (.mk k xv xn ks) (.agg #[.int .i64 k, .string (bstr xv), .string (bstr xn), .slice q ks.length c]) ∧ Below w.heap.size w W
theorem SR.later {w W W' : World} {k : Int} {xv xn : List UInt8} {ks : List Ex} {q : Option Addr} {c : Nat} (h : SR w k xv xn ks q c W) (hb : Below W.heap.size W W') : SR w k xv xn ks q c W' :=
  ⟨h.1.later hb, h.2.1.below hb fun b hb => Nat.lt_of_lt_of_le hb h.2.2.size, h.2.2.trans (hb.mono h.2.2.size)⟩
theorem SR.lt {w W : World} {k : Int} {xv xn : List UInt8} {ks : List Ex} {q : Option Addr} {c : Nat} (h : SR w k xv xn ks q c W) : ∀ b, b < w.heap.size → b < W.heap.size := fun b hb => Nat.lt_of_lt_of_le hb h.2.2.size
theorem SR.start {w : World} {k : Int} {xv xn : List UInt8} {ks : List Ex} {q : Option Addr} {c : Nat} (h : RdE (fun b => b < w.heap.size) w (.mk k xv xn ks) (.agg #[.int .i64 k, .string (bstr xv), .string (bstr xn), .slice q ks.length c])) : SR w k xv xn ks q c (w.alloc (.cells #[.int .i64 k, .string (bstr xv), .string (bstr xn), .slice q ks.length c] 24)) := by
  have hb : Below w.heap.size w (w.alloc (.cells #[.int .i64 k, .string (bstr xv), .string (bstr xn), .slice q ks.length c] 24)) := (Below.refl _ _).alloc (Nat.le_refl _) _
  exact ⟨Arr.new' _ _ _ _ rfl, h.below hb fun _ h => h, hb⟩
theorem few15 {e : Ex} (h : cntE 31 e ≤ 150) : sizeE e ≤ 150 ∧ okE 100000 e := by
  obtain ⟨h1, h2, _⟩ := cntE_few 31 e (by omega)
  exact ⟨by omega, h2⟩
set_option maxRecDepth 100000 in
set_option maxHeartbeats 8000000 in
theorem celaw_any (e : Ex) (v : Value) (w : World) (ho : okE bigM e) (h : RdE (fun b => b < w.heap.size) w e v) : Calls Tryz.prog 3 #[v] w fun r w' => r = .returned (.bool true) ∧ Below w.heap.size w w' := by
  obtain ⟨q, c, rfl, _, _⟩ := h.form
  obtain ⟨k, xv, xn, ks⟩ := e
  unfold exv at h ⊢
  show Calls _ _ #[.agg #[.int .i64 k, .string (bstr xv), .string (bstr xn), .slice q ks.length c]] _ _
  have HS : Hid (SR w k xv xn ks q c (w.alloc (.cells #[.int .i64 k, .string (bstr xv), .string (bstr xn), .slice q ks.length c] 24))) := SR.start h
  have HO := Lib.hid ho
  clear ho h
  go_enter Tryz.func3, Tryz.ntmps3
  go_wp2_with fail
  generalize w.alloc (.cells #[.int .i64 k, .string (bstr xv), .string (bstr xn), .slice q ks.length c] 24) = w0 at HS ⊢
  refine (awake_any w0).mono ?_
  rintro r w1 ⟨rfl, b1⟩
  have HS1 := Lib.hid (HS.out.later b1)
  have z0 := HS1.out.1.cell 0
  have z1 := HS1.out.1.cell 1
  have z2 := HS1.out.1.cell 2
  have z3 := HS1.out.1.cell 3
  simp only [List.getElem?_cons_zero, List.getElem?_cons_succ] at z0 z1 z2 z3
  have HFC := Lib.hid (few_any _ _ _ w1 HO.out HS1.out.2.1 HS1.out.lt)
  obtain ⟨fw, hfw⟩ : ∃ f, f = decide (cntE 31 (.mk k xv xn ks) ≤ 150) := ⟨_, rfl⟩
  rw [← hfw] at HFC
  have HFW := Lib.hid hfw
  clear b1 HS hfw
  go_wp2_with fail
  refine HFC.out.mono ?_
  rintro r w2 ⟨rfl, b2⟩
  have HS2 := Lib.hid (HS1.out.later b2)
  clear b2 HFC HS1 z0 z1 z2 z3
  cases fw with
  | false =>
    go_wp2_with fail
    refine (awake_any w2).mono ?_
    rintro r w3 ⟨rfl, b3⟩
    have HB := Lib.hid (HS2.out.later b3).2.2
    clear b3
    go_wp2_with fail
    go_ret
    exact ⟨rfl, HB.out⟩
  | true =>
    have HF := Lib.hid (few15 (of_decide_eq_true HFW.out.symm))
    obtain ⟨R, hR⟩ : ∃ R, R = rightE (.mk k xv xn ks) := ⟨_, rfl⟩
    have HR := Lib.hid hR
    clear hR
    have z0 := HS2.out.1.cell 0
    have z1 := HS2.out.1.cell 1
    have z2 := HS2.out.1.cell 2
    have z3 := HS2.out.1.cell 3
    simp only [List.getElem?_cons_zero, List.getElem?_cons_succ] at z0 z1 z2 z3
    have HRC := Lib.hid (rRight_any _ _ _ w2 HF.out.2 (Nat.le_trans HF.out.1 (by decide)) HS2.out.2.1 HS2.out.lt)
    rw [← HR.out] at HRC
    go_wp2_with fail
    refine HRC.out.mono ?_
    rintro r w3 ⟨rfl, b3⟩
    have HS3 := Lib.hid (HS2.out.later b3)
    clear b3 HRC HS2 z0 z1 z2 z3
    cases R with
    | false =>
      go_wp2_with fail
      refine (awake_any w3).mono ?_
      rintro r w4 ⟨rfl, b4⟩
      have HB := Lib.hid (HS3.out.later b4).2.2
      clear b4
      go_wp2_with fail
      go_ret
      exact ⟨rfl, HB.out⟩
    | true =>
      have z0 := HS3.out.1.cell 0
      have z1 := HS3.out.1.cell 1
      have z2 := HS3.out.1.cell 2
      have z3 := HS3.out.1.cell 3
      simp only [List.getElem?_cons_zero, List.getElem?_cons_succ] at z0 z1 z2 z3
      have HFO := Lib.hid (right_all HR.out.symm).1
      have HCE := Lib.hid (cexpr_any HS3.out.2.1 HS3.out.lt (Nat.le_trans HF.out.1 (by decide)) HFO.out)
      have hy1 := canE_right ordX HR.out.symm
      have hy2 := canE_size (.mk k xv xn ks)
      have hy3 := canE_okE _ HF.out.2
      obtain ⟨Y, hY⟩ : ∃ Y, Y = canE cmpE (.mk k xv xn ks) := ⟨_, rfl⟩
      rw [← hY] at HCE hy1 hy2 hy3
      have HYE := Lib.hid hY
      have HY1 := Lib.hid hy1
      have HY2 := Lib.hid (Nat.le_trans hy2 HF.out.1)
      have HY3 := Lib.hid hy3
      clear hY hy1 hy2 hy3
      go_wp2_with fail
      refine HCE.out.mono ?_
      rintro r w4 ⟨v4, rfl, r4, b4⟩
      have HS4 := Lib.hid (HS3.out.later b4)
      obtain ⟨yk, yv, yn, ys⟩ := Y
      have HR4 := Lib.hid r4
      obtain ⟨q4, c4, rfl, _, _⟩ := r4.form
      unfold exv at HR4 ⊢
      dsimp only [Ex.kind, Ex.via, Ex.nm, Ex.kids] at HR4 ⊢
      have HRE4 := Lib.hid HS4.out.2.1
      have ba5 : Below w4.heap.size w4 (w4.alloc (.cells #[.int .i64 yk, .string (bstr yv), .string (bstr yn), .slice q4 ys.length c4] 24)) := (Below.refl _ _).alloc (Nat.le_refl _) _
      have HC5 : Hid (Arr (w4.alloc (.cells #[.int .i64 yk, .string (bstr yv), .string (bstr yn), .slice q4 ys.length c4] 24)) 24 w4.heap.size [.int .i64 yk, .string (bstr yv), .string (bstr yn), .slice q4 ys.length c4]) := Arr.new' _ _ _ _ rfl
      have HS5 := Lib.hid (HS4.out.later ba5)
      have HE5 := Lib.hid HS5.out.1
      have HLC : Hid (w4.heap.size < (w4.alloc (.cells #[.int .i64 yk, .string (bstr yv), .string (bstr yn), .slice q4 ys.length c4] 24)).heap.size) := by show _ < _; simp
      have HLE : Hid (w.heap.size < (w4.alloc (.cells #[.int .i64 yk, .string (bstr yv), .string (bstr yn), .slice q4 ys.length c4] 24)).heap.size) := by show _ < _; have := HS4.out.2.2.size; simp; omega
      have HYR : Hid (RdE (fun b => b < (w4.alloc (.cells #[.int .i64 yk, .string (bstr yv), .string (bstr yn), .slice q4 ys.length c4] 24)).heap.size) (w4.alloc (.cells #[.int .i64 yk, .string (bstr yv), .string (bstr yn), .slice q4 ys.length c4] 24)) (Ex.mk yk yv yn ys) (.agg #[.int .i64 yk, .string (bstr yv), .string (bstr yn), .slice q4 ys.length c4])) := (HR4.out.below ba5 fun b hb => hb.2).imp fun b hb => Nat.lt_of_lt_of_le hb.2 ba5.size
      have HER : Hid (RdE (fun b => b < (w4.alloc (.cells #[.int .i64 yk, .string (bstr yv), .string (bstr yn), .slice q4 ys.length c4] 24)).heap.size) (w4.alloc (.cells #[.int .i64 yk, .string (bstr yv), .string (bstr yn), .slice q4 ys.length c4] 24)) (Ex.mk k xv xn ks) (.agg #[.int .i64 k, .string (bstr xv), .string (bstr xn), .slice q ks.length c])) := HS5.out.2.1.imp fun b hb => HS5.out.lt b hb
      have HFE := Lib.hid (right_all HY1.out.1).1
      have HSL := Lib.hid cmpE_self
      clear b4 r4 HCE HS3 z0 z1 z2 z3 ba5 HS4 HR4 HRE4 HFW HR
      go_wp2_with fail
      generalize w4.alloc (.cells #[.int .i64 yk, .string (bstr yv), .string (bstr yn), .slice q4 ys.length c4] 24) = w5 at HC5 HS5 HE5 HLC HLE HYR HER ⊢
      generalize w4.heap.size = cb at HC5 HLC ⊢
      have AYR : ∀ W, Below w5.heap.size w5 W → RdE (fun b => b < W.heap.size) W (Ex.mk yk yv yn ys) (.agg #[.int .i64 yk, .string (bstr yv), .string (bstr yn), .slice q4 ys.length c4]) := fun W hW => (HYR.out.below hW fun b hb => hb).imp fun b hb => Nat.lt_of_lt_of_le hb hW.size
      have AER : ∀ W, Below w5.heap.size w5 W → RdE (fun b => b < W.heap.size) W (Ex.mk k xv xn ks) (.agg #[.int .i64 k, .string (bstr xv), .string (bstr xn), .slice q ks.length c]) := fun W hW => (HER.out.below hW fun b hb => hb).imp fun b hb => Nat.lt_of_lt_of_le hb hW.size
      have HAY := Lib.hid AYR
      have HAE := Lib.hid AER
      clear AYR AER
      refine wp_region_noPanic ?_
      refine wp_region_held_drew (S := Below w5.heap.size w5) (by kernel_rfl) ((Below.refl _ _).drew) (fun hHeld => ?_)
      try simp only [Act.put]
      generalize w5.drew = wd at hHeld ⊢
      refine wpAnyH_take (i := 0) (oi := ⟨some 19, _, _, _, _, _⟩) (v := (.agg #[.int .i64 yk, .string (bstr yv), .string (bstr yn), .slice q4 ys.length c4])) rfl (by kernel_rfl) (by kernel_rfl) (by kernel_rfl) (fun _ _ _ h => h) (.inl ⟨by rfl, fun w' hSw => ?_⟩) hHeld ?_
      focus (have z0 := (HC5.out.below hSw HLC.out).cell 0; have z1 := (HC5.out.below hSw HLC.out).cell 1; have z2 := (HC5.out.below hSw HLC.out).cell 2; have z3 := (HC5.out.below hSw HLC.out).cell 3; simp only [List.getElem?_cons_zero, List.getElem?_cons_succ] at z0 z1 z2 z3; clear hHeld; go_simp)
      try simp only [Act.put, List.setIfInBounds_toArray, List.set_cons_zero, List.set_cons_succ]
      refine wpAnyH_take (i := 1) (oi := ⟨some 20, _, _, _, _, _⟩) (v := (.agg #[.int .i64 k, .string (bstr xv), .string (bstr xn), .slice q ks.length c])) rfl (by kernel_rfl) (by kernel_rfl) (by kernel_rfl) (fun _ _ _ h => h) (.inl ⟨by rfl, fun w' hSw => ?_⟩) hHeld ?_
      focus (have z0 := (HE5.out.below hSw HLE.out).cell 0; have z1 := (HE5.out.below hSw HLE.out).cell 1; have z2 := (HE5.out.below hSw HLE.out).cell 2; have z3 := (HE5.out.below hSw HLE.out).cell 3; simp only [List.getElem?_cons_zero, List.getElem?_cons_succ] at z0 z1 z2 z3; clear hHeld; go_simp)
      try simp only [Act.put, List.setIfInBounds_toArray, List.set_cons_zero, List.set_cons_succ]
      refine wpAnyH_ready (rs := [2]) (by kernel_rfl) (by simp) ?_
      refine AllReadyH.cons (o := ⟨some 21, _, _, _, _, _⟩) rfl (fun K' hK' => ?_) AllReadyH.nil
      refine stepw_call (R := fun v w'' => RdE (fun b => b < w''.heap.size) w'' (Ex.mk yk yv yn ys) v ∧ Below w5.heap.size w5 w'') (by rfl) ?_ ((rexpr_any _ (Ex.mk k xv xn ks) _ _ _ (Nat.le_refl _) (Nat.le_trans HF.out.1 (by decide)) HF.out.2 (HAE.out _ hHeld) (fun b hb => hb)).mono fun e w'' ⟨v', h1, r1, b1⟩ => ⟨v', h1, by rw [HYE.out]; exact r1.imp fun b hb => hb.2, hHeld.trans (b1.mono hHeld.size)⟩) ?_
      focus go_simp
      rintro v21 w21 ⟨h21, hkn⟩
      refine hK'.out _ _ hkn (fun _ => ?_)
      clear hK' K' hHeld
      have hHeld := hkn
      clear hkn
      try simp only [Act.put, List.setIfInBounds_toArray, List.set_cons_zero, List.set_cons_succ]
      have H21 := Lib.hid h21
      clear h21
      refine wpAnyH_ready (rs := [3]) (by kernel_rfl) (by simp) ?_
      refine AllReadyH.cons (o := ⟨some 22, _, _, _, _, _⟩) rfl (fun K' hK' => ?_) AllReadyH.nil
      refine stepw_call (R := fun v w'' => v = .int .i64 0 ∧ Below w5.heap.size w5 w'') (by rfl) ?_ ((rcompare_any _ (Ex.mk yk yv yn ys) (Ex.mk yk yv yn ys) _ _ _ _ _ (Nat.le_refl _) (Nat.le_trans HY2.out (by decide)) (Nat.le_trans HY2.out (by decide)) HY3.out HY3.out (HAY.out _ hHeld) H21.out (fun b hb => hb) (fun b hb => hb)).mono fun e w'' ⟨h1, b1⟩ => ⟨_, h1, by rw [HSL.out], hHeld.trans (b1.mono hHeld.size)⟩) ?_
      focus go_simp
      rintro v w22 ⟨rfl, hkn⟩
      refine hK'.out _ _ hkn (fun _ => ?_)
      clear hK' K' hHeld
      have hHeld := hkn
      clear hkn
      try simp only [Act.put, List.setIfInBounds_toArray, List.set_cons_zero, List.set_cons_succ]
      refine wpAnyH_take (i := 4) (oi := ⟨some 23, _, _, _, _, _⟩) (v := .bool true) rfl (by kernel_rfl) (by kernel_rfl) (by kernel_rfl) (fun _ _ _ h => h) (.inl ⟨by rfl, fun w' hSw => ?_⟩) hHeld ?_
      focus (skip; clear hHeld; go_simp)
      try simp only [Act.put, List.setIfInBounds_toArray, List.set_cons_zero, List.set_cons_succ]
      refine wpAnyH_take (i := 5) (oi := ⟨some 24, _, _, _, _, _⟩) (v := .bool true) rfl (by kernel_rfl) (by kernel_rfl) (by kernel_rfl) (fun _ _ _ h => h) (.inl ⟨by rfl, fun w' hSw => ?_⟩) hHeld ?_
      focus (skip; clear hHeld; go_simp)
      try simp only [Act.put, List.setIfInBounds_toArray, List.set_cons_zero, List.set_cons_succ]
      refine wpAnyH_take (i := 6) (oi := ⟨some 25, _, _, _, _, _⟩) (v := (.agg #[.int .i64 yk, .string (bstr yv), .string (bstr yn), .slice q4 ys.length c4])) rfl (by kernel_rfl) (by kernel_rfl) (by kernel_rfl) (fun _ _ _ h => h) (.inl ⟨by rfl, fun w' hSw => ?_⟩) hHeld ?_
      focus (have z0 := (HC5.out.below hSw HLC.out).cell 0; have z1 := (HC5.out.below hSw HLC.out).cell 1; have z2 := (HC5.out.below hSw HLC.out).cell 2; have z3 := (HC5.out.below hSw HLC.out).cell 3; simp only [List.getElem?_cons_zero, List.getElem?_cons_succ] at z0 z1 z2 z3; clear hHeld; go_simp)
      try simp only [Act.put, List.setIfInBounds_toArray, List.set_cons_zero, List.set_cons_succ]
      refine wpAnyH_take (i := 8) (oi := ⟨some 27, _, _, _, _, _⟩) (v := (.agg #[.int .i64 yk, .string (bstr yv), .string (bstr yn), .slice q4 ys.length c4])) rfl (by kernel_rfl) (by kernel_rfl) (by kernel_rfl) (fun _ _ _ h => h) (.inl ⟨by rfl, fun w' hSw => ?_⟩) hHeld ?_
      focus (have z0 := (HC5.out.below hSw HLC.out).cell 0; have z1 := (HC5.out.below hSw HLC.out).cell 1; have z2 := (HC5.out.below hSw HLC.out).cell 2; have z3 := (HC5.out.below hSw HLC.out).cell 3; simp only [List.getElem?_cons_zero, List.getElem?_cons_succ] at z0 z1 z2 z3; clear hHeld; go_simp)
      try simp only [Act.put, List.setIfInBounds_toArray, List.set_cons_zero, List.set_cons_succ]
      refine wpAnyH_ready (rs := [7]) (by kernel_rfl) (by simp) ?_
      refine AllReadyH.cons (o := ⟨some 26, _, _, _, _, _⟩) rfl (fun K' hK' => ?_) AllReadyH.nil
      refine stepw_call (R := fun v w'' => RdE (fun b => b < w''.heap.size) w'' (Ex.mk yk yv yn ys) v ∧ Below w5.heap.size w5 w'') (by rfl) ?_ ((cexpr_any (HAY.out _ hHeld) (fun b hb => hb) (Nat.le_trans HY2.out (by decide)) HFE.out).mono fun e w'' ⟨v', h1, r1, b1⟩ => ⟨v', h1, by rw [HY1.out.2.2] at r1; exact r1.imp fun b hb => hb.2, hHeld.trans (b1.mono hHeld.size)⟩) ?_
      focus go_simp
      rintro v26 w26 ⟨h26, hkn⟩
      refine hK'.out _ _ hkn (fun _ => ?_)
      clear hK' K' hHeld
      have hHeld := hkn
      clear hkn
      try simp only [Act.put, List.setIfInBounds_toArray, List.set_cons_zero, List.set_cons_succ]
      have H26 := Lib.hid h26
      clear h26
      refine wpAnyH_ready (rs := [9]) (by kernel_rfl) (by simp) ?_
      refine AllReadyH.cons (o := ⟨some 28, _, _, _, _, _⟩) rfl (fun K' hK' => ?_) AllReadyH.nil
      refine stepw_call (R := fun v w'' => v = .int .i64 0 ∧ Below w5.heap.size w5 w'') (by rfl) ?_ ((rcompare_any _ (Ex.mk yk yv yn ys) (Ex.mk yk yv yn ys) _ _ _ _ _ (Nat.le_refl _) (Nat.le_trans HY2.out (by decide)) (Nat.le_trans HY2.out (by decide)) HY3.out HY3.out H26.out (HAY.out _ hHeld) (fun b hb => hb) (fun b hb => hb)).mono fun e w'' ⟨h1, b1⟩ => ⟨_, h1, by rw [HSL.out], hHeld.trans (b1.mono hHeld.size)⟩) ?_
      focus go_simp
      rintro v w28 ⟨rfl, hkn⟩
      refine hK'.out _ _ hkn (fun _ => ?_)
      clear hK' K' hHeld
      have hHeld := hkn
      clear hkn
      try simp only [Act.put, List.setIfInBounds_toArray, List.set_cons_zero, List.set_cons_succ]
      refine wpAnyH_take (i := 10) (oi := ⟨some 29, _, _, _, _, _⟩) (v := .bool true) rfl (by kernel_rfl) (by kernel_rfl) (by kernel_rfl) (fun _ _ _ h => h) (.inl ⟨by rfl, fun w' hSw => ?_⟩) hHeld ?_
      focus (skip; clear hHeld; go_simp)
      try simp only [Act.put, List.setIfInBounds_toArray, List.set_cons_zero, List.set_cons_succ]
      refine wpAnyH_take (i := 11) (oi := ⟨some 30, _, _, _, _, _⟩) (v := .bool true) rfl (by kernel_rfl) (by kernel_rfl) (by kernel_rfl) (fun _ _ _ h => h) (.inl ⟨by rfl, fun w' hSw => ?_⟩) hHeld ?_
      focus (skip; clear hHeld; go_simp)
      try simp only [Act.put, List.setIfInBounds_toArray, List.set_cons_zero, List.set_cons_succ]
      refine wpAnyH_take (i := 12) (oi := ⟨some 31, _, _, _, _, _⟩) (v := .bool true) rfl (by kernel_rfl) (by kernel_rfl) (by kernel_rfl) (fun _ _ _ h => h) (.inl ⟨by rfl, fun w' hSw => ?_⟩) hHeld ?_
      focus (skip; clear hHeld; go_simp)
      try simp only [Act.put, List.setIfInBounds_toArray, List.set_cons_zero, List.set_cons_succ]
      refine wpAnyH_take (i := 13) (oi := ⟨some 32, _, _, _, _, _⟩) (v := (.agg #[.int .i64 yk, .string (bstr yv), .string (bstr yn), .slice q4 ys.length c4])) rfl (by kernel_rfl) (by kernel_rfl) (by kernel_rfl) (fun _ _ _ h => h) (.inl ⟨by rfl, fun w' hSw => ?_⟩) hHeld ?_
      focus (have z0 := (HC5.out.below hSw HLC.out).cell 0; have z1 := (HC5.out.below hSw HLC.out).cell 1; have z2 := (HC5.out.below hSw HLC.out).cell 2; have z3 := (HC5.out.below hSw HLC.out).cell 3; simp only [List.getElem?_cons_zero, List.getElem?_cons_succ] at z0 z1 z2 z3; clear hHeld; go_simp)
      try simp only [Act.put, List.setIfInBounds_toArray, List.set_cons_zero, List.set_cons_succ]
      refine wpAnyH_ready (rs := [14]) (by kernel_rfl) (by simp) ?_
      refine AllReadyH.cons (o := ⟨some 33, _, _, _, _, _⟩) rfl (fun K' hK' => ?_) AllReadyH.nil
      refine stepw_call (R := fun v w'' => v = .bool true ∧ Below w5.heap.size w5 w'') (by rfl) ?_ ((rRight_any (Ex.mk yk yv yn ys) _ _ _ HY3.out (Nat.le_trans HY2.out (by decide)) (HAY.out _ hHeld) (fun b hb => hb)).mono fun e w'' ⟨h1, b1⟩ => ⟨_, h1, by rw [HY1.out.1], hHeld.trans (b1.mono hHeld.size)⟩) ?_
      focus go_simp
      rintro v w33 ⟨rfl, hkn⟩
      refine hK'.out _ _ hkn (fun _ => ?_)
      clear hK' K' hHeld
      have hHeld := hkn
      clear hkn
      try simp only [Act.put, List.setIfInBounds_toArray, List.set_cons_zero, List.set_cons_succ]
      refine wpAnyH_take (i := 15) (oi := ⟨some 34, _, _, _, _, _⟩) (v := .bool true) rfl (by kernel_rfl) (by kernel_rfl) (by kernel_rfl) (fun _ _ _ h => h) (.inl ⟨by rfl, fun w' hSw => ?_⟩) hHeld ?_
      focus (skip; clear hHeld; go_simp)
      try simp only [Act.put, List.setIfInBounds_toArray, List.set_cons_zero, List.set_cons_succ]
      refine wpAnyH_take (i := 16) (oi := ⟨some 35, _, _, _, _, _⟩) (v := .bool true) rfl (by kernel_rfl) (by kernel_rfl) (by kernel_rfl) (fun _ _ _ h => h) (.inl ⟨by rfl, fun w' hSw => ?_⟩) hHeld ?_
      focus (skip; clear hHeld; go_simp)
      try simp only [Act.put, List.setIfInBounds_toArray, List.set_cons_zero, List.set_cons_succ]
      refine wpAnyH_take (i := 17) (oi := ⟨some 36, _, _, _, _, _⟩) (v := (.agg #[.int .i64 yk, .string (bstr yv), .string (bstr yn), .slice q4 ys.length c4])) rfl (by kernel_rfl) (by kernel_rfl) (by kernel_rfl) (fun _ _ _ h => h) (.inl ⟨by rfl, fun w' hSw => ?_⟩) hHeld ?_
      focus (have z0 := (HC5.out.below hSw HLC.out).cell 0; have z1 := (HC5.out.below hSw HLC.out).cell 1; have z2 := (HC5.out.below hSw HLC.out).cell 2; have z3 := (HC5.out.below hSw HLC.out).cell 3; simp only [List.getElem?_cons_zero, List.getElem?_cons_succ] at z0 z1 z2 z3; clear hHeld; go_simp)
      try simp only [Act.put, List.setIfInBounds_toArray, List.set_cons_zero, List.set_cons_succ]
      refine wpAnyH_take (i := 19) (oi := ⟨some 38, _, _, _, _, _⟩) (v := (.agg #[.int .i64 k, .string (bstr xv), .string (bstr xn), .slice q ks.length c])) rfl (by kernel_rfl) (by kernel_rfl) (by kernel_rfl) (fun _ _ _ h => h) (.inl ⟨by rfl, fun w' hSw => ?_⟩) hHeld ?_
      focus (have z0 := (HE5.out.below hSw HLE.out).cell 0; have z1 := (HE5.out.below hSw HLE.out).cell 1; have z2 := (HE5.out.below hSw HLE.out).cell 2; have z3 := (HE5.out.below hSw HLE.out).cell 3; simp only [List.getElem?_cons_zero, List.getElem?_cons_succ] at z0 z1 z2 z3; clear hHeld; go_simp)
      try simp only [Act.put, List.setIfInBounds_toArray, List.set_cons_zero, List.set_cons_succ]
      refine wpAnyH_ready (rs := [18]) (by kernel_rfl) (by simp) ?_
      refine AllReadyH.cons (o := ⟨some 37, _, _, _, _, _⟩) rfl (fun K' hK' => ?_) AllReadyH.nil
      refine stepw_call (R := fun v w'' => v = .int .i64 (depthE (Ex.mk yk yv yn ys) : Nat) ∧ Below w5.heap.size w5 w'') (by rfl) ?_ ((rdepth_any _ (Ex.mk yk yv yn ys) _ _ _ (Nat.le_refl _) (Nat.le_trans HY2.out (by decide)) (HAY.out _ hHeld) (fun b hb => hb)).mono fun e w'' ⟨h1, b1⟩ => ⟨_, h1, rfl, hHeld.trans (b1.mono hHeld.size)⟩) ?_
      focus go_simp
      rintro v w37 ⟨rfl, hkn⟩
      refine hK'.out _ _ hkn (fun _ => ?_)
      clear hK' K' hHeld
      have hHeld := hkn
      clear hkn
      try simp only [Act.put, List.setIfInBounds_toArray, List.set_cons_zero, List.set_cons_succ]
      refine wpAnyH_ready (rs := [20]) (by kernel_rfl) (by simp) ?_
      refine AllReadyH.cons (o := ⟨some 39, _, _, _, _, _⟩) rfl (fun K' hK' => ?_) AllReadyH.nil
      refine stepw_call (R := fun v w'' => v = .int .i64 (depthE (Ex.mk k xv xn ks) : Nat) ∧ Below w5.heap.size w5 w'') (by rfl) ?_ ((rdepth_any _ (Ex.mk k xv xn ks) _ _ _ (Nat.le_refl _) (Nat.le_trans HF.out.1 (by decide)) (HAE.out _ hHeld) (fun b hb => hb)).mono fun e w'' ⟨h1, b1⟩ => ⟨_, h1, rfl, hHeld.trans (b1.mono hHeld.size)⟩) ?_
      focus go_simp
      rintro v w39 ⟨rfl, hkn⟩
      refine hK'.out _ _ hkn (fun _ => ?_)
      clear hK' K' hHeld
      have hHeld := hkn
      clear hkn
      try simp only [Act.put, List.setIfInBounds_toArray, List.set_cons_zero, List.set_cons_succ]
      refine wpAnyH_take (i := 21) (oi := ⟨some 40, _, _, _, _, _⟩) (v := .bool true) rfl (by kernel_rfl) (by kernel_rfl) (by kernel_rfl) (fun _ _ _ h => h) (.inl ⟨by rfl, fun w' hSw => ?_⟩) hHeld ?_
      focus (have hle : ((depthE (Ex.mk yk yv yn ys) : Nat) : Int) ≤ (depthE (Ex.mk k xv xn ks) : Nat) := Int.ofNat_le.2 HY1.out.2.1; clear hHeld; go_simp)
      try simp only [Act.put, List.setIfInBounds_toArray, List.set_cons_zero, List.set_cons_succ]
      refine wpAnyH_take (i := 22) (oi := ⟨some 41, _, _, _, _, _⟩) (v := .bool true) rfl (by kernel_rfl) (by kernel_rfl) (by kernel_rfl) (fun _ _ _ h => h) (.inl ⟨by rfl, fun w' hSw => ?_⟩) hHeld ?_
      focus (skip; clear hHeld; go_simp)
      try simp only [Act.put, List.setIfInBounds_toArray, List.set_cons_zero, List.set_cons_succ]
      refine wpAnyH_take (i := 23) (oi := ⟨some 2, _, _, _, _, _⟩) (v := .bool true) rfl (by kernel_rfl) (by kernel_rfl) (by kernel_rfl) (fun _ _ _ h => h) (.inl ⟨by rfl, fun w' hSw => ?_⟩) hHeld ?_
      focus (skip; clear hHeld; go_simp)
      try simp only [Act.put, List.setIfInBounds_toArray, List.set_cons_zero, List.set_cons_succ]
      refine wpAnyH_done (by kernel_rfl) ?_ _
      refine NoPanic.normal ?_
      have HBZ := Lib.hid (HS5.out.2.2.trans (hHeld.mono HS5.out.2.2.size))
      clear hHeld
      go_wp2_with fail
      go_ret
      exact ⟨rfl, HBZ.out⟩
end Go.Proofs.YtdnmgemjhpkekaaGreat
