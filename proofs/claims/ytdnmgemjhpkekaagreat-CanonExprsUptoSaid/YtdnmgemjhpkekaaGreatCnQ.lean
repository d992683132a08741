/-
  The reference's Expr.
-/
import Derived.Test.YtdnmgemjhpkekaaGreatCnP
namespace Go.Proofs.YtdnmgemjhpkekaaGreat
open Go.ChangeShapes Go.WideShapes Go.ChangeAt Go.RowKit
set_option linter.unusedVariables false
set_option linter.unusedSectionVars false
set_option linter.unusedSimpArgs false

theorem RdV.keep {P : Nat → Prop} {w w' : World} {v : Value} {l : List Ex} (h : RdV P w v l) (hk : ∀ b, P b → ∀ n, w'.cell? ⟨b, n, none⟩ = w.cell? ⟨b, n, none⟩) : RdV P w' v l := by
  obtain ⟨q, c, rfl, hc, h⟩ := h
  refine ⟨q, c, rfl, hc, fun h0 => ?_⟩
  obtain ⟨b, o, h1, h2, h3⟩ := h h0
  exact ⟨b, o, h1, h2, h3.keep hk h2⟩
theorem RdV.imp {P Q : Nat → Prop} {w : World} {v : Value} {l : List Ex} (h : RdV P w v l) (hk : ∀ b, P b → Q b) : RdV Q w v l := by
  obtain ⟨q, c, rfl, hc, h⟩ := h
  refine ⟨q, c, rfl, hc, fun h0 => ?_⟩
  obtain ⟨b, o, h1, h2, h3⟩ := h h0
  exact ⟨b, o, h1, hk _ h2, h3.imp hk⟩
theorem LR.rdV {P : Nat → Prop} {base : Nat} {w : World} {v : Value} {l : List Ex} (h : LR P base w v l) : RdV (fun b => P b ∨ (base ≤ b ∧ b < w.heap.size)) w v l := by
  obtain ⟨q, c, rfl⟩ := h.form
  have h' : LvRow P base w (.slice q l.length c) l := h
  obtain ⟨_, hc, h3⟩ := h'.rdL
  refine ⟨q, c, rfl, hc, fun h0 => ?_⟩
  obtain ⟨b, h1, h2, h4, h5⟩ := h3 h0
  exact ⟨b, 0, h1, .inr ⟨h2, h4⟩, h5.imp fun b hb => .inl hb⟩
/-- A slice of expressions read in the blocks from a bound on. -/
def RdN (B : Nat) (w : World) (v : Value) (l : List Ex) : Prop := RdV (Bt B w.heap.size) w v l
theorem RdN.later {B : Nat} {w w' : World} {v : Value} {l : List Ex} (h : RdN B w v l) (hb : Below w.heap.size w w') : RdN B w' v l :=
  (RdV.keep h (cells_below hb fun b hb => hb.2)).imp fun b h => ⟨h.1, Nat.lt_of_lt_of_le h.2 hb.size⟩
theorem RdN.set {B : Nat} {w : World} {v : Value} {l : List Ex} (h : RdN B w v l) {a : Addr} (ha : a.block < B) (x : Value) : RdN B (w.setCell a x) v l := by
  have hs : (w.setCell a x).heap.size = w.heap.size := by simp [World.setCell]
  refine (RdV.keep h fun b hb n => World.cell?_of_block (Below.heap_setCell _ a _ b (by have := hb.1; omega))).imp fun b h => ⟨h.1, by rw [hs]; exact h.2⟩
theorem okL_all {M : Nat} : ∀ {l : List Ex}, (∀ x ∈ l, okE M x) → okL M l
  | [], _ => by unfold okL; trivial
  | e :: r, h => by unfold okL; exact ⟨h e (by simp), okL_all fun x hx => h x (by simp [hx])⟩
theorem okL_mem {M : Nat} : ∀ {l : List Ex}, okL M l → ∀ x ∈ l, okE M x
  | [], _, x, h => by simp at h
  | e :: r, hc, x, h => by
    unfold okL at hc
    rcases List.mem_cons.1 h with rfl | h
    · exact hc.1
    · exact okL_mem hc.2 x h
theorem okE_kids {M : Nat} {x : Ex} (h : okE M x) : okL M x.kids := by
  obtain ⟨k, v, n, ks⟩ := x
  unfold okE at h
  exact h.2.2
theorem flat_ok {M : Nat} {k : Int} {l : List Ex} (h : ∀ x ∈ l, okE M x) : ∀ x ∈ flatK k l, okE M x := by
  intro x hx
  obtain ⟨y, hy, hxy⟩ := flat_mem.1 hx
  by_cases hk : y.kind = k
  · rw [if_pos hk] at hxy; exact okL_mem (okE_kids (h y hy)) x hxy
  · rw [if_neg hk] at hxy; rw [hxy]; exact h y hy
theorem fin_ok {M : Nat} {k : Int} {v n : List UInt8} {ks : List Ex} (hv : v.length ≤ M) (hn : n.length ≤ M) (h : ∀ x ∈ ks, okE M x) : okE M (finE cmpE k v n ks) := by
  have hs : ∀ x ∈ sortedO cmpE (flatK k ks), okE M x := fun x hx => flat_ok h x ((sorted_memO ordX _ x).1 hx)
  by_cases hk : k = 3 ∨ k = 4
  · by_cases h1 : (sortedO cmpE (flatK k ks)).length = 1
    · obtain ⟨y, hy⟩ : ∃ y, sortedO cmpE (flatK k ks) = [y] := by
        match sortedO cmpE (flatK k ks), h1 with
        | [y], _ => exact ⟨y, rfl⟩
      rw [fin_one hk hy]
      exact hs y (by rw [hy]; simp)
    · rw [fin_many hk h1]
      unfold okE
      exact ⟨hv, hn, okL_all hs⟩
  · rw [fin_other hk]
    unfold okE
    exact ⟨hv, hn, okL_all h⟩
mutual
theorem canE_okE {M : Nat} : ∀ e : Ex, okE M e → okE M (canE cmpE e)
  | .mk k v n ks, h => by
    unfold okE at h
    rw [canE_mk]
    exact fin_ok h.1 h.2.1 (canL_okL ks h.2.2)
theorem canL_okL {M : Nat} : ∀ l : List Ex, okL M l → ∀ x ∈ canL cmpE l, okE M x
  | [], _, x, h => by simp [canL] at h
  | e :: r, hc, x, h => by
    unfold okL at hc
    rw [canL] at h
    rcases List.mem_cons.1 h with rfl | h
    · exact canE_okE e hc.1
    · exact canL_okL r hc.2 x h
end
theorem okL_take {M : Nat} {l : List Ex} (h : okL M l) (i : Nat) : okL M (l.take i) := okL_all fun x hx => okL_mem h x (List.mem_of_mem_take hx)
theorem sortedO_snoc (l : List Ex) (x : Ex) : sortedO cmpE (l ++ [x]) = put1O cmpE x (sortedO cmpE l) := srtO_snoc x l []
/-- What the walk keeps: the parameter, the result's cell, the cell of what is made. -/
def CB (w : World) (A B : List Value) (W : World) : Prop :=
  Arr W 24 w.heap.size A ∧ Arr W 24 (w.heap.size + 1) [.int .i64 0, .string ByteArray.empty, .string ByteArray.empty, .slice none 0 0] ∧ Arr W 24 (w.heap.size + 1 + 1) B ∧ Below w.heap.size w W ∧ w.heap.size + 3 ≤ W.heap.size
theorem CB.later {w W W' : World} {A B : List Value} (h : CB w A B W) (hb : Below W.heap.size W W') : CB w A B W' :=
  ⟨h.1.later hb, h.2.1.later hb, h.2.2.1.later hb, h.2.2.2.1.trans (hb.mono h.2.2.2.1.size), Nat.le_trans h.2.2.2.2 hb.size⟩
theorem CB.store {w W W' : World} {A : List Value} {a b c v : Value} (h : CB w A [a, b, c, v] W) (hb : Below (w.heap.size + 3) W W') (v' : Value) : CB w A [a, b, c, v'] (W'.setCell ⟨w.heap.size + 1 + 1, 3, none⟩ v') :=
  ⟨(h.1.below hb (by omega)).setCell (by simp; omega) _, (h.2.1.below hb (by omega)).setCell (by simp) _, (h.2.2.1.below hb (by omega)).set 3 v', (h.2.2.2.1.trans (hb.mono (by omega))).setCell (p := ⟨w.heap.size + 1 + 1, 3, none⟩) (by simp; omega) _, by simpa [World.setCell] using Nat.le_trans h.2.2.2.2 hb.size⟩

set_option maxRecDepth 100000 in
set_option maxHeartbeats 8000000 in
theorem rexpr_other (n : Nat) (HIH : Hid (∀ (e : Ex) (v : Value) (P : Nat → Prop) (w : World), sizeE e ≤ n → sizeE e ≤ 400000 → okE 100000 e → RdE P w e v → (∀ b, P b → b < w.heap.size) → Calls Tryz.prog 9 #[v] w (ClPost (canE cmpE e) w)))
    {P : Nat → Prop} {w : World} {k : Int} (hk : ¬ (k = 3 ∨ k = 4)) {xv xn : List UInt8} {ks : List Ex} {q : Option Addr} {c : Nat} (hks : sizeL ks ≤ n) (hkm : sizeL ks ≤ 400000) (hok : okL 100000 ks) (hP : ∀ b, P b → b < w.heap.size) (HK : Hid (0 < ks.length → ∃ b o, q = some ⟨b, o, none⟩ ∧ P b ∧ RdL P w ks b o)) :
    Calls Tryz.prog 9 #[.agg #[.int .i64 k, .string (bstr xv), .string (bstr xn), .slice q ks.length c]] w (ClPost (finE cmpE k xv xn (canL cmpE ks)) w) := by
  have hlen := sizeL_len ks
  have HOK := Lib.hid hok
  clear hok
  have HFO := Lib.hid (fin_other (o := cmpE) (v := xv) (n := xn) (ks := canL cmpE ks) hk)
  have hk3 : ¬ k = 3 := fun e => hk (.inl e)
  have hk4 : ¬ k = 4 := fun e => hk (.inr e)
  have hb3 : (k != 3) = true := bne_iff_ne.2 hk3
  have hb4 : (k != 4) = true := bne_iff_ne.2 hk4
  have hc3 : (k == 3) = false := by simpa using hk3
  have hc4 : (k == 4) = false := by simpa using hk4
  clear hk
  have H0 : Hid (CB w [.int .i64 k, .string (bstr xv), .string (bstr xn), .slice q ks.length c] [.int .i64 k, .string (bstr xv), .string (bstr xn), .slice none 0 0] (((w.alloc (.cells #[.int .i64 k, .string (bstr xv), .string (bstr xn), .slice q ks.length c] 24)).alloc (.cells #[.int .i64 0, .string ByteArray.empty, .string ByteArray.empty, .slice none 0 0] 24)).alloc (.cells #[.int .i64 k, .string (bstr xv), .string (bstr xn), .slice none 0 0] 24))) :=
    ⟨((Arr.new' w _ _ _ rfl).alloc _).alloc _, (Arr.new2 w _ _ _ _ rfl).alloc _, by have := Arr.new3 w (.cells #[.int .i64 k, .string (bstr xv), .string (bstr xn), .slice q ks.length c] 24) (.cells #[.int .i64 0, .string ByteArray.empty, .string ByteArray.empty, .slice none 0 0] 24) 24 #[.int .i64 k, .string (bstr xv), .string (bstr xn), .slice none 0 0] [.int .i64 k, .string (bstr xv), .string (bstr xn), .slice none 0 0] rfl; exact this, (((Below.refl _ _).alloc (Nat.le_refl _) _).alloc (by simp) _).alloc (by simp; omega) _, by simp⟩
  go_enter Tryz.func9, Tryz.ntmps9
  go_wp2_with fail
  go_loopg [4] ks.length (fun g s4 wr => ∃ (i : Nat) (v : Value), i ≤ ks.length ∧ ks.length - i ≤ g ∧ s4 = .int .i64 i ∧ CB w [.int .i64 k, .string (bstr xv), .string (bstr xn), .slice q ks.length c] [.int .i64 k, .string (bstr xv), .string (bstr xn), v] wr ∧ ExRow (w.heap.size + 3) wr v (canL cmpE (ks.take i)))
  case atStart => exact ⟨0, _, Nat.zero_le _, by omega, rfl, H0.out, ExRow.nil _ _⟩
  case round =>
    clear H0
    obtain ⟨i, v, hi, hg, rfl, hB, hR⟩ := hrel
    have HB := Lib.hid hB
    have HR := Lib.hid hR
    have HI := Lib.hid hB.2.2.2.1
    obtain ⟨qv, cv, rfl⟩ : ∃ q c, v = .slice q (canL cmpE (ks.take i)).length c := hR.form
    clear hB hR
    by_cases hlt : i < ks.length
    · have hi1 : (i : Int) < ks.length := by omega
      obtain ⟨ba, oa, rfl, hba, hl⟩ := HK.out (by omega)
      obtain ⟨x, hx⟩ : ∃ x, x = ks.getD i ex0 := ⟨_, rfl⟩
      obtain ⟨q2, c2, x0, x1, x2, x3, hr⟩ := hl.at hlt
      have hxs := sizeL_get ks i hlt
      have hxo := okL_get HOK.out hlt
      have hcs : canL cmpE (ks.take (i + 1)) = canL cmpE (ks.take i) ++ [canE cmpE (ks.getD i ex0)] := by rw [take_snocE hlt, canL_snoc]
      rw [← hx] at x0 x1 x2 x3 hr hxs hxo hcs
      have hys := canE_size x
      have hyo := canE_okE x hxo
      obtain ⟨Y, hY⟩ : ∃ Y, Y = canE cmpE x := ⟨_, rfl⟩
      have HIC0 : ∀ (v : Value) (P : Nat → Prop) (w : World), RdE P w x v → (∀ b, P b → b < w.heap.size) → Calls Tryz.prog 9 #[v] w (ClPost Y w) := fun v P w h1 h2 => by rw [hY]; exact HIH.out x v P w (by omega) (by omega) hxo h1 h2
      rw [← hY] at hcs hys hyo
      have HCS := Lib.hid hcs
      have HYO := Lib.hid hyo
      obtain ⟨xk, xv2, xn2, xs⟩ := x
      unfold exv at hr
      dsimp only [Ex.kind, Ex.via, Ex.nm, Ex.kids] at x0 x1 x2 x3 hr
      have hwk : wrap64 ((i : Int) + 1) = (i : Int) + 1 := by unfold wrap64; omega
      have hwk2 : wrap64 ((i : Int) + 1) = ((i + 1 : Nat) : Int) := by rw [hwk]; rfl
      have cc : ∀ n, wr.cell? ⟨ba, n, none⟩ = w.cell? ⟨ba, n, none⟩ := fun n => (HI.out).cell (p := ⟨ba, n, none⟩) (hP _ hba)
      have X0 : wr.cell? ⟨ba, oa + i * 4, none⟩ = some (.int .i64 xk) := (cc _).trans x0
      have X1 : wr.cell? ⟨ba, oa + i * 4 + 1, none⟩ = some (.string (bstr xv2)) := (cc _).trans x1
      have X2 : wr.cell? ⟨ba, oa + i * 4 + 2, none⟩ = some (.string (bstr xn2)) := (cc _).trans x2
      have X3 : wr.cell? ⟨ba, oa + i * 4 + 3, none⟩ = some (.slice q2 xs.length c2) := (cc _).trans x3
      have HIC := Lib.hid (HIC0 _ P wr (hr.below HI.out hP) (fun b hb => Nat.lt_of_lt_of_le (hP b hb) HI.out.size))
      have a3 := HB.out.1.cell 3
      simp only [List.getElem?_cons_zero, List.getElem?_cons_succ] at a3
      clear x0 x1 x2 x3 cc hr hl hcs hyo hY HIC0 hba hx hxo
      go_upto_region 6 with fail
      refine HIC.out.mono ?_
      rintro r w5 ⟨v5, rfl, r5, b5⟩
      have HB5 := Lib.hid (HB.out.later b5)
      have HR5 := Lib.hid (HR.out.later b5)
      obtain ⟨yk, yv, yn, ys⟩ := Y
      have HY5 := Lib.hid r5
      obtain ⟨q5, c5, rfl, hc5, _⟩ := r5.form
      unfold exv at HY5 ⊢
      dsimp only [Ex.kind, Ex.via, Ex.nm, Ex.kids] at HY5 ⊢
      have HLE5 : Hid (w.heap.size + 3 ≤ wr.heap.size) := HB.out.2.2.2.2
      have HBLK : Hid (∀ b, (Value.slice qv (canL cmpE (ks.take i)).length cv).ownBlock = some b → b < wr.heap.size) := fun b h => HR.out.blk h
      clear b5 r5 HIC X0 X1 X2 X3 a3 HB HR HI hc5
      go_upto_region 6 with fail
      have ba6 : Below w5.heap.size w5 (w5.alloc (.cells #[.int .i64 yk, .string (bstr yv), .string (bstr yn), .slice q5 ys.length c5] 24)) := (Below.refl _ _).alloc (Nat.le_refl _) _
      have HK6 : Hid (Arr (w5.alloc (.cells #[.int .i64 yk, .string (bstr yv), .string (bstr yn), .slice q5 ys.length c5] 24)) 24 w5.heap.size [.int .i64 yk, .string (bstr yv), .string (bstr yn), .slice q5 ys.length c5]) := Arr.new' _ _ _ _ rfl
      have HB6 := Lib.hid (HB5.out.later ba6)
      have HR6 := Lib.hid (HR5.out.later ba6)
      have HY6 : Hid (RdE (Bt wr.heap.size w5.heap.size) (w5.alloc (.cells #[.int .i64 yk, .string (bstr yv), .string (bstr yn), .slice q5 ys.length c5] 24)) (.mk yk yv yn ys) (.agg #[.int .i64 yk, .string (bstr yv), .string (bstr yn), .slice q5 ys.length c5])) := HY5.out.below ba6 fun b hb => hb.2
      have HS6 : Hid (w5.heap.size < (w5.alloc (.cells #[.int .i64 yk, .string (bstr yv), .string (bstr yn), .slice q5 ys.length c5] 24)).heap.size) := by show _ < _; simp
      have HW5 : Hid (w.heap.size + 3 ≤ w5.heap.size) := HB5.out.2.2.2.2
      clear ba6 HB5 HR5 HY5
      generalize w5.alloc (.cells #[.int .i64 yk, .string (bstr yv), .string (bstr yn), .slice q5 ys.length c5] 24) = w6 at HK6 HB6 HR6 HY6 HS6 ⊢
      generalize w5.heap.size = kb at HK6 HY6 HS6 HW5 ⊢
      have a0 := HB6.out.1.cell 0
      have o3 := HB6.out.2.2.1.cell 3
      have k0 := HK6.out.cell 0
      have k1 := HK6.out.cell 1
      have k2 := HK6.out.cell 2
      have k3 := HK6.out.cell 3
      simp only [List.getElem?_cons_zero, List.getElem?_cons_succ] at a0 o3 k0 k1 k2 k3
      have ba7 : Below w6.heap.size w6 (w6.alloc (.cells #[.int .i64 yk, .string (bstr yv), .string (bstr yn), .slice q5 ys.length c5] 24)) := (Below.refl _ _).alloc (Nat.le_refl _) _
      have HB7 := Lib.hid (HB6.out.later ba7)
      have HR7 := Lib.hid (HR6.out.later ba7)
      have HA7 : Hid (Arr (w6.alloc (.cells #[.int .i64 yk, .string (bstr yv), .string (bstr yn), .slice q5 ys.length c5] 24)) 24 w6.heap.size [.int .i64 yk, .string (bstr yv), .string (bstr yn), .slice q5 ys.length c5]) := Arr.new' _ _ _ _ rfl
      have HY7 : Hid (RdE (Sub (w.heap.size + 3) (w6.alloc (.cells #[.int .i64 yk, .string (bstr yv), .string (bstr yn), .slice q5 ys.length c5] 24)) (.slice qv (canL cmpE (ks.take i)).length cv)) (w6.alloc (.cells #[.int .i64 yk, .string (bstr yv), .string (bstr yn), .slice q5 ys.length c5] 24)) (.mk yk yv yn ys) (.agg #[.int .i64 yk, .string (bstr yv), .string (bstr yn), .slice q5 ys.length c5])) :=
        (HY6.out.below ba7 fun b hb => Nat.lt_trans hb.2 HS6.out).imp fun b hb => ⟨Nat.le_trans HLE5.out hb.1, Nat.lt_of_lt_of_le (Nat.lt_trans hb.2 HS6.out) ba7.size, fun e => by
          have := HBLK.out b e.symm
          have := hb.1
          omega⟩
      have HL7 : Hid ((canL cmpE (ks.take i)).length + 1 ≤ 1000000) := by show _ ≤ _; rw [canL_len, List.length_take]; omega
      clear ba7 HB6 HR6 HY6
      obtain ⟨m, hm⟩ : ∃ m, m = (canL cmpE (ks.take i)).length := ⟨_, rfl⟩
      go_wp2_with (at_builtin; refine app_ex rfl _ _ rfl (base := w.heap.size + 3) rfl HR7.out rfl HA7.out HY7.out HL7.out HB7.out.2.2.2.2 ?_; intro v8 w8 h8 b8 g8; obtain ⟨q8, m8, c8, rfl⟩ : ∃ q m c, v8 = .slice q m c := (by obtain ⟨q, c, e⟩ := h8.form; exact ⟨q, _, c, e⟩); have p3 := (HB7.out.2.2.1.below b8 (by omega)).free 3; have o8 : w8.cell? ⟨w.heap.size + 1 + 1, 3, none⟩ = some (.slice qv (canL cmpE (ks.take i)).length cv) := (HB7.out.2.2.1.below b8 (by omega)).cell 3)
      have HB8 := Lib.hid (HB7.out.store b8 (.slice q8 m8 c8))
      have HR8 := Lib.hid (h8.set (a := ⟨w.heap.size + 1 + 1, 3, none⟩) (show w.heap.size + 1 + 1 < w.heap.size + 3 by omega) (.slice q8 m8 c8))
      rw [← HCS.out] at HR8
      clear b8 h8 g8 HB7 HR7 HA7 HY7
      go_roundg (ks.length - (i + 1))
      case measure => omega
      case rel => exact ⟨i + 1, _, by omega, Nat.le_refl _, by go_num, HB8.out, HR8.out⟩
    · have hi1 : ¬ (i : Int) < ks.length := by omega
      have HT : Hid (ks.take i = ks) := List.take_of_length_le (by omega)
      rw [HT.out] at HR HB
      obtain ⟨m, hm⟩ : ∃ m, m = (canL cmpE ks).length := ⟨_, rfl⟩
      have HM := Lib.hid hm
      have a0 := HB.out.1.cell 0
      have a3 := HB.out.1.cell 3
      have o0 := HB.out.2.2.1.cell 0
      have o1 := HB.out.2.2.1.cell 1
      have o2 := HB.out.2.2.1.cell 2
      have o3 := HB.out.2.2.1.cell 3
      have r0 := HB.out.2.1.cell 0
      have r1 := HB.out.2.1.cell 1
      have r2 := HB.out.2.1.cell 2
      have r3 := HB.out.2.1.cell 3
      have p0 := HB.out.2.1.free 0
      have p1 := HB.out.2.1.free 1
      have p2 := HB.out.2.1.free 2
      have p3 := HB.out.2.1.free 3
      simp only [List.getElem?_cons_zero, List.getElem?_cons_succ] at a0 a3 o0 o1 o2 o3 r0 r1 r2 r3
      rw [← hm] at HR HB o3
      clear hm
      by_cases h1 : (m : Int) = 1
      · have hm1 : ((m : Int) == 1) = true := by simpa using h1
        go_wp2_with fail
        have hA := HB.out.2.1.set4 (.int .i64 k) (.string (bstr xv)) (.string (bstr xn)) (.slice qv m cv)
        have hBl := below_set4 (g := w.heap.size + 1) HI.out (by omega) (.int .i64 k) (.string (bstr xv)) (.string (bstr xn)) (.slice qv m cv)
        have hE := ExRow.set4 (g := w.heap.size + 1) HR.out (by omega) (.int .i64 k) (.string (bstr xv)) (.string (bstr xn)) (.slice qv m cv)
        refine bodyPost_ret (resE rfl hA rfl) rfl ⟨_, rfl, ?_, hBl⟩
        rw [HFO.out]
        exact (hE.rd k xv xn).imp fun b hb => ⟨by have := hb.1; omega, hb.2⟩
      · have hm1 : ((m : Int) == 1) = false := by simpa using h1
        go_wp2_with fail
        have hA := HB.out.2.1.set4 (.int .i64 k) (.string (bstr xv)) (.string (bstr xn)) (.slice qv m cv)
        have hBl := below_set4 (g := w.heap.size + 1) HI.out (by omega) (.int .i64 k) (.string (bstr xv)) (.string (bstr xn)) (.slice qv m cv)
        have hE := ExRow.set4 (g := w.heap.size + 1) HR.out (by omega) (.int .i64 k) (.string (bstr xv)) (.string (bstr xn)) (.slice qv m cv)
        refine bodyPost_ret (resE rfl hA rfl) rfl ⟨_, rfl, ?_, hBl⟩
        rw [HFO.out]
        exact (hE.rd k xv xn).imp fun b hb => ⟨by have := hb.1; omega, hb.2⟩
set_option maxRecDepth 100000 in
set_option maxHeartbeats 8000000 in
theorem rexpr_three (n : Nat) (HIH : Hid (∀ (e : Ex) (v : Value) (P : Nat → Prop) (w : World), sizeE e ≤ n → sizeE e ≤ 400000 → okE 100000 e → RdE P w e v → (∀ b, P b → b < w.heap.size) → Calls Tryz.prog 9 #[v] w (ClPost (canE cmpE e) w)))
    {P : Nat → Prop} {w : World} {xv xn : List UInt8} {ks : List Ex} {q : Option Addr} {c : Nat} (hks : sizeL ks ≤ n) (hkm : sizeL ks ≤ 400000) (hok : okL 100000 ks) (hP : ∀ b, P b → b < w.heap.size) (HK : Hid (0 < ks.length → ∃ b o, q = some ⟨b, o, none⟩ ∧ P b ∧ RdL P w ks b o)) :
    Calls Tryz.prog 9 #[.agg #[.int .i64 3, .string (bstr xv), .string (bstr xn), .slice q ks.length c]] w (ClPost (finE cmpE 3 xv xn (canL cmpE ks)) w) := by
  have hlen := sizeL_len ks
  have HOK := Lib.hid hok
  clear hok
  have H0 : Hid (CB w [.int .i64 3, .string (bstr xv), .string (bstr xn), .slice q ks.length c] [.int .i64 3, .string (bstr xv), .string (bstr xn), .slice none 0 0] (((w.alloc (.cells #[.int .i64 3, .string (bstr xv), .string (bstr xn), .slice q ks.length c] 24)).alloc (.cells #[.int .i64 0, .string ByteArray.empty, .string ByteArray.empty, .slice none 0 0] 24)).alloc (.cells #[.int .i64 3, .string (bstr xv), .string (bstr xn), .slice none 0 0] 24))) :=
    ⟨((Arr.new' w _ _ _ rfl).alloc _).alloc _, (Arr.new2 w _ _ _ _ rfl).alloc _, by have := Arr.new3 w (.cells #[.int .i64 3, .string (bstr xv), .string (bstr xn), .slice q ks.length c] 24) (.cells #[.int .i64 0, .string ByteArray.empty, .string ByteArray.empty, .slice none 0 0] 24) 24 #[.int .i64 3, .string (bstr xv), .string (bstr xn), .slice none 0 0] [.int .i64 3, .string (bstr xv), .string (bstr xn), .slice none 0 0] rfl; exact this, (((Below.refl _ _).alloc (Nat.le_refl _) _).alloc (by simp) _).alloc (by simp; omega) _, by simp⟩
  go_enter Tryz.func9, Tryz.ntmps9
  go_wp2_with fail
  go_loopg [4] ks.length (fun g s4 wr => ∃ (i : Nat) (v : Value), i ≤ ks.length ∧ ks.length - i ≤ g ∧ s4 = .int .i64 i ∧ CB w [.int .i64 3, .string (bstr xv), .string (bstr xn), .slice q ks.length c] [.int .i64 3, .string (bstr xv), .string (bstr xn), v] wr ∧ RdN (w.heap.size + 3) wr v (sortedO cmpE (flatK 3 (canL cmpE (ks.take i)))))
  case atStart => exact ⟨0, _, Nat.zero_le _, by omega, rfl, H0.out, none, 0, rfl, Nat.le_refl _, fun h => absurd h (Nat.lt_irrefl 0)⟩
  case round =>
    clear H0
    obtain ⟨i, v, hi, hg, rfl, hB, hR⟩ := hrel
    have HB := Lib.hid hB
    have HR := Lib.hid hR
    have HI := Lib.hid hB.2.2.2.1
    obtain ⟨M, hM⟩ : ∃ M, M = flatK 3 (canL cmpE (ks.take i)) := ⟨_, rfl⟩
    rw [← hM] at HR
    have HMM := Lib.hid hM
    clear hM
    obtain ⟨qv, m, cv, rfl⟩ : ∃ q m c, v = .slice q m c := by obtain ⟨q, c, e, _⟩ := hR; exact ⟨q, _, c, e⟩
    clear hB hR
    by_cases hlt : i < ks.length
    · have hi1 : (i : Int) < ks.length := by omega
      obtain ⟨ba, oa, rfl, hba, hl⟩ := HK.out (by omega)
      obtain ⟨x, hx⟩ : ∃ x, x = ks.getD i ex0 := ⟨_, rfl⟩
      obtain ⟨q2, c2, x0, x1, x2, x3, hr⟩ := hl.at hlt
      have hxs := sizeL_get ks i hlt
      have hxo := okL_get HOK.out hlt
      have hcs : canL cmpE (ks.take (i + 1)) = canL cmpE (ks.take i) ++ [canE cmpE (ks.getD i ex0)] := by rw [take_snocE hlt, canL_snoc]
      rw [← hx] at x0 x1 x2 x3 hr hxs hxo hcs
      have hys := canE_size x
      have hyo := canE_okE x hxo
      obtain ⟨Y, hY⟩ : ∃ Y, Y = canE cmpE x := ⟨_, rfl⟩
      have HIC0 : ∀ (v : Value) (P : Nat → Prop) (w : World), RdE P w x v → (∀ b, P b → b < w.heap.size) → Calls Tryz.prog 9 #[v] w (ClPost Y w) := fun v P w h1 h2 => by rw [hY]; exact HIH.out x v P w (by omega) (by omega) hxo h1 h2
      rw [← hY] at hcs hys hyo
      have HCS := Lib.hid hcs
      have HYO := Lib.hid hyo
      have hfm : flatK 3 (canL cmpE (ks.take (i + 1))) = M ++ (if Y.kind = 3 then Y.kids else [Y]) := by rw [hcs, flatK_snoc, HMM.out]
      have hfz : sizeL (flatK 3 (canL cmpE (ks.take (i + 1)))) ≤ 400000 := Nat.le_trans (flat_size _) (Nat.le_trans (canL_size _) (Nat.le_trans (sizeL_take ks (i + 1)) hkm))
      rw [hfm, sizeL_app] at hfz
      have HFM := Lib.hid hfm
      have HFZ := Lib.hid hfz
      have HOM : Hid (∀ x ∈ M, okE 100000 x) := by rw [HMM.out]; exact flat_ok (canL_okL _ (okL_take HOK.out i))
      clear hfm hfz
      obtain ⟨xk, xv2, xn2, xs⟩ := x
      unfold exv at hr
      dsimp only [Ex.kind, Ex.via, Ex.nm, Ex.kids] at x0 x1 x2 x3 hr
      have hwk : wrap64 ((i : Int) + 1) = (i : Int) + 1 := by unfold wrap64; omega
      have hwk2 : wrap64 ((i : Int) + 1) = ((i + 1 : Nat) : Int) := by rw [hwk]; rfl
      have cc : ∀ n, wr.cell? ⟨ba, n, none⟩ = w.cell? ⟨ba, n, none⟩ := fun n => (HI.out).cell (p := ⟨ba, n, none⟩) (hP _ hba)
      have X0 : wr.cell? ⟨ba, oa + i * 4, none⟩ = some (.int .i64 xk) := (cc _).trans x0
      have X1 : wr.cell? ⟨ba, oa + i * 4 + 1, none⟩ = some (.string (bstr xv2)) := (cc _).trans x1
      have X2 : wr.cell? ⟨ba, oa + i * 4 + 2, none⟩ = some (.string (bstr xn2)) := (cc _).trans x2
      have X3 : wr.cell? ⟨ba, oa + i * 4 + 3, none⟩ = some (.slice q2 xs.length c2) := (cc _).trans x3
      have HIC := Lib.hid (HIC0 _ P wr (hr.below HI.out hP) (fun b hb => Nat.lt_of_lt_of_le (hP b hb) HI.out.size))
      have a3 := HB.out.1.cell 3
      simp only [List.getElem?_cons_zero, List.getElem?_cons_succ] at a3
      clear x0 x1 x2 x3 cc hr hl hcs hyo hY HIC0 hba hx hxo
      go_upto_region 6 with fail
      refine HIC.out.mono ?_
      rintro r w5 ⟨v5, rfl, r5, b5⟩
      have HB5 := Lib.hid (HB.out.later b5)
      have HR5 := Lib.hid (HR.out.later b5)
      obtain ⟨yk, yv, yn, ys⟩ := Y
      have HY5 := Lib.hid r5
      obtain ⟨q5, c5, rfl, hc5, _⟩ := r5.form
      unfold exv at HY5 ⊢
      dsimp only [Ex.kind, Ex.via, Ex.nm, Ex.kids] at HY5 ⊢
      have HLE5 : Hid (w.heap.size + 3 ≤ wr.heap.size) := HB.out.2.2.2.2
      clear b5 r5 HIC X0 X1 X2 X3 a3 HB HR HI hc5
      go_upto_region 6 with fail
      have ba6 : Below w5.heap.size w5 (w5.alloc (.cells #[.int .i64 yk, .string (bstr yv), .string (bstr yn), .slice q5 ys.length c5] 24)) := (Below.refl _ _).alloc (Nat.le_refl _) _
      have HK6 : Hid (Arr (w5.alloc (.cells #[.int .i64 yk, .string (bstr yv), .string (bstr yn), .slice q5 ys.length c5] 24)) 24 w5.heap.size [.int .i64 yk, .string (bstr yv), .string (bstr yn), .slice q5 ys.length c5]) := Arr.new' _ _ _ _ rfl
      have HB6 := Lib.hid (HB5.out.later ba6)
      have HR6 := Lib.hid (HR5.out.later ba6)
      have HY6 : Hid (RdE (Bt wr.heap.size w5.heap.size) (w5.alloc (.cells #[.int .i64 yk, .string (bstr yv), .string (bstr yn), .slice q5 ys.length c5] 24)) (.mk yk yv yn ys) (.agg #[.int .i64 yk, .string (bstr yv), .string (bstr yn), .slice q5 ys.length c5])) := HY5.out.below ba6 fun b hb => hb.2
      have HS6 : Hid (w5.heap.size < (w5.alloc (.cells #[.int .i64 yk, .string (bstr yv), .string (bstr yn), .slice q5 ys.length c5] 24)).heap.size) := by show _ < _; simp
      have HW5 : Hid (w.heap.size + 3 ≤ w5.heap.size) := HB5.out.2.2.2.2
      clear ba6 HB5 HR5 HY5
      generalize w5.alloc (.cells #[.int .i64 yk, .string (bstr yv), .string (bstr yn), .slice q5 ys.length c5] 24) = w6 at HK6 HB6 HR6 HY6 HS6 ⊢
      generalize w5.heap.size = kb at HK6 HY6 HS6 HW5 ⊢
      have a0 := HB6.out.1.cell 0
      have o3 := HB6.out.2.2.1.cell 3
      have k0 := HK6.out.cell 0
      have k1 := HK6.out.cell 1
      have k2 := HK6.out.cell 2
      have k3 := HK6.out.cell 3
      simp only [List.getElem?_cons_zero, List.getElem?_cons_succ] at a0 o3 k0 k1 k2 k3
      by_cases hy : yk = 3
      · subst hy
        clear hys hxs
        have HLY := Lib.hid (sizeL_len ys)
        have HYS : Hid (sizeL M + sizeL ys ≤ 400000) := by have h := HFZ.out; rw [if_pos (show (Ex.mk 3 yv yn ys).kind = 3 from rfl)] at h; exact h
        have HFM2 : Hid (flatK 3 (canL cmpE (ks.take (i + 1))) = M ++ ys) := by have h := HFM.out; rw [if_pos (show (Ex.mk 3 yv yn ys).kind = 3 from rfl)] at h; exact h
        have HOY : Hid (okL 100000 ys) := okE_kids HYO.out
        have HE6 : Hid (RdE (Bt (w.heap.size + 3) w6.heap.size) w6 (.mk 3 yv yn ys) (.agg #[.int .i64 3, .string (bstr yv), .string (bstr yn), .slice q5 ys.length c5])) := HY6.out.imp fun b hb => ⟨Nat.le_trans HLE5.out hb.1, Nat.lt_trans hb.2 HS6.out⟩
        clear HY6
        go_wp2_with fail
        clear a0 o3 k0 k1 k2 k3
        go_loopg [6] ys.length (fun g s6 wr => ∃ (j : Nat) (v : Value), j ≤ ys.length ∧ ys.length - j ≤ g ∧ s6 = .int .i64 j ∧ CB w [.int .i64 3, .string (bstr xv), .string (bstr xn), .slice (some ⟨ba, oa, none⟩) ks.length c] [.int .i64 3, .string (bstr xv), .string (bstr xn), v] wr ∧ RdN (w.heap.size + 3) wr v (sortedO cmpE (M ++ ys.take j)) ∧ Arr wr 24 kb [.int .i64 3, .string (bstr yv), .string (bstr yn), .slice q5 ys.length c5] ∧ RdE (Bt (w.heap.size + 3) wr.heap.size) wr (.mk 3 yv yn ys) (.agg #[.int .i64 3, .string (bstr yv), .string (bstr yn), .slice q5 ys.length c5]))
        case atStart => exact ⟨0, _, Nat.zero_le _, by omega, rfl, HB6.out, by rw [List.take_zero, List.append_nil]; exact HR6.out, HK6.out, HE6.out⟩
        case round =>
          clear HB6 HR6 HK6 HE6
          obtain ⟨j, v, hj, hgj, rfl, hB, hR, hKK, hEE⟩ := hrel
          obtain ⟨qv, m, cv, rfl⟩ : ∃ q m c, v = .slice q m c := by obtain ⟨q, c, e, _⟩ := hR; exact ⟨q, _, c, e⟩
          have HB := Lib.hid hB
          have HR := Lib.hid hR
          have HKK := Lib.hid hKK
          have HEE := Lib.hid hEE
          clear hB hR hKK
          have o3 := HB.out.2.2.1.cell 3
          have k3 := HKK.out.cell 3
          simp only [List.getElem?_cons_zero, List.getElem?_cons_succ] at o3 k3
          by_cases hlj : j < ys.length
          · have hj1 : (j : Int) < ys.length := by omega
            have hwj : wrap64 ((j : Int) + 1) = (j : Int) + 1 := by unfold wrap64; have := HYS.out; have := HLY.out; omega
            have hwj2 : wrap64 ((j : Int) + 1) = ((j + 1 : Nat) : Int) := by rw [hwj]; rfl
            obtain ⟨bb, ob, rfl, hbb, hyl⟩ : ∃ b o, q5 = some ⟨b, o, none⟩ ∧ Bt (w.heap.size + 3) wr.heap.size b ∧ RdL (Bt (w.heap.size + 3) wr.heap.size) wr ys b o := by
              have h := hEE
              unfold RdE at h
              obtain ⟨q', c', e, _, h3⟩ := h
              simp only [Value.agg.injEq, Array.mk.injEq, List.cons.injEq, Value.slice.injEq, and_true, true_and] at e
              obtain ⟨rfl, rfl⟩ := e
              exact h3 (Nat.lt_of_le_of_lt (Nat.zero_le j) hlj)
            clear hEE
            have hts : ys.take (j + 1) = ys.take j ++ [ys.getD j ex0] := take_snocE hlj
            obtain ⟨z, hz⟩ : ∃ z, z = ys.getD j ex0 := ⟨_, rfl⟩
            obtain ⟨q2z, c2z, Z0, Z1, Z2, Z3, hrz⟩ := hyl.at hlj
            have hzs := sizeL_get ys j hlj
            have hzo := okL_get HOY.out hlj
            rw [← hz] at Z0 Z1 Z2 Z3 hrz hzs hzo hts
            have HTS := Lib.hid hts
            obtain ⟨zk, zv, zn, zs⟩ := z
            unfold exv at hrz
            dsimp only [Ex.kind, Ex.via, Ex.nm, Ex.kids] at Z0 Z1 Z2 Z3 hrz
            clear hz hts hbb hyl
            have HSZ : Hid (sizeL (sortedO cmpE (M ++ ys.take j)) ≤ 400000) := Nat.le_trans (sorted_size _) (by rw [sizeL_app]; have := HYS.out; have := sizeL_take ys j; omega)
            have HSZ2 : Hid (sizeE (Ex.mk zk zv zn zs) ≤ 900000) := by show _ ≤ _; have := HYS.out; omega
            have HOS : Hid (∀ x ∈ sortedO cmpE (M ++ ys.take j), okE 100000 x) := fun x hx => by
              rcases List.mem_append.1 ((sorted_memO ordX _ x).1 hx) with h | h
              · exact HOM.out x h
              · exact okL_mem HOY.out x (List.mem_of_mem_take h)
            go_upto_region 13 with fail
            refine wp_region_still_tail 7 (by kernel_rfl) (by kernel_rfl) ?_
            simp only [List.take_succ_cons, List.take_zero, List.drop_succ_cons, List.drop_zero]
            repeat still_step
            refine wpStill_nil ?_
            change wpList _ _ _ _ _ wr.drew
            have HBd : Hid (Below wr.heap.size wr wr.drew) := (Below.refl _ _).drew
            have HBe := Lib.hid (HB.out.later HBd.out)
            have HRe := Lib.hid (HR.out.later HBd.out)
            have HKe := Lib.hid (HKK.out.later HBd.out)
            have HEe : Hid (RdE (Bt (w.heap.size + 3) wr.drew.heap.size) wr.drew (.mk 3 yv yn ys) (.agg #[.int .i64 3, .string (bstr yv), .string (bstr yn), .slice (some ⟨bb, ob, none⟩) ys.length c5])) := (HEE.out.below HBd.out fun b hb => hb.2).imp fun b hb => ⟨hb.1, Nat.lt_of_lt_of_le hb.2 HBd.out.size⟩
            have hrze : RdE (Bt (w.heap.size + 3) wr.drew.heap.size) wr.drew (.mk zk zv zn zs) (.agg #[.int .i64 zk, .string (bstr zv), .string (bstr zn), .slice q2z zs.length c2z]) := (hrz.below HBd.out fun b hb => hb.2).imp fun b hb => ⟨hb.1, Nat.lt_of_lt_of_le hb.2 HBd.out.size⟩
            clear HBd HB HR HKK HEE hrz o3 k3 Z0 Z1 Z2 Z3
            generalize wr.drew = wd at HBe HRe HKe HEe hrze ⊢
            have HC := Lib.hid (rput_any (P := Bt (w.heap.size + 3) wd.heap.size) (l := sortedO cmpE (M ++ ys.take j)) (e := Ex.mk zk zv zn zs) HRe.out hrze (fun b hb => hb.2) HSZ.out HSZ2.out HOS.out hzo (sorted_risO ordX _))
            rw [← sortedO_snoc] at HC
            go_wp2_with fail
            refine HC.out.mono ?_
            rintro r w7 ⟨v7, rfl, r7, b7⟩
            have HN7 : Hid (RdN (w.heap.size + 3) w7 v7 (sortedO cmpE ((M ++ ys.take j) ++ [Ex.mk zk zv zn zs]))) := r7.rdV.imp fun b hb => by
              have h0 := HBe.out.2.2.2.2
              have h1 := b7.size
              rcases hb with hb | hb
              · exact ⟨hb.1, Nat.lt_of_lt_of_le hb.2 h1⟩
              · exact ⟨Nat.le_trans h0 hb.1, hb.2⟩
            obtain ⟨q7, m7, c7, rfl⟩ : ∃ q m c, v7 = .slice q m c := by obtain ⟨q, c, e, _⟩ := HN7.out; exact ⟨q, _, c, e⟩
            have p3 := (HBe.out.2.2.1.later b7).free 3
            have o8 := (HBe.out.2.2.1.later b7).cell 3
            simp only [List.getElem?_cons_zero, List.getElem?_cons_succ] at o8
            have HK7 := Lib.hid ((HKe.out.later b7).setCell (a := ⟨w.heap.size + 1 + 1, 3, none⟩) (show kb ≠ w.heap.size + 1 + 1 by have := HW5.out; omega) (.slice q7 m7 c7))
            have hsz7 : (w7.setCell ⟨w.heap.size + 1 + 1, 3, none⟩ (.slice q7 m7 c7)).heap.size = w7.heap.size := by simp [World.setCell]
            have HE7 : Hid (RdE (Bt (w.heap.size + 3) (w7.setCell ⟨w.heap.size + 1 + 1, 3, none⟩ (.slice q7 m7 c7)).heap.size) (w7.setCell ⟨w.heap.size + 1 + 1, 3, none⟩ (.slice q7 m7 c7)) (.mk 3 yv yn ys) (.agg #[.int .i64 3, .string (bstr yv), .string (bstr yn), .slice (some ⟨bb, ob, none⟩) ys.length c5])) := by
              show RdE _ _ _ _
              rw [hsz7]
              refine ((HEe.out.below b7 fun b hb => hb.2).keep fun b hb n => World.cell?_of_block (Below.heap_setCell _ ⟨w.heap.size + 1 + 1, 3, none⟩ _ b ?_)).imp fun b hb => ⟨hb.1, Nat.lt_of_lt_of_le hb.2 b7.size⟩
              have := hb.1
              show b ≠ w.heap.size + 1 + 1
              omega
            have HB8 := Lib.hid (HBe.out.store (b7.mono HBe.out.2.2.2.2) (.slice q7 m7 c7))
            have HR8 := Lib.hid (HN7.out.set (a := ⟨w.heap.size + 1 + 1, 3, none⟩) (show w.heap.size + 1 + 1 < w.heap.size + 3 by omega) (.slice q7 m7 c7))
            rw [List.append_assoc, ← HTS.out] at HR8
            clear hsz7 r7 HN7 HBe HRe HKe HEe HC hrze
            go_wp2_with fail
            go_roundg (ys.length - (j + 1))
            case measure => exact Nat.lt_of_lt_of_le (Nat.sub_lt_sub_left hlj (Nat.lt_succ_self j)) hgj
            case rel => exact ⟨j + 1, _, hlj, Nat.le_refl _, congrArg (Value.int .i64) hwj2, HB8.out, HR8.out, HK7.out, HE7.out⟩
          · have hj1 : ¬ (j : Int) < ys.length := by omega
            have HT : Hid (ys.take j = ys) := List.take_of_length_le (by omega)
            rw [HT.out, ← HFM2.out] at HR
            go_wp2_with fail
            go_roundg (ks.length - (i + 1))
            case measure => exact Nat.lt_of_lt_of_le (Nat.sub_lt_sub_left hlt (Nat.lt_succ_self i)) hg
            case rel => exact ⟨i + 1, _, hlt, Nat.le_refl _, congrArg (Value.int .i64) (show (i : Int) + 1 = ((i + 1 : Nat) : Int) from rfl), HB.out, HR.out⟩
      · have hby : (yk != 3) = true := bne_iff_ne.2 hy
        have HYS : Hid (sizeL M + sizeE (Ex.mk yk yv yn ys) ≤ 400000) := by have h := HFZ.out; rw [if_neg (show ¬ (Ex.mk yk yv yn ys).kind = 3 from hy)] at h; show _ ≤ _; simpa [sizeL] using h
        have HFM2 : Hid (flatK 3 (canL cmpE (ks.take (i + 1))) = M ++ [Ex.mk yk yv yn ys]) := by have h := HFM.out; rw [if_neg (show ¬ (Ex.mk yk yv yn ys).kind = 3 from hy)] at h; exact h
        have HE6 : RdE (Bt (w.heap.size + 3) w6.heap.size) w6 (.mk yk yv yn ys) (.agg #[.int .i64 yk, .string (bstr yv), .string (bstr yn), .slice q5 ys.length c5]) := HY6.out.imp fun b hb => ⟨Nat.le_trans HLE5.out hb.1, Nat.lt_trans hb.2 HS6.out⟩
        clear HY6
        have HSZ : Hid (sizeL (sortedO cmpE M) ≤ 400000) := Nat.le_trans (sorted_size _) (by have := HYS.out; omega)
        have HSZ2 : Hid (sizeE (Ex.mk yk yv yn ys) ≤ 900000) := by show _ ≤ _; have := HYS.out; omega
        have HOS : Hid (∀ x ∈ sortedO cmpE M, okE 100000 x) := fun x hx => HOM.out x ((sorted_memO ordX _ x).1 hx)
        have HC := Lib.hid (rput_any (P := Bt (w.heap.size + 3) w6.heap.size) (l := sortedO cmpE M) (e := Ex.mk yk yv yn ys) HR6.out HE6 (fun b hb => hb.2) HSZ.out HSZ2.out HOS.out HYO.out (sorted_risO ordX _))
        rw [← sortedO_snoc] at HC
        go_wp2_with fail
        refine HC.out.mono ?_
        rintro r w7 ⟨v7, rfl, r7, b7⟩
        have HN7 : Hid (RdN (w.heap.size + 3) w7 v7 (sortedO cmpE (M ++ [Ex.mk yk yv yn ys]))) := r7.rdV.imp fun b hb => by
          have h0 := HB6.out.2.2.2.2
          have h1 := b7.size
          rcases hb with hb | hb
          · exact ⟨hb.1, Nat.lt_of_lt_of_le hb.2 h1⟩
          · exact ⟨Nat.le_trans h0 hb.1, hb.2⟩
        obtain ⟨q7, m7, c7, rfl⟩ : ∃ q m c, v7 = .slice q m c := by obtain ⟨q, c, e, _⟩ := HN7.out; exact ⟨q, _, c, e⟩
        have p3 := (HB6.out.2.2.1.later b7).free 3
        have o8 := (HB6.out.2.2.1.later b7).cell 3
        simp only [List.getElem?_cons_zero, List.getElem?_cons_succ] at o8
        have HB8 := Lib.hid (HB6.out.store (b7.mono HB6.out.2.2.2.2) (.slice q7 m7 c7))
        have HR8 := Lib.hid (HN7.out.set (a := ⟨w.heap.size + 1 + 1, 3, none⟩) (show w.heap.size + 1 + 1 < w.heap.size + 3 by omega) (.slice q7 m7 c7))
        rw [← HFM2.out] at HR8
        clear r7 HN7 HB6 HR6 HC HE6
        go_wp2_with fail
        go_roundg (ks.length - (i + 1))
        case measure => omega
        case rel => exact ⟨i + 1, _, by omega, Nat.le_refl _, by go_num, HB8.out, HR8.out⟩
    · have hi1 : ¬ (i : Int) < ks.length := by omega
      have HT : Hid (ks.take i = ks) := List.take_of_length_le (by omega)
      rw [HT.out] at HMM
      obtain ⟨S, hS⟩ : ∃ S, S = sortedO cmpE M := ⟨_, rfl⟩
      rw [← hS] at HR
      have HSS : Hid (sortedO cmpE (flatK 3 (canL cmpE ks)) = S) := by show _ = _; rw [hS, HMM.out]
      obtain ⟨hml, hcap, hrd⟩ : m = S.length ∧ S.length ≤ cv ∧ (0 < S.length → ∃ b o, qv = some ⟨b, o, none⟩ ∧ Bt (w.heap.size + 3) wr.heap.size b ∧ RdL (Bt (w.heap.size + 3) wr.heap.size) wr S b o) := by
        obtain ⟨q, c, e, hc, h⟩ := HR.out
        simp only [Value.slice.injEq] at e
        obtain ⟨rfl, rfl, rfl⟩ := e
        exact ⟨rfl, hc, h⟩
      have HM := Lib.hid hml
      have a0 := HB.out.1.cell 0
      have a3 := HB.out.1.cell 3
      have o0 := HB.out.2.2.1.cell 0
      have o1 := HB.out.2.2.1.cell 1
      have o2 := HB.out.2.2.1.cell 2
      have o3 := HB.out.2.2.1.cell 3
      have r0 := HB.out.2.1.cell 0
      have r1 := HB.out.2.1.cell 1
      have r2 := HB.out.2.1.cell 2
      have r3 := HB.out.2.1.cell 3
      have p0 := HB.out.2.1.free 0
      have p1 := HB.out.2.1.free 1
      have p2 := HB.out.2.1.free 2
      have p3 := HB.out.2.1.free 3
      simp only [List.getElem?_cons_zero, List.getElem?_cons_succ] at a0 a3 o0 o1 o2 o3 r0 r1 r2 r3
      clear hml hS
      by_cases h1 : (m : Int) = 1
      · have hm1 : ((m : Int) == 1) = true := by simpa using h1
        obtain rfl : m = 1 := by omega
        obtain ⟨y, rfl⟩ : ∃ y, S = [y] := by
          match S, HM.out with
          | [y], _ => exact ⟨y, rfl⟩
        obtain ⟨by_, oy, rfl, hby, hyl⟩ := hrd (by simp)
        obtain ⟨qy, cy, y0, y1, y2, y3, hry⟩ := hyl.at (i := 0) (by simp)
        simp only [List.getD_cons_zero, Nat.zero_mul, Nat.zero_add, Nat.add_zero] at y0 y1 y2 y3 hry
        obtain ⟨yk, yv, yn, ys⟩ := y
        simp only [Ex.kind, Ex.via, Ex.nm, Ex.kids] at y0 y1 y2 y3
        have HRY := Lib.hid hry
        have HFO := Lib.hid (fin_one (o := cmpE) (v := xv) (n := xn) (show ((3 : Int) = 3 ∨ (3 : Int) = 4) by decide) HSS.out)
        clear hry hyl hby
        go_wp2_with fail
        have hA := HB.out.2.1.set4 (.int .i64 yk) (.string (bstr yv)) (.string (bstr yn)) (.slice qy ys.length cy)
        have hBl := below_set4 (g := w.heap.size + 1) HI.out (by omega) (.int .i64 yk) (.string (bstr yv)) (.string (bstr yn)) (.slice qy ys.length cy)
        have hsz5 : ((((wr.setCell ⟨w.heap.size + 1, 0, none⟩ (.int .i64 yk)).setCell ⟨w.heap.size + 1, 1, none⟩ (.string (bstr yv))).setCell ⟨w.heap.size + 1, 2, none⟩ (.string (bstr yn))).setCell ⟨w.heap.size + 1, 3, none⟩ (.slice qy ys.length cy)).heap.size = wr.heap.size := by simp [World.setCell]
        refine bodyPost_ret (resE rfl hA rfl) rfl ⟨_, rfl, ?_, hBl⟩
        rw [HFO.out, hsz5]
        exact (HRY.out.keep fun b hb n => World.cell?_of_block (heap_set4x wr (w.heap.size + 1) _ _ _ _ (b := b) (by have := hb.1; omega))).imp fun b hb => ⟨by have := hb.1; omega, hb.2⟩
      · have hm1 : ((m : Int) == 1) = false := by simpa using h1
        have HFM := Lib.hid (fin_many (o := cmpE) (v := xv) (n := xn) (show ((3 : Int) = 3 ∨ (3 : Int) = 4) by decide) (ks := canL cmpE ks) (by rw [HSS.out]; have := HM.out; omega))
        rw [HSS.out] at HFM
        go_wp2_with fail
        have hA := HB.out.2.1.set4 (.int .i64 3) (.string (bstr xv)) (.string (bstr xn)) (.slice qv m cv)
        have hBl := below_set4 (g := w.heap.size + 1) HI.out (by omega) (.int .i64 3) (.string (bstr xv)) (.string (bstr xn)) (.slice qv m cv)
        have hsz5 : ((((wr.setCell ⟨w.heap.size + 1, 0, none⟩ (.int .i64 3)).setCell ⟨w.heap.size + 1, 1, none⟩ (.string (bstr xv))).setCell ⟨w.heap.size + 1, 2, none⟩ (.string (bstr xn))).setCell ⟨w.heap.size + 1, 3, none⟩ (.slice qv m cv)).heap.size = wr.heap.size := by simp [World.setCell]
        refine bodyPost_ret (resE rfl hA rfl) rfl ⟨_, rfl, ?_, hBl⟩
        rw [HFM.out, hsz5]
        have hrd2 : RdE (Bt (w.heap.size + 3) wr.heap.size) wr (.mk 3 xv xn S) (.agg #[.int .i64 3, .string (bstr xv), .string (bstr xn), .slice qv m cv]) := by
          rw [HM.out]
          exact RdE.of (e := .mk 3 xv xn S) hcap hrd
        exact (hrd2.keep fun b hb n => World.cell?_of_block (heap_set4x wr (w.heap.size + 1) _ _ _ _ (b := b) (by have := hb.1; omega))).imp fun b hb => ⟨by have := hb.1; omega, hb.2⟩
set_option maxRecDepth 100000 in
set_option maxHeartbeats 8000000 in
theorem rexpr_four (n : Nat) (HIH : Hid (∀ (e : Ex) (v : Value) (P : Nat → Prop) (w : World), sizeE e ≤ n → sizeE e ≤ 400000 → okE 100000 e → RdE P w e v → (∀ b, P b → b < w.heap.size) → Calls Tryz.prog 9 #[v] w (ClPost (canE cmpE e) w)))
    {P : Nat → Prop} {w : World} {xv xn : List UInt8} {ks : List Ex} {q : Option Addr} {c : Nat} (hks : sizeL ks ≤ n) (hkm : sizeL ks ≤ 400000) (hok : okL 100000 ks) (hP : ∀ b, P b → b < w.heap.size) (HK : Hid (0 < ks.length → ∃ b o, q = some ⟨b, o, none⟩ ∧ P b ∧ RdL P w ks b o)) :
    Calls Tryz.prog 9 #[.agg #[.int .i64 4, .string (bstr xv), .string (bstr xn), .slice q ks.length c]] w (ClPost (finE cmpE 4 xv xn (canL cmpE ks)) w) := by
  have hlen := sizeL_len ks
  have HOK := Lib.hid hok
  clear hok
  have H0 : Hid (CB w [.int .i64 4, .string (bstr xv), .string (bstr xn), .slice q ks.length c] [.int .i64 4, .string (bstr xv), .string (bstr xn), .slice none 0 0] (((w.alloc (.cells #[.int .i64 4, .string (bstr xv), .string (bstr xn), .slice q ks.length c] 24)).alloc (.cells #[.int .i64 0, .string ByteArray.empty, .string ByteArray.empty, .slice none 0 0] 24)).alloc (.cells #[.int .i64 4, .string (bstr xv), .string (bstr xn), .slice none 0 0] 24))) :=
    ⟨((Arr.new' w _ _ _ rfl).alloc _).alloc _, (Arr.new2 w _ _ _ _ rfl).alloc _, by have := Arr.new3 w (.cells #[.int .i64 4, .string (bstr xv), .string (bstr xn), .slice q ks.length c] 24) (.cells #[.int .i64 0, .string ByteArray.empty, .string ByteArray.empty, .slice none 0 0] 24) 24 #[.int .i64 4, .string (bstr xv), .string (bstr xn), .slice none 0 0] [.int .i64 4, .string (bstr xv), .string (bstr xn), .slice none 0 0] rfl; exact this, (((Below.refl _ _).alloc (Nat.le_refl _) _).alloc (by simp) _).alloc (by simp; omega) _, by simp⟩
  go_enter Tryz.func9, Tryz.ntmps9
  go_wp2_with fail
  go_loopg [4] ks.length (fun g s4 wr => ∃ (i : Nat) (v : Value), i ≤ ks.length ∧ ks.length - i ≤ g ∧ s4 = .int .i64 i ∧ CB w [.int .i64 4, .string (bstr xv), .string (bstr xn), .slice q ks.length c] [.int .i64 4, .string (bstr xv), .string (bstr xn), v] wr ∧ RdN (w.heap.size + 3) wr v (sortedO cmpE (flatK 4 (canL cmpE (ks.take i)))))
  case atStart => exact ⟨0, _, Nat.zero_le _, by omega, rfl, H0.out, none, 0, rfl, Nat.le_refl _, fun h => absurd h (Nat.lt_irrefl 0)⟩
  case round =>
    clear H0
    obtain ⟨i, v, hi, hg, rfl, hB, hR⟩ := hrel
    have HB := Lib.hid hB
    have HR := Lib.hid hR
    have HI := Lib.hid hB.2.2.2.1
    obtain ⟨M, hM⟩ : ∃ M, M = flatK 4 (canL cmpE (ks.take i)) := ⟨_, rfl⟩
    rw [← hM] at HR
    have HMM := Lib.hid hM
    clear hM
    obtain ⟨qv, m, cv, rfl⟩ : ∃ q m c, v = .slice q m c := by obtain ⟨q, c, e, _⟩ := hR; exact ⟨q, _, c, e⟩
    clear hB hR
    by_cases hlt : i < ks.length
    · have hi1 : (i : Int) < ks.length := by omega
      obtain ⟨ba, oa, rfl, hba, hl⟩ := HK.out (by omega)
      obtain ⟨x, hx⟩ : ∃ x, x = ks.getD i ex0 := ⟨_, rfl⟩
      obtain ⟨q2, c2, x0, x1, x2, x3, hr⟩ := hl.at hlt
      have hxs := sizeL_get ks i hlt
      have hxo := okL_get HOK.out hlt
      have hcs : canL cmpE (ks.take (i + 1)) = canL cmpE (ks.take i) ++ [canE cmpE (ks.getD i ex0)] := by rw [take_snocE hlt, canL_snoc]
      rw [← hx] at x0 x1 x2 x3 hr hxs hxo hcs
      have hys := canE_size x
      have hyo := canE_okE x hxo
      obtain ⟨Y, hY⟩ : ∃ Y, Y = canE cmpE x := ⟨_, rfl⟩
      have HIC0 : ∀ (v : Value) (P : Nat → Prop) (w : World), RdE P w x v → (∀ b, P b → b < w.heap.size) → Calls Tryz.prog 9 #[v] w (ClPost Y w) := fun v P w h1 h2 => by rw [hY]; exact HIH.out x v P w (by omega) (by omega) hxo h1 h2
      rw [← hY] at hcs hys hyo
      have HCS := Lib.hid hcs
      have HYO := Lib.hid hyo
      have hfm : flatK 4 (canL cmpE (ks.take (i + 1))) = M ++ (if Y.kind = 4 then Y.kids else [Y]) := by rw [hcs, flatK_snoc, HMM.out]
      have hfz : sizeL (flatK 4 (canL cmpE (ks.take (i + 1)))) ≤ 400000 := Nat.le_trans (flat_size _) (Nat.le_trans (canL_size _) (Nat.le_trans (sizeL_take ks (i + 1)) hkm))
      rw [hfm, sizeL_app] at hfz
      have HFM := Lib.hid hfm
      have HFZ := Lib.hid hfz
      have HOM : Hid (∀ x ∈ M, okE 100000 x) := by rw [HMM.out]; exact flat_ok (canL_okL _ (okL_take HOK.out i))
      clear hfm hfz
      obtain ⟨xk, xv2, xn2, xs⟩ := x
      unfold exv at hr
      dsimp only [Ex.kind, Ex.via, Ex.nm, Ex.kids] at x0 x1 x2 x3 hr
      have hwk : wrap64 ((i : Int) + 1) = (i : Int) + 1 := by unfold wrap64; omega
      have hwk2 : wrap64 ((i : Int) + 1) = ((i + 1 : Nat) : Int) := by rw [hwk]; rfl
      have cc : ∀ n, wr.cell? ⟨ba, n, none⟩ = w.cell? ⟨ba, n, none⟩ := fun n => (HI.out).cell (p := ⟨ba, n, none⟩) (hP _ hba)
      have X0 : wr.cell? ⟨ba, oa + i * 4, none⟩ = some (.int .i64 xk) := (cc _).trans x0
      have X1 : wr.cell? ⟨ba, oa + i * 4 + 1, none⟩ = some (.string (bstr xv2)) := (cc _).trans x1
      have X2 : wr.cell? ⟨ba, oa + i * 4 + 2, none⟩ = some (.string (bstr xn2)) := (cc _).trans x2
      have X3 : wr.cell? ⟨ba, oa + i * 4 + 3, none⟩ = some (.slice q2 xs.length c2) := (cc _).trans x3
      have HIC := Lib.hid (HIC0 _ P wr (hr.below HI.out hP) (fun b hb => Nat.lt_of_lt_of_le (hP b hb) HI.out.size))
      have a3 := HB.out.1.cell 3
      simp only [List.getElem?_cons_zero, List.getElem?_cons_succ] at a3
      clear x0 x1 x2 x3 cc hr hl hcs hyo hY HIC0 hba hx hxo
      go_upto_region 6 with fail
      refine HIC.out.mono ?_
      rintro r w5 ⟨v5, rfl, r5, b5⟩
      have HB5 := Lib.hid (HB.out.later b5)
      have HR5 := Lib.hid (HR.out.later b5)
      obtain ⟨yk, yv, yn, ys⟩ := Y
      have HY5 := Lib.hid r5
      obtain ⟨q5, c5, rfl, hc5, _⟩ := r5.form
      unfold exv at HY5 ⊢
      dsimp only [Ex.kind, Ex.via, Ex.nm, Ex.kids] at HY5 ⊢
      have HLE5 : Hid (w.heap.size + 3 ≤ wr.heap.size) := HB.out.2.2.2.2
      clear b5 r5 HIC X0 X1 X2 X3 a3 HB HR HI hc5
      go_upto_region 6 with fail
      have ba6 : Below w5.heap.size w5 (w5.alloc (.cells #[.int .i64 yk, .string (bstr yv), .string (bstr yn), .slice q5 ys.length c5] 24)) := (Below.refl _ _).alloc (Nat.le_refl _) _
      have HK6 : Hid (Arr (w5.alloc (.cells #[.int .i64 yk, .string (bstr yv), .string (bstr yn), .slice q5 ys.length c5] 24)) 24 w5.heap.size [.int .i64 yk, .string (bstr yv), .string (bstr yn), .slice q5 ys.length c5]) := Arr.new' _ _ _ _ rfl
      have HB6 := Lib.hid (HB5.out.later ba6)
      have HR6 := Lib.hid (HR5.out.later ba6)
      have HY6 : Hid (RdE (Bt wr.heap.size w5.heap.size) (w5.alloc (.cells #[.int .i64 yk, .string (bstr yv), .string (bstr yn), .slice q5 ys.length c5] 24)) (.mk yk yv yn ys) (.agg #[.int .i64 yk, .string (bstr yv), .string (bstr yn), .slice q5 ys.length c5])) := HY5.out.below ba6 fun b hb => hb.2
      have HS6 : Hid (w5.heap.size < (w5.alloc (.cells #[.int .i64 yk, .string (bstr yv), .string (bstr yn), .slice q5 ys.length c5] 24)).heap.size) := by show _ < _; simp
      have HW5 : Hid (w.heap.size + 3 ≤ w5.heap.size) := HB5.out.2.2.2.2
      clear ba6 HB5 HR5 HY5
      generalize w5.alloc (.cells #[.int .i64 yk, .string (bstr yv), .string (bstr yn), .slice q5 ys.length c5] 24) = w6 at HK6 HB6 HR6 HY6 HS6 ⊢
      generalize w5.heap.size = kb at HK6 HY6 HS6 HW5 ⊢
      have a0 := HB6.out.1.cell 0
      have o3 := HB6.out.2.2.1.cell 3
      have k0 := HK6.out.cell 0
      have k1 := HK6.out.cell 1
      have k2 := HK6.out.cell 2
      have k3 := HK6.out.cell 3
      simp only [List.getElem?_cons_zero, List.getElem?_cons_succ] at a0 o3 k0 k1 k2 k3
      by_cases hy : yk = 4
      · subst hy
        clear hys hxs
        have HLY := Lib.hid (sizeL_len ys)
        have HYS : Hid (sizeL M + sizeL ys ≤ 400000) := by have h := HFZ.out; rw [if_pos (show (Ex.mk 4 yv yn ys).kind = 4 from rfl)] at h; exact h
        have HFM2 : Hid (flatK 4 (canL cmpE (ks.take (i + 1))) = M ++ ys) := by have h := HFM.out; rw [if_pos (show (Ex.mk 4 yv yn ys).kind = 4 from rfl)] at h; exact h
        have HOY : Hid (okL 100000 ys) := okE_kids HYO.out
        have HE6 : Hid (RdE (Bt (w.heap.size + 3) w6.heap.size) w6 (.mk 4 yv yn ys) (.agg #[.int .i64 4, .string (bstr yv), .string (bstr yn), .slice q5 ys.length c5])) := HY6.out.imp fun b hb => ⟨Nat.le_trans HLE5.out hb.1, Nat.lt_trans hb.2 HS6.out⟩
        clear HY6
        go_wp2_with fail
        clear a0 o3 k0 k1 k2 k3
        go_loopg [6] ys.length (fun g s6 wr => ∃ (j : Nat) (v : Value), j ≤ ys.length ∧ ys.length - j ≤ g ∧ s6 = .int .i64 j ∧ CB w [.int .i64 4, .string (bstr xv), .string (bstr xn), .slice (some ⟨ba, oa, none⟩) ks.length c] [.int .i64 4, .string (bstr xv), .string (bstr xn), v] wr ∧ RdN (w.heap.size + 3) wr v (sortedO cmpE (M ++ ys.take j)) ∧ Arr wr 24 kb [.int .i64 4, .string (bstr yv), .string (bstr yn), .slice q5 ys.length c5] ∧ RdE (Bt (w.heap.size + 3) wr.heap.size) wr (.mk 4 yv yn ys) (.agg #[.int .i64 4, .string (bstr yv), .string (bstr yn), .slice q5 ys.length c5]))
        case atStart => exact ⟨0, _, Nat.zero_le _, by omega, rfl, HB6.out, by rw [List.take_zero, List.append_nil]; exact HR6.out, HK6.out, HE6.out⟩
        case round =>
          clear HB6 HR6 HK6 HE6
          obtain ⟨j, v, hj, hgj, rfl, hB, hR, hKK, hEE⟩ := hrel
          obtain ⟨qv, m, cv, rfl⟩ : ∃ q m c, v = .slice q m c := by obtain ⟨q, c, e, _⟩ := hR; exact ⟨q, _, c, e⟩
          have HB := Lib.hid hB
          have HR := Lib.hid hR
          have HKK := Lib.hid hKK
          have HEE := Lib.hid hEE
          clear hB hR hKK
          have o3 := HB.out.2.2.1.cell 3
          have k3 := HKK.out.cell 3
          simp only [List.getElem?_cons_zero, List.getElem?_cons_succ] at o3 k3
          by_cases hlj : j < ys.length
          · have hj1 : (j : Int) < ys.length := by omega
            have hwj : wrap64 ((j : Int) + 1) = (j : Int) + 1 := by unfold wrap64; have := HYS.out; have := HLY.out; omega
            have hwj2 : wrap64 ((j : Int) + 1) = ((j + 1 : Nat) : Int) := by rw [hwj]; rfl
            obtain ⟨bb, ob, rfl, hbb, hyl⟩ : ∃ b o, q5 = some ⟨b, o, none⟩ ∧ Bt (w.heap.size + 3) wr.heap.size b ∧ RdL (Bt (w.heap.size + 3) wr.heap.size) wr ys b o := by
              have h := hEE
              unfold RdE at h
              obtain ⟨q', c', e, _, h3⟩ := h
              simp only [Value.agg.injEq, Array.mk.injEq, List.cons.injEq, Value.slice.injEq, and_true, true_and] at e
              obtain ⟨rfl, rfl⟩ := e
              exact h3 (Nat.lt_of_le_of_lt (Nat.zero_le j) hlj)
            clear hEE
            have hts : ys.take (j + 1) = ys.take j ++ [ys.getD j ex0] := take_snocE hlj
            obtain ⟨z, hz⟩ : ∃ z, z = ys.getD j ex0 := ⟨_, rfl⟩
            obtain ⟨q2z, c2z, Z0, Z1, Z2, Z3, hrz⟩ := hyl.at hlj
            have hzs := sizeL_get ys j hlj
            have hzo := okL_get HOY.out hlj
            rw [← hz] at Z0 Z1 Z2 Z3 hrz hzs hzo hts
            have HTS := Lib.hid hts
            obtain ⟨zk, zv, zn, zs⟩ := z
            unfold exv at hrz
            dsimp only [Ex.kind, Ex.via, Ex.nm, Ex.kids] at Z0 Z1 Z2 Z3 hrz
            clear hz hts hbb hyl
            have HSZ : Hid (sizeL (sortedO cmpE (M ++ ys.take j)) ≤ 400000) := Nat.le_trans (sorted_size _) (by rw [sizeL_app]; have := HYS.out; have := sizeL_take ys j; omega)
            have HSZ2 : Hid (sizeE (Ex.mk zk zv zn zs) ≤ 900000) := by show _ ≤ _; have := HYS.out; omega
            have HOS : Hid (∀ x ∈ sortedO cmpE (M ++ ys.take j), okE 100000 x) := fun x hx => by
              rcases List.mem_append.1 ((sorted_memO ordX _ x).1 hx) with h | h
              · exact HOM.out x h
              · exact okL_mem HOY.out x (List.mem_of_mem_take h)
            go_upto_region 13 with fail
            refine wp_region_still_tail 7 (by kernel_rfl) (by kernel_rfl) ?_
            simp only [List.take_succ_cons, List.take_zero, List.drop_succ_cons, List.drop_zero]
            repeat still_step
            refine wpStill_nil ?_
            change wpList _ _ _ _ _ wr.drew
            have HBd : Hid (Below wr.heap.size wr wr.drew) := (Below.refl _ _).drew
            have HBe := Lib.hid (HB.out.later HBd.out)
            have HRe := Lib.hid (HR.out.later HBd.out)
            have HKe := Lib.hid (HKK.out.later HBd.out)
            have HEe : Hid (RdE (Bt (w.heap.size + 3) wr.drew.heap.size) wr.drew (.mk 4 yv yn ys) (.agg #[.int .i64 4, .string (bstr yv), .string (bstr yn), .slice (some ⟨bb, ob, none⟩) ys.length c5])) := (HEE.out.below HBd.out fun b hb => hb.2).imp fun b hb => ⟨hb.1, Nat.lt_of_lt_of_le hb.2 HBd.out.size⟩
            have hrze : RdE (Bt (w.heap.size + 3) wr.drew.heap.size) wr.drew (.mk zk zv zn zs) (.agg #[.int .i64 zk, .string (bstr zv), .string (bstr zn), .slice q2z zs.length c2z]) := (hrz.below HBd.out fun b hb => hb.2).imp fun b hb => ⟨hb.1, Nat.lt_of_lt_of_le hb.2 HBd.out.size⟩
            clear HBd HB HR HKK HEE hrz o3 k3 Z0 Z1 Z2 Z3
            generalize wr.drew = wd at HBe HRe HKe HEe hrze ⊢
            have HC := Lib.hid (rput_any (P := Bt (w.heap.size + 3) wd.heap.size) (l := sortedO cmpE (M ++ ys.take j)) (e := Ex.mk zk zv zn zs) HRe.out hrze (fun b hb => hb.2) HSZ.out HSZ2.out HOS.out hzo (sorted_risO ordX _))
            rw [← sortedO_snoc] at HC
            go_wp2_with fail
            refine HC.out.mono ?_
            rintro r w7 ⟨v7, rfl, r7, b7⟩
            have HN7 : Hid (RdN (w.heap.size + 3) w7 v7 (sortedO cmpE ((M ++ ys.take j) ++ [Ex.mk zk zv zn zs]))) := r7.rdV.imp fun b hb => by
              have h0 := HBe.out.2.2.2.2
              have h1 := b7.size
              rcases hb with hb | hb
              · exact ⟨hb.1, Nat.lt_of_lt_of_le hb.2 h1⟩
              · exact ⟨Nat.le_trans h0 hb.1, hb.2⟩
            obtain ⟨q7, m7, c7, rfl⟩ : ∃ q m c, v7 = .slice q m c := by obtain ⟨q, c, e, _⟩ := HN7.out; exact ⟨q, _, c, e⟩
            have p3 := (HBe.out.2.2.1.later b7).free 3
            have o8 := (HBe.out.2.2.1.later b7).cell 3
            simp only [List.getElem?_cons_zero, List.getElem?_cons_succ] at o8
            have HK7 := Lib.hid ((HKe.out.later b7).setCell (a := ⟨w.heap.size + 1 + 1, 3, none⟩) (show kb ≠ w.heap.size + 1 + 1 by have := HW5.out; omega) (.slice q7 m7 c7))
            have hsz7 : (w7.setCell ⟨w.heap.size + 1 + 1, 3, none⟩ (.slice q7 m7 c7)).heap.size = w7.heap.size := by simp [World.setCell]
            have HE7 : Hid (RdE (Bt (w.heap.size + 3) (w7.setCell ⟨w.heap.size + 1 + 1, 3, none⟩ (.slice q7 m7 c7)).heap.size) (w7.setCell ⟨w.heap.size + 1 + 1, 3, none⟩ (.slice q7 m7 c7)) (.mk 4 yv yn ys) (.agg #[.int .i64 4, .string (bstr yv), .string (bstr yn), .slice (some ⟨bb, ob, none⟩) ys.length c5])) := by
              show RdE _ _ _ _
              rw [hsz7]
              refine ((HEe.out.below b7 fun b hb => hb.2).keep fun b hb n => World.cell?_of_block (Below.heap_setCell _ ⟨w.heap.size + 1 + 1, 3, none⟩ _ b ?_)).imp fun b hb => ⟨hb.1, Nat.lt_of_lt_of_le hb.2 b7.size⟩
              have := hb.1
              show b ≠ w.heap.size + 1 + 1
              omega
            have HB8 := Lib.hid (HBe.out.store (b7.mono HBe.out.2.2.2.2) (.slice q7 m7 c7))
            have HR8 := Lib.hid (HN7.out.set (a := ⟨w.heap.size + 1 + 1, 3, none⟩) (show w.heap.size + 1 + 1 < w.heap.size + 3 by omega) (.slice q7 m7 c7))
            rw [List.append_assoc, ← HTS.out] at HR8
            clear hsz7 r7 HN7 HBe HRe HKe HEe HC hrze
            go_wp2_with fail
            go_roundg (ys.length - (j + 1))
            case measure => exact Nat.lt_of_lt_of_le (Nat.sub_lt_sub_left hlj (Nat.lt_succ_self j)) hgj
            case rel => exact ⟨j + 1, _, hlj, Nat.le_refl _, congrArg (Value.int .i64) hwj2, HB8.out, HR8.out, HK7.out, HE7.out⟩
          · have hj1 : ¬ (j : Int) < ys.length := by omega
            have HT : Hid (ys.take j = ys) := List.take_of_length_le (by omega)
            rw [HT.out, ← HFM2.out] at HR
            go_wp2_with fail
            go_roundg (ks.length - (i + 1))
            case measure => exact Nat.lt_of_lt_of_le (Nat.sub_lt_sub_left hlt (Nat.lt_succ_self i)) hg
            case rel => exact ⟨i + 1, _, hlt, Nat.le_refl _, congrArg (Value.int .i64) (show (i : Int) + 1 = ((i + 1 : Nat) : Int) from rfl), HB.out, HR.out⟩
      · have hby : (yk != 4) = true := bne_iff_ne.2 hy
        have HYS : Hid (sizeL M + sizeE (Ex.mk yk yv yn ys) ≤ 400000) := by have h := HFZ.out; rw [if_neg (show ¬ (Ex.mk yk yv yn ys).kind = 4 from hy)] at h; show _ ≤ _; simpa [sizeL] using h
        have HFM2 : Hid (flatK 4 (canL cmpE (ks.take (i + 1))) = M ++ [Ex.mk yk yv yn ys]) := by have h := HFM.out; rw [if_neg (show ¬ (Ex.mk yk yv yn ys).kind = 4 from hy)] at h; exact h
        have HE6 : RdE (Bt (w.heap.size + 3) w6.heap.size) w6 (.mk yk yv yn ys) (.agg #[.int .i64 yk, .string (bstr yv), .string (bstr yn), .slice q5 ys.length c5]) := HY6.out.imp fun b hb => ⟨Nat.le_trans HLE5.out hb.1, Nat.lt_trans hb.2 HS6.out⟩
        clear HY6
        have HSZ : Hid (sizeL (sortedO cmpE M) ≤ 400000) := Nat.le_trans (sorted_size _) (by have := HYS.out; omega)
        have HSZ2 : Hid (sizeE (Ex.mk yk yv yn ys) ≤ 900000) := by show _ ≤ _; have := HYS.out; omega
        have HOS : Hid (∀ x ∈ sortedO cmpE M, okE 100000 x) := fun x hx => HOM.out x ((sorted_memO ordX _ x).1 hx)
        have HC := Lib.hid (rput_any (P := Bt (w.heap.size + 3) w6.heap.size) (l := sortedO cmpE M) (e := Ex.mk yk yv yn ys) HR6.out HE6 (fun b hb => hb.2) HSZ.out HSZ2.out HOS.out HYO.out (sorted_risO ordX _))
        rw [← sortedO_snoc] at HC
        go_wp2_with fail
        refine HC.out.mono ?_
        rintro r w7 ⟨v7, rfl, r7, b7⟩
        have HN7 : Hid (RdN (w.heap.size + 3) w7 v7 (sortedO cmpE (M ++ [Ex.mk yk yv yn ys]))) := r7.rdV.imp fun b hb => by
          have h0 := HB6.out.2.2.2.2
          have h1 := b7.size
          rcases hb with hb | hb
          · exact ⟨hb.1, Nat.lt_of_lt_of_le hb.2 h1⟩
          · exact ⟨Nat.le_trans h0 hb.1, hb.2⟩
        obtain ⟨q7, m7, c7, rfl⟩ : ∃ q m c, v7 = .slice q m c := by obtain ⟨q, c, e, _⟩ := HN7.out; exact ⟨q, _, c, e⟩
        have p3 := (HB6.out.2.2.1.later b7).free 3
        have o8 := (HB6.out.2.2.1.later b7).cell 3
        simp only [List.getElem?_cons_zero, List.getElem?_cons_succ] at o8
        have HB8 := Lib.hid (HB6.out.store (b7.mono HB6.out.2.2.2.2) (.slice q7 m7 c7))
        have HR8 := Lib.hid (HN7.out.set (a := ⟨w.heap.size + 1 + 1, 3, none⟩) (show w.heap.size + 1 + 1 < w.heap.size + 3 by omega) (.slice q7 m7 c7))
        rw [← HFM2.out] at HR8
        clear r7 HN7 HB6 HR6 HC HE6
        go_wp2_with fail
        go_roundg (ks.length - (i + 1))
        case measure => omega
        case rel => exact ⟨i + 1, _, by omega, Nat.le_refl _, by go_num, HB8.out, HR8.out⟩
    · have hi1 : ¬ (i : Int) < ks.length := by omega
      have HT : Hid (ks.take i = ks) := List.take_of_length_le (by omega)
      rw [HT.out] at HMM
      obtain ⟨S, hS⟩ : ∃ S, S = sortedO cmpE M := ⟨_, rfl⟩
      rw [← hS] at HR
      have HSS : Hid (sortedO cmpE (flatK 4 (canL cmpE ks)) = S) := by show _ = _; rw [hS, HMM.out]
      obtain ⟨hml, hcap, hrd⟩ : m = S.length ∧ S.length ≤ cv ∧ (0 < S.length → ∃ b o, qv = some ⟨b, o, none⟩ ∧ Bt (w.heap.size + 3) wr.heap.size b ∧ RdL (Bt (w.heap.size + 3) wr.heap.size) wr S b o) := by
        obtain ⟨q, c, e, hc, h⟩ := HR.out
        simp only [Value.slice.injEq] at e
        obtain ⟨rfl, rfl, rfl⟩ := e
        exact ⟨rfl, hc, h⟩
      have HM := Lib.hid hml
      have a0 := HB.out.1.cell 0
      have a3 := HB.out.1.cell 3
      have o0 := HB.out.2.2.1.cell 0
      have o1 := HB.out.2.2.1.cell 1
      have o2 := HB.out.2.2.1.cell 2
      have o3 := HB.out.2.2.1.cell 3
      have r0 := HB.out.2.1.cell 0
      have r1 := HB.out.2.1.cell 1
      have r2 := HB.out.2.1.cell 2
      have r3 := HB.out.2.1.cell 3
      have p0 := HB.out.2.1.free 0
      have p1 := HB.out.2.1.free 1
      have p2 := HB.out.2.1.free 2
      have p3 := HB.out.2.1.free 3
      simp only [List.getElem?_cons_zero, List.getElem?_cons_succ] at a0 a3 o0 o1 o2 o3 r0 r1 r2 r3
      clear hml hS
      by_cases h1 : (m : Int) = 1
      · have hm1 : ((m : Int) == 1) = true := by simpa using h1
        obtain rfl : m = 1 := by omega
        obtain ⟨y, rfl⟩ : ∃ y, S = [y] := by
          match S, HM.out with
          | [y], _ => exact ⟨y, rfl⟩
        obtain ⟨by_, oy, rfl, hby, hyl⟩ := hrd (by simp)
        obtain ⟨qy, cy, y0, y1, y2, y3, hry⟩ := hyl.at (i := 0) (by simp)
        simp only [List.getD_cons_zero, Nat.zero_mul, Nat.zero_add, Nat.add_zero] at y0 y1 y2 y3 hry
        obtain ⟨yk, yv, yn, ys⟩ := y
        simp only [Ex.kind, Ex.via, Ex.nm, Ex.kids] at y0 y1 y2 y3
        have HRY := Lib.hid hry
        have HFO := Lib.hid (fin_one (o := cmpE) (v := xv) (n := xn) (show ((4 : Int) = 3 ∨ (4 : Int) = 4) by decide) HSS.out)
        clear hry hyl hby
        go_wp2_with fail
        have hA := HB.out.2.1.set4 (.int .i64 yk) (.string (bstr yv)) (.string (bstr yn)) (.slice qy ys.length cy)
        have hBl := below_set4 (g := w.heap.size + 1) HI.out (by omega) (.int .i64 yk) (.string (bstr yv)) (.string (bstr yn)) (.slice qy ys.length cy)
        have hsz5 : ((((wr.setCell ⟨w.heap.size + 1, 0, none⟩ (.int .i64 yk)).setCell ⟨w.heap.size + 1, 1, none⟩ (.string (bstr yv))).setCell ⟨w.heap.size + 1, 2, none⟩ (.string (bstr yn))).setCell ⟨w.heap.size + 1, 3, none⟩ (.slice qy ys.length cy)).heap.size = wr.heap.size := by simp [World.setCell]
        refine bodyPost_ret (resE rfl hA rfl) rfl ⟨_, rfl, ?_, hBl⟩
        rw [HFO.out, hsz5]
        exact (HRY.out.keep fun b hb n => World.cell?_of_block (heap_set4x wr (w.heap.size + 1) _ _ _ _ (b := b) (by have := hb.1; omega))).imp fun b hb => ⟨by have := hb.1; omega, hb.2⟩
      · have hm1 : ((m : Int) == 1) = false := by simpa using h1
        have HFM := Lib.hid (fin_many (o := cmpE) (v := xv) (n := xn) (show ((4 : Int) = 3 ∨ (4 : Int) = 4) by decide) (ks := canL cmpE ks) (by rw [HSS.out]; have := HM.out; omega))
        rw [HSS.out] at HFM
        go_wp2_with fail
        have hA := HB.out.2.1.set4 (.int .i64 4) (.string (bstr xv)) (.string (bstr xn)) (.slice qv m cv)
        have hBl := below_set4 (g := w.heap.size + 1) HI.out (by omega) (.int .i64 4) (.string (bstr xv)) (.string (bstr xn)) (.slice qv m cv)
        have hsz5 : ((((wr.setCell ⟨w.heap.size + 1, 0, none⟩ (.int .i64 4)).setCell ⟨w.heap.size + 1, 1, none⟩ (.string (bstr xv))).setCell ⟨w.heap.size + 1, 2, none⟩ (.string (bstr xn))).setCell ⟨w.heap.size + 1, 3, none⟩ (.slice qv m cv)).heap.size = wr.heap.size := by simp [World.setCell]
        refine bodyPost_ret (resE rfl hA rfl) rfl ⟨_, rfl, ?_, hBl⟩
        rw [HFM.out, hsz5]
        have hrd2 : RdE (Bt (w.heap.size + 3) wr.heap.size) wr (.mk 4 xv xn S) (.agg #[.int .i64 4, .string (bstr xv), .string (bstr xn), .slice qv m cv]) := by
          rw [HM.out]
          exact RdE.of (e := .mk 4 xv xn S) hcap hrd
        exact (hrd2.keep fun b hb n => World.cell?_of_block (heap_set4x wr (w.heap.size + 1) _ _ _ _ (b := b) (by have := hb.1; omega))).imp fun b hb => ⟨by have := hb.1; omega, hb.2⟩
theorem rexpr_any : ∀ (n : Nat) (e : Ex) (v : Value) (P : Nat → Prop) (w : World), sizeE e ≤ n → sizeE e ≤ 400000 → okE 100000 e → RdE P w e v → (∀ b, P b → b < w.heap.size) → Calls Tryz.prog 9 #[v] w (ClPost (canE cmpE e) w) := by
  intro n
  induction n with
  | zero => intro e v P w h; have := sizeE_pos e; omega
  | succ n ih =>
    intro e v P w hn hm hok h hP
    obtain ⟨q, c, rfl, hc, hk⟩ := h.form
    obtain ⟨k, xv, xn, ks⟩ := e
    unfold exv
    show Calls _ _ #[.agg #[.int .i64 k, .string (bstr xv), .string (bstr xn), .slice q ks.length c]] _ _
    have hks : sizeL ks ≤ n := by unfold sizeE at hn; omega
    have hkm : sizeL ks ≤ 400000 := by unfold sizeE at hm; omega
    have hol : okL 100000 ks := okE_kids hok
    rw [canE_mk]
    by_cases h3 : k = 3
    · subst h3; exact rexpr_three n ih hks hkm hol hP hk
    by_cases h4 : k = 4
    · subst h4; exact rexpr_four n ih hks hkm hol hP hk
    exact rexpr_other n ih (fun h => h.elim h3 h4) hks hkm hol hP hk
end Go.Proofs.YtdnmgemjhpkekaaGreat
