/-
  schema: definitions with their members.
-/
import Derived.Test.YtdnmgemjhpkekaaGreatDoorMg3
namespace Go.Proofs.YtdnmgemjhpkekaaGreatDoor
open Go.ChangeShapes Go.WideShapes Go.ChangeAt Go.RowKit
set_option linter.unusedVariables false

section
variable {cb rb lv : Nat} {b : List UInt8} {s : St} {W : World}
/-- What schema hands back. -/
def SPost (cb rb : Nat) (b : List UInt8) (W : World) (r : List DefB × St × Nat) (e : Ending) (w' : World) : Prop := ∃ v, e = .returned v ∧ VS W.heap.size r.1 w' v ∧ RS cb rb b r.2.2 r.2.1 w' ∧ K2 cb rb W w'
set_option maxRecDepth 100000 in
set_option maxHeartbeats 8000000 in
theorem cSchema_any (h : RS cb rb b lv s W) : Calls Tryz.prog 23 #[.pointer (some ⟨rb, 0, none⟩)] W (SPost cb rb b W (schC b s lv)) := by
  have hb : Below W.heap.size W (W.alloc (.cells #[.slice none 0 0] 26)) := (Below.refl _ _).alloc (Nat.le_refl _) _
  have HL0 : Hid (cb < rb ∧ rb < W.heap.size) := h.lt
  have HS0 := Lib.hid (h.later hb)
  have HK0 : Hid (K2 cb rb W (W.alloc (.cells #[.slice none 0 0] 26))) := K2.of hb
  have HG0 : Hid (Arr (W.alloc (.cells #[.slice none 0 0] 26)) 26 W.heap.size [.slice none 0 0]) := Arr.new' _ _ _ _ rfl
  have HNN : Hid ((numC b (chkC 0 64) s).1 ≤ 64) := numC_le (fun x hx => (chkC_0 hx).2) s
  have HE0 : Hid (schC b s lv = loopC (defC b) (numC b (chkC 0 64) s).1 [] (numC b (chkC 0 64) s).2 lv) := rfl
  have HN := Lib.hid (cCount_any 0 64 HS0.out (by decide))
  obtain ⟨n, hn⟩ : ∃ x, x = (numC b (chkC 0 64) s).1 := ⟨_, rfl⟩
  obtain ⟨s1, hs1⟩ : ∃ x, x = (numC b (chkC 0 64) s).2 := ⟨_, rfl⟩
  rw [← hn, ← hs1] at HN HE0
  rw [← hn] at HNN
  clear h hb hn hs1
  go_enter Tryz.func23, Tryz.ntmps23
  go_wp2_with fail
  refine HN.out.mono ?_
  rintro e w1 ⟨rfl, h1, k1⟩
  have HS1 := Lib.hid h1
  have HK1 := Lib.hid (HK0.out.trans k1)
  have HG1 := Lib.hid (k1.arr HG0.out (by have := HL0.out; omega) (by have := HL0.out; omega))
  clear h1 k1 HN HS0 HK0 HG0
  go_wp2_with fail
  go_loopw [6] (fun iv wr => ∃ (i : Nat) (accd : List DefB) (s2 : St) (lv2 : Nat) (qd : Option Addr) (cd : Nat), i ≤ n ∧ iv = .int .i64 (i : Nat) ∧ Hid (accd.length = i) ∧ Hid (PRow kdDef (W.heap.size + 1) (fun _ => False) wr (.slice qd accd.length cd) accd) ∧ Hid (Arr wr 26 W.heap.size [.slice qd accd.length cd]) ∧ Hid (RS cb rb b lv2 s2 wr) ∧ Hid (K2 cb rb W wr) ∧ Hid (schC b s lv = loopC (defC b) (n - i) accd s2 lv2)) (fun iv _ => n - (intOf iv).toNat)
  case atStart => exact ⟨0, [], s1, lv, none, 0, Nat.zero_le _, rfl, rfl, PRow.nil _ _ _ _, HG1.out, HS1.out, HK1.out, HE0.out⟩
  case round =>
    obtain ⟨i, accd, s2, lv2, qd, cd, hi, rfl, HLD, HRD, HGD, HS2, HK2, HE2⟩ := hrel
    by_cases hlt : i < n
    · have hlt' : (i : Int) < n := by omega
      have hw : wrap64 ((i : Int) + 1) = (i : Int) + 1 := by unfold wrap64; have := HNN.out; omega
      have HLI : Hid (i < n) := hlt
      obtain ⟨dn, hdn⟩ : ∃ x, x = (nameC b false s2).1 := ⟨_, rfl⟩
      obtain ⟨s3, hs3⟩ : ∃ x, x = (nameC b false s2).2 := ⟨_, rfl⟩
      obtain ⟨m, hm⟩ : ∃ x, x = (numC b (chkC 0 64) s3).1 := ⟨_, rfl⟩
      obtain ⟨s5, hs5⟩ : ∃ x, x = (numC b (chkC 0 64) s3).2 := ⟨_, rfl⟩
      have HMM : Hid (m ≤ 64) := by rw [hm]; exact numC_le (fun x hx => (chkC_0 hx).2) s3
      have HE5 : Hid (schC b s lv = loopC (defC b) (n - (i + 1)) (accd ++ [(dn, (loopC (memC b) (m - 0) [] s5 lv2).1)]) (loopC (memC b) (m - 0) [] s5 lv2).2.1 (loopC (memC b) (m - 0) [] s5 lv2).2.2) := by
        show _ = _
        rw [HE2.out, show n - i = (n - (i + 1)) + 1 by omega, loopC]
        show loopC _ _ (accd ++ [((nameC b false s2).1, (loopC (memC b) (numC b (chkC 0 64) (nameC b false s2).2).1 [] (numC b (chkC 0 64) (nameC b false s2).2).2 lv2).1)]) (loopC (memC b) (numC b (chkC 0 64) (nameC b false s2).2).1 [] (numC b (chkC 0 64) (nameC b false s2).2).2 lv2).2.1 (loopC (memC b) (numC b (chkC 0 64) (nameC b false s2).2).1 [] (numC b (chkC 0 64) (nameC b false s2).2).2 lv2).2.2 = _
        rw [← hdn, ← hs3, ← hm, ← hs5, Nat.sub_zero]
      have HN2 := Lib.hid (cName_any false HS2.out)
      rw [← hdn, ← hs3] at HN2
      have HCN : Hid (∀ w, RS cb rb b lv2 s3 w → Calls Tryz.prog 46 #[.pointer (some ⟨rb, 0, none⟩), .int .u64 0, .int .u64 64] w fun e w' => e = .returned (.int .i64 (m : Nat)) ∧ RS cb rb b lv2 s5 w' ∧ K2 cb rb w w') := fun w hw => by
        have := cCount_any 0 64 hw (by decide)
        rw [← hm, ← hs5] at this
        exact this
      clear HE2 hdn hs3 hm hs5 hlt
      go_wp2_with fail
      refine HN2.out.mono ?_
      rintro e w3 ⟨rfl, h3, k3⟩
      have HL : Hid (cb < rb ∧ rb < w3.heap.size) := h3.lt
      have HRD3 := Lib.hid (HRD.out.turn (w' := w3) k3.2.2.2.1 (fun b hb hl _ => k3.2.2.2.2 b hl (by have := HL0.out; omega) (by have := HL0.out; omega)))
      have HGD3 := Lib.hid (k3.arr HGD.out (by have := HL0.out; omega) (by have := HL0.out; omega))
      have HK3 := Lib.hid (HK2.out.trans k3)
      have hb3 : Below w3.heap.size w3 (w3.alloc (.cells #[.string (bstr dn), .slice none 0 0] 53)) := (Below.refl _ _).alloc (Nat.le_refl _) _
      have HS4 := Lib.hid (h3.later hb3)
      have HK4 : Hid (K2 cb rb w3 (w3.alloc (.cells #[.string (bstr dn), .slice none 0 0] 53))) := K2.of hb3
      have HG4 : Hid (Arr (w3.alloc (.cells #[.string (bstr dn), .slice none 0 0] 53)) 53 w3.heap.size [.string (bstr dn), .slice none 0 0]) := Arr.new' _ _ _ _ rfl
      have HCX := Lib.hid (HCN.out _ HS4.out)
      clear h3 k3 hb3 HRD HGD HK2 HS2 HN2 HCN
      go_wp2_with fail
      refine HCX.out.mono ?_
      rintro e w5 ⟨rfl, h5, k5⟩
      have HS5 := Lib.hid h5
      have HK5 := Lib.hid (HK4.out.trans k5)
      have HG5 := Lib.hid (k5.arr HG4.out (by have := HL.out; omega) (by have := HL.out; omega))
      clear h5 k5 HCX HS4 HK4 HG4
      go_wp2_with fail
      go_loopw [13] (fun jv wr => ∃ (j : Nat) (acc : List MemB) (s6 : St) (lv6 : Nat) (q : Option Addr) (cc : Nat), j ≤ m ∧ jv = .int .i64 (j : Nat) ∧ Hid (acc.length = j) ∧ Hid (PRow kdMem (w3.heap.size + 1) (fun _ => False) wr (.slice q acc.length cc) acc) ∧ Hid (Arr wr 53 w3.heap.size [.string (bstr dn), .slice q acc.length cc]) ∧ Hid (RS cb rb b lv6 s6 wr) ∧ Hid (K2 cb rb w3 wr) ∧ Hid (schC b s lv = loopC (defC b) (n - (i + 1)) (accd ++ [(dn, (loopC (memC b) (m - j) acc s6 lv6).1)]) (loopC (memC b) (m - j) acc s6 lv6).2.1 (loopC (memC b) (m - j) acc s6 lv6).2.2)) (fun jv _ => m - (intOf jv).toNat)
      case atStart => exact ⟨0, [], s5, lv2, none, 0, Nat.zero_le _, rfl, rfl, PRow.nil _ _ _ _, HG5.out, HS5.out, HK5.out, HE5.out⟩
      case round =>
        obtain ⟨j, acc, s6, lv6, q, cc, hj, rfl, HLEN, HRW6, HG6, HS6, HK6, HE6⟩ := hrel
        by_cases hlj : j < m
        · have hlj' : (j : Int) < m := by omega
          have hwj : wrap64 ((j : Int) + 1) = (j : Int) + 1 := by unfold wrap64; have := HMM.out; omega
          have HLT : Hid (j < m) := hlj
          obtain ⟨x, hx⟩ : ∃ x, x = (memC b s6 lv6).1 := ⟨_, rfl⟩
          obtain ⟨s8, hs8⟩ : ∃ x, x = (memC b s6 lv6).2.1 := ⟨_, rfl⟩
          obtain ⟨lv8, hl8⟩ : ∃ x, x = (memC b s6 lv6).2.2 := ⟨_, rfl⟩
          have HE7 : Hid (schC b s lv = loopC (defC b) (n - (i + 1)) (accd ++ [(dn, (loopC (memC b) (m - (j + 1)) (acc ++ [x]) s8 lv8).1)]) (loopC (memC b) (m - (j + 1)) (acc ++ [x]) s8 lv8).2.1 (loopC (memC b) (m - (j + 1)) (acc ++ [x]) s8 lv8).2.2) := by
            show _ = _
            rw [HE6.out, show m - j = (m - (j + 1)) + 1 by omega, loopC, ← hx, ← hs8, ← hl8]
          have HCT : Hid (∀ w7, RS cb rb b lv6 s6 w7 → Calls Tryz.prog 48 #[.pointer (some ⟨rb, 0, none⟩)] w7 fun e w' => ∃ v, e = .returned v ∧ (VM w7.heap.size x w' v ∧ RS cb rb b lv8 s8 w' ∧ K2 cb rb w7 w')) := fun w7 hw7 => by
            have h := cMember_any hw7
            unfold MPost at h
            rw [← hx, ← hs8, ← hl8] at h
            exact h
          have HAC : Hid (acc.length + 1 ≤ 200000) := by show _ ≤ _; have := HMM.out; have := HLEN.out; omega
          have HGW : Hid (w3.heap.size < w3.heap.size + 1) := Nat.lt_succ_self _
          clear HE6 hx hs8 hl8 hlj
          go_upto_region 6 with (fail)
          generalize hwr : wr = w6 at HRW6 HG6 HS6 HK6 ⊢
          clear hwr
          refine wp_region_noPanic ?_
          refine wp_region_held_drew (S := fun W' => True) (by kernel_rfl) trivial (fun hHeld => ?_)
          try simp only [Act.put]
          have hb7 : Below w6.heap.size w6 w6.drew := (Below.refl _ _).drew
          have HRW7 := Lib.hid (HRW6.out.later hb7)
          have HG7 := Lib.hid (HG6.out.later hb7)
          have HS7 := Lib.hid (HS6.out.later hb7)
          have HK7 := Lib.hid (HK6.out.trans (K2.of hb7))
          clear hb7
          generalize w6.drew = w7 at HRW7 HG7 HS7 HK7 hHeld ⊢
          have HN7 := Lib.hid (HCT.out w7 HS7.out)
          have HGL : Hid (w3.heap.size + 1 ≤ w7.heap.size) := by show _ ≤ _; have := HG7.out.lt; omega
          have HBL : Hid (∀ b, (Value.slice q acc.length cc).ownBlock = some b → b < w7.heap.size) := fun b hb => by obtain ⟨_, h, _⟩ := HRW7.out; exact (h.lt b hb).2
          refine wpAnyH_take (i := 0) (oi := ⟨some 15, _, _, _, _, _⟩) (v := .pointer (some ⟨w3.heap.size, 1, none⟩)) rfl (by kernel_rfl) (by kernel_rfl) (by kernel_rfl) (fun _ _ _ h => h) (.inl ⟨by rfl, fun w' hSw => ?_⟩) hHeld ?_
          focus (skip; clear hHeld; go_simp)
          try simp only [Act.put, List.setIfInBounds_toArray, List.set_cons_zero, List.set_cons_succ]
          refine wpAnyH_take (i := 2) (oi := ⟨some 17, _, _, _, _, _⟩) (v := .pointer (some ⟨rb, 0, none⟩)) rfl (by kernel_rfl) (by kernel_rfl) (by kernel_rfl) (fun _ _ _ h => h) (.inl ⟨by rfl, fun w' hSw => ?_⟩) hHeld ?_
          focus (skip; clear hHeld; go_simp)
          try simp only [Act.put, List.setIfInBounds_toArray, List.set_cons_zero, List.set_cons_succ]
          refine wpAnyH_ready (rs := [1, 3]) (by kernel_rfl) (by simp) ?_
          refine AllReadyH.cons (o := ⟨some 16, _, _, _, _, _⟩) rfl (fun K' hK' => ?_) (AllReadyH.cons (o := ⟨some 18, _, _, _, _, _⟩) rfl (fun K' hK' => ?_) AllReadyH.nil)
          · have x0 := HG7.out.cell 0
            have y0 := HG7.out.free 0
            have x1 := HG7.out.cell 1
            have y1 := HG7.out.free 1
            simp only [List.getElem?_cons_zero, List.getElem?_cons_succ] at x0 x1
            go_simp
            clear x0 y0 x1 y1
            refine hK'.out _ _ trivial (fun _ => ?_)
            clear hK' K' hHeld
            have hHeld := trivial
            try simp only [Act.put, List.setIfInBounds_toArray, List.set_cons_zero, List.set_cons_succ]
            refine wpAnyH_ready (rs := [3]) (by kernel_rfl) (by simp) ?_
            refine AllReadyH.cons (o := ⟨some 18, _, _, _, _, _⟩) rfl (fun K' hK' => ?_) AllReadyH.nil
            refine stepw_call (by rfl) ?_ HN7.out ?_
            focus go_simp
            rintro v w8 ⟨r8, s8, k8⟩
            obtain ⟨cs, rfl, vt, v3, v4, v5, v6, rfl, ra, re⟩ := r8
            have HR8 : Hid (rdMem (Bt w7.heap.size w8.heap.size) w8 x [.string (bstr x.1), .int .i64 x.2.1, vt, v3, v4, v5, v6]) := ⟨vt, v3, v4, v5, v6, rfl, ra, re⟩
            have r8 : True := trivial
            clear ra re
            have HRW8 := Lib.hid (HRW7.out.turn (w' := w8) k8.2.2.2.1 (fun b hb hl _ => k8.2.2.2.2 b hl (by have := HL.out; omega) (by have := HL.out; omega)))
            have HG8 := Lib.hid (k8.arr HG7.out (by have := HL.out; omega) (by have := HL.out; omega))
            have HS8 := Lib.hid s8
            have HK8 := Lib.hid (HK7.out.trans k8)
            skip
            clear s8 k8 r8
            refine hK'.out _ _ trivial (fun _ => ?_)
            clear hK' K' hHeld
            have hHeld := trivial
            try simp only [Act.put, List.setIfInBounds_toArray, List.set_cons_zero, List.set_cons_succ]
            refine wpAnyH_ready (rs := [4]) (by kernel_rfl) (by simp) ?_
            refine AllReadyH.cons (o := ⟨some 19, _, _, _, _, _⟩) rfl (fun K' hK' => ?_) AllReadyH.nil
            go_simp
            have hb9 : Below w8.heap.size w8 (w8.alloc (.cells #[.string (bstr x.1), .int .i64 x.2.1, vt, v3, v4, v5, v6] 66)) := (Below.refl _ _).alloc (Nat.le_refl _) _
            have HRW9 := Lib.hid (HRW8.out.later hb9)
            have HG9 := Lib.hid (HG8.out.later hb9)
            have HS9 := Lib.hid (HS8.out.later hb9)
            have HK9 := Lib.hid (HK8.out.trans (K2.of hb9))
            have HE9 : Hid (Arr (w8.alloc (.cells #[.string (bstr x.1), .int .i64 x.2.1, vt, v3, v4, v5, v6] 66)) 66 w8.heap.size [.string (bstr x.1), .int .i64 x.2.1, vt, v3, v4, v5, v6]) := Arr.new' _ _ _ _ rfl
            have HR9 : Hid (kdMem.rd (SubX (w3.heap.size + 1) (fun _ => False) (w8.alloc (.cells #[.string (bstr x.1), .int .i64 x.2.1, vt, v3, v4, v5, v6] 66)) (.slice q acc.length cc)) (w8.alloc (.cells #[.string (bstr x.1), .int .i64 x.2.1, vt, v3, v4, v5, v6] 66)) x [.string (bstr x.1), .int .i64 x.2.1, vt, v3, v4, v5, v6]) := kdMem.imp (fun b hb => ⟨by have := HGL.out; have := hb.1; omega, Nat.lt_of_lt_of_le hb.2 hb9.size, fun e => by have h1 := (HBL.out b e.symm); have := hb.1; omega, fun h => h⟩) (kdMem.keep (fun b hb n => hb9.cell (p := ⟨b, n, none⟩) hb.2) HR8.out)
            clear hb9
            generalize w8.alloc (.cells #[.string (bstr x.1), .int .i64 x.2.1, vt, v3, v4, v5, v6] 66) = w9 at HRW9 HG9 HS9 HK9 HE9 HR9 hK' ⊢
            refine hK'.out _ _ trivial (fun _ => ?_)
            clear hK' K' hHeld
            have hHeld := trivial
            try simp only [Act.put, List.setIfInBounds_toArray, List.set_cons_zero, List.set_cons_succ]
            refine wpAnyH_ready (rs := [5]) (by kernel_rfl) (by simp) ?_
            refine AllReadyH.cons (o := ⟨some 20, _, _, _, _, _⟩) rfl (fun K' hK' => ?_) AllReadyH.nil
            refine step_row (K := kdMem) rfl (.tmp 16) (.tmp 19) rfl rfl HRW9.out rfl HE9.out HR9.out HAC.out (by have := HGW.out; have := HG9.out.lt; omega) (fun b h => h.elim) ?_
            intro v10 w10 r10 g10 o10
            have HS10 := Lib.hid (HS9.out.grown g10 (B := w3.heap.size + 1) (by have := HL.out; omega) (by have := HGW.out; have := HG9.out.lt; omega) (fun k hk => (o10 k hk).1))
            have HK10 := Lib.hid (HK9.out.grownR g10 (fun k hk => Nat.le_trans (by omega) (o10 k hk).1))
            have HG10 : Hid (Arr w10 53 (w3.heap.size) [.string (bstr dn), .slice q acc.length cc]) := (g10.block _ HG9.out.lt (fun e => absurd (o10 _ e.symm).1 (by omega))).trans HG9.out
            skip
            have HRW10 := Lib.hid r10
            obtain ⟨q10, c10, hv10⟩ := r10.form
            rw [List.length_append, List.length_singleton] at hv10
            subst hv10
            clear r10 g10 o10
            refine hK'.out _ _ trivial (fun _ => ?_)
            clear hK' K' hHeld
            have hHeld := trivial
            try simp only [Act.put, List.setIfInBounds_toArray, List.set_cons_zero, List.set_cons_succ]
            refine wpAnyH_take (i := 6) (oi := ⟨some 21, _, _, _, _, _⟩) (v := .pointer (some ⟨w3.heap.size, 1, none⟩)) rfl (by kernel_rfl) (by kernel_rfl) (by kernel_rfl) (fun _ _ _ h => h) (.inl ⟨by rfl, fun w' hSw => ?_⟩) hHeld ?_
            focus (skip; clear hHeld; go_simp)
            try simp only [Act.put, List.setIfInBounds_toArray, List.set_cons_zero, List.set_cons_succ]
            refine wpAnyH_ready (rs := [7]) (by kernel_rfl) (by simp) ?_
            refine AllReadyH.cons (o := ⟨none, _, _, _, _, _⟩) rfl (fun K' hK' => ?_) AllReadyH.nil
            have x0 := HG10.out.cell 0
            have y0 := HG10.out.free 0
            have x1 := HG10.out.cell 1
            have y1 := HG10.out.free 1
            simp only [List.getElem?_cons_zero, List.getElem?_cons_succ] at x0 x1
            go_simp
            clear x0 y0 x1 y1
            refine hK'.out _ _ trivial (fun _ => ?_)
            clear hK' K' hHeld
            have hHeld := trivial
            try simp only [Act.put, List.setIfInBounds_toArray, List.set_cons_zero, List.set_cons_succ]
            have HG11 : Hid (Arr (w10.setCell ⟨w3.heap.size, 1, none⟩ (.slice q10 (acc.length + 1) c10)) 53 (w3.heap.size) [.string (bstr dn), .slice q10 (acc.length + 1) c10]) := HG10.out.set 1 _
            have HRW11 := Lib.hid (HRW10.out.box (g := w3.heap.size) (.inl (by omega)) 1 (.slice q10 (acc.length + 1) c10))
            have HS11 := Lib.hid (HS10.out.box (g := w3.heap.size) (by have := HL.out; omega) 1 (.slice q10 (acc.length + 1) c10))
            have HK11 := Lib.hid (HK10.out.box (g := w3.heap.size) (by omega) 1 (.slice q10 (acc.length + 1) c10))
            refine wpAnyH_done (by kernel_rfl) ?_ _
            refine NoPanic.normal ?_
            clear HRW10 HG10 HS10 HK10 HRW9 HG9 HS9 HK9 HE9 HR9 HRW8 HG8 HS8 HK8 HR8 
            generalize (w10.setCell ⟨w3.heap.size, 1, none⟩ (.slice q10 (acc.length + 1) c10)) = w11 at HG11 HRW11 HS11 HK11 ⊢
            go_wp2_with fail
            go_roundw
            case rel => exact ⟨j + 1, acc ++ [x], s8, lv8, q10, c10, HLT.out, by go_num, by rw [List.length_append, HLEN.out]; rfl, by rw [List.length_append]; exact HRW11.out, by rw [List.length_append]; exact HG11.out, HS11.out, HK11.out, HE7.out⟩
            case measure => first | exact meas HLT.out (Nat.le_trans HMM.out (by decide)) | exact meas' HLT.out
          · refine stepw_call (by rfl) ?_ HN7.out ?_
            focus go_simp
            rintro v w8 ⟨r8, s8, k8⟩
            obtain ⟨cs, rfl, vt, v3, v4, v5, v6, rfl, ra, re⟩ := r8
            have HR8 : Hid (rdMem (Bt w7.heap.size w8.heap.size) w8 x [.string (bstr x.1), .int .i64 x.2.1, vt, v3, v4, v5, v6]) := ⟨vt, v3, v4, v5, v6, rfl, ra, re⟩
            have r8 : True := trivial
            clear ra re
            have HRW8 := Lib.hid (HRW7.out.turn (w' := w8) k8.2.2.2.1 (fun b hb hl _ => k8.2.2.2.2 b hl (by have := HL.out; omega) (by have := HL.out; omega)))
            have HG8 := Lib.hid (k8.arr HG7.out (by have := HL.out; omega) (by have := HL.out; omega))
            have HS8 := Lib.hid s8
            have HK8 := Lib.hid (HK7.out.trans k8)
            skip
            clear s8 k8 r8
            refine hK'.out _ _ trivial (fun _ => ?_)
            clear hK' K' hHeld
            have hHeld := trivial
            try simp only [Act.put, List.setIfInBounds_toArray, List.set_cons_zero, List.set_cons_succ]
            refine wpAnyH_ready (rs := [1, 4]) (by kernel_rfl) (by simp) ?_
            refine AllReadyH.cons (o := ⟨some 16, _, _, _, _, _⟩) rfl (fun K' hK' => ?_) (AllReadyH.cons (o := ⟨some 19, _, _, _, _, _⟩) rfl (fun K' hK' => ?_) AllReadyH.nil)
            · have x0 := HG8.out.cell 0
              have y0 := HG8.out.free 0
              have x1 := HG8.out.cell 1
              have y1 := HG8.out.free 1
              simp only [List.getElem?_cons_zero, List.getElem?_cons_succ] at x0 x1
              go_simp
              clear x0 y0 x1 y1
              refine hK'.out _ _ trivial (fun _ => ?_)
              clear hK' K' hHeld
              have hHeld := trivial
              try simp only [Act.put, List.setIfInBounds_toArray, List.set_cons_zero, List.set_cons_succ]
              refine wpAnyH_ready (rs := [4]) (by kernel_rfl) (by simp) ?_
              refine AllReadyH.cons (o := ⟨some 19, _, _, _, _, _⟩) rfl (fun K' hK' => ?_) AllReadyH.nil
              go_simp
              have hb9 : Below w8.heap.size w8 (w8.alloc (.cells #[.string (bstr x.1), .int .i64 x.2.1, vt, v3, v4, v5, v6] 66)) := (Below.refl _ _).alloc (Nat.le_refl _) _
              have HRW9 := Lib.hid (HRW8.out.later hb9)
              have HG9 := Lib.hid (HG8.out.later hb9)
              have HS9 := Lib.hid (HS8.out.later hb9)
              have HK9 := Lib.hid (HK8.out.trans (K2.of hb9))
              have HE9 : Hid (Arr (w8.alloc (.cells #[.string (bstr x.1), .int .i64 x.2.1, vt, v3, v4, v5, v6] 66)) 66 w8.heap.size [.string (bstr x.1), .int .i64 x.2.1, vt, v3, v4, v5, v6]) := Arr.new' _ _ _ _ rfl
              have HR9 : Hid (kdMem.rd (SubX (w3.heap.size + 1) (fun _ => False) (w8.alloc (.cells #[.string (bstr x.1), .int .i64 x.2.1, vt, v3, v4, v5, v6] 66)) (.slice q acc.length cc)) (w8.alloc (.cells #[.string (bstr x.1), .int .i64 x.2.1, vt, v3, v4, v5, v6] 66)) x [.string (bstr x.1), .int .i64 x.2.1, vt, v3, v4, v5, v6]) := kdMem.imp (fun b hb => ⟨by have := HGL.out; have := hb.1; omega, Nat.lt_of_lt_of_le hb.2 hb9.size, fun e => by have h1 := (HBL.out b e.symm); have := hb.1; omega, fun h => h⟩) (kdMem.keep (fun b hb n => hb9.cell (p := ⟨b, n, none⟩) hb.2) HR8.out)
              clear hb9
              generalize w8.alloc (.cells #[.string (bstr x.1), .int .i64 x.2.1, vt, v3, v4, v5, v6] 66) = w9 at HRW9 HG9 HS9 HK9 HE9 HR9 hK' ⊢
              refine hK'.out _ _ trivial (fun _ => ?_)
              clear hK' K' hHeld
              have hHeld := trivial
              try simp only [Act.put, List.setIfInBounds_toArray, List.set_cons_zero, List.set_cons_succ]
              refine wpAnyH_ready (rs := [5]) (by kernel_rfl) (by simp) ?_
              refine AllReadyH.cons (o := ⟨some 20, _, _, _, _, _⟩) rfl (fun K' hK' => ?_) AllReadyH.nil
              refine step_row (K := kdMem) rfl (.tmp 16) (.tmp 19) rfl rfl HRW9.out rfl HE9.out HR9.out HAC.out (by have := HGW.out; have := HG9.out.lt; omega) (fun b h => h.elim) ?_
              intro v10 w10 r10 g10 o10
              have HS10 := Lib.hid (HS9.out.grown g10 (B := w3.heap.size + 1) (by have := HL.out; omega) (by have := HGW.out; have := HG9.out.lt; omega) (fun k hk => (o10 k hk).1))
              have HK10 := Lib.hid (HK9.out.grownR g10 (fun k hk => Nat.le_trans (by omega) (o10 k hk).1))
              have HG10 : Hid (Arr w10 53 (w3.heap.size) [.string (bstr dn), .slice q acc.length cc]) := (g10.block _ HG9.out.lt (fun e => absurd (o10 _ e.symm).1 (by omega))).trans HG9.out
              skip
              have HRW10 := Lib.hid r10
              obtain ⟨q10, c10, hv10⟩ := r10.form
              rw [List.length_append, List.length_singleton] at hv10
              subst hv10
              clear r10 g10 o10
              refine hK'.out _ _ trivial (fun _ => ?_)
              clear hK' K' hHeld
              have hHeld := trivial
              try simp only [Act.put, List.setIfInBounds_toArray, List.set_cons_zero, List.set_cons_succ]
              refine wpAnyH_take (i := 6) (oi := ⟨some 21, _, _, _, _, _⟩) (v := .pointer (some ⟨w3.heap.size, 1, none⟩)) rfl (by kernel_rfl) (by kernel_rfl) (by kernel_rfl) (fun _ _ _ h => h) (.inl ⟨by rfl, fun w' hSw => ?_⟩) hHeld ?_
              focus (skip; clear hHeld; go_simp)
              try simp only [Act.put, List.setIfInBounds_toArray, List.set_cons_zero, List.set_cons_succ]
              refine wpAnyH_ready (rs := [7]) (by kernel_rfl) (by simp) ?_
              refine AllReadyH.cons (o := ⟨none, _, _, _, _, _⟩) rfl (fun K' hK' => ?_) AllReadyH.nil
              have x0 := HG10.out.cell 0
              have y0 := HG10.out.free 0
              have x1 := HG10.out.cell 1
              have y1 := HG10.out.free 1
              simp only [List.getElem?_cons_zero, List.getElem?_cons_succ] at x0 x1
              go_simp
              clear x0 y0 x1 y1
              refine hK'.out _ _ trivial (fun _ => ?_)
              clear hK' K' hHeld
              have hHeld := trivial
              try simp only [Act.put, List.setIfInBounds_toArray, List.set_cons_zero, List.set_cons_succ]
              have HG11 : Hid (Arr (w10.setCell ⟨w3.heap.size, 1, none⟩ (.slice q10 (acc.length + 1) c10)) 53 (w3.heap.size) [.string (bstr dn), .slice q10 (acc.length + 1) c10]) := HG10.out.set 1 _
              have HRW11 := Lib.hid (HRW10.out.box (g := w3.heap.size) (.inl (by omega)) 1 (.slice q10 (acc.length + 1) c10))
              have HS11 := Lib.hid (HS10.out.box (g := w3.heap.size) (by have := HL.out; omega) 1 (.slice q10 (acc.length + 1) c10))
              have HK11 := Lib.hid (HK10.out.box (g := w3.heap.size) (by omega) 1 (.slice q10 (acc.length + 1) c10))
              refine wpAnyH_done (by kernel_rfl) ?_ _
              refine NoPanic.normal ?_
              clear HRW10 HG10 HS10 HK10 HRW9 HG9 HS9 HK9 HE9 HR9 HRW8 HG8 HS8 HK8 HR8 
              generalize (w10.setCell ⟨w3.heap.size, 1, none⟩ (.slice q10 (acc.length + 1) c10)) = w11 at HG11 HRW11 HS11 HK11 ⊢
              go_wp2_with fail
              go_roundw
              case rel => exact ⟨j + 1, acc ++ [x], s8, lv8, q10, c10, HLT.out, by go_num, by rw [List.length_append, HLEN.out]; rfl, by rw [List.length_append]; exact HRW11.out, by rw [List.length_append]; exact HG11.out, HS11.out, HK11.out, HE7.out⟩
              case measure => first | exact meas HLT.out (Nat.le_trans HMM.out (by decide)) | exact meas' HLT.out
            · go_simp
              have hb9 : Below w8.heap.size w8 (w8.alloc (.cells #[.string (bstr x.1), .int .i64 x.2.1, vt, v3, v4, v5, v6] 66)) := (Below.refl _ _).alloc (Nat.le_refl _) _
              have HRW9 := Lib.hid (HRW8.out.later hb9)
              have HG9 := Lib.hid (HG8.out.later hb9)
              have HS9 := Lib.hid (HS8.out.later hb9)
              have HK9 := Lib.hid (HK8.out.trans (K2.of hb9))
              have HE9 : Hid (Arr (w8.alloc (.cells #[.string (bstr x.1), .int .i64 x.2.1, vt, v3, v4, v5, v6] 66)) 66 w8.heap.size [.string (bstr x.1), .int .i64 x.2.1, vt, v3, v4, v5, v6]) := Arr.new' _ _ _ _ rfl
              have HR9 : Hid (kdMem.rd (SubX (w3.heap.size + 1) (fun _ => False) (w8.alloc (.cells #[.string (bstr x.1), .int .i64 x.2.1, vt, v3, v4, v5, v6] 66)) (.slice q acc.length cc)) (w8.alloc (.cells #[.string (bstr x.1), .int .i64 x.2.1, vt, v3, v4, v5, v6] 66)) x [.string (bstr x.1), .int .i64 x.2.1, vt, v3, v4, v5, v6]) := kdMem.imp (fun b hb => ⟨by have := HGL.out; have := hb.1; omega, Nat.lt_of_lt_of_le hb.2 hb9.size, fun e => by have h1 := (HBL.out b e.symm); have := hb.1; omega, fun h => h⟩) (kdMem.keep (fun b hb n => hb9.cell (p := ⟨b, n, none⟩) hb.2) HR8.out)
              clear hb9
              generalize w8.alloc (.cells #[.string (bstr x.1), .int .i64 x.2.1, vt, v3, v4, v5, v6] 66) = w9 at HRW9 HG9 HS9 HK9 HE9 HR9 hK' ⊢
              refine hK'.out _ _ trivial (fun _ => ?_)
              clear hK' K' hHeld
              have hHeld := trivial
              try simp only [Act.put, List.setIfInBounds_toArray, List.set_cons_zero, List.set_cons_succ]
              refine wpAnyH_ready (rs := [1]) (by kernel_rfl) (by simp) ?_
              refine AllReadyH.cons (o := ⟨some 16, _, _, _, _, _⟩) rfl (fun K' hK' => ?_) AllReadyH.nil
              have x0 := HG9.out.cell 0
              have y0 := HG9.out.free 0
              have x1 := HG9.out.cell 1
              have y1 := HG9.out.free 1
              simp only [List.getElem?_cons_zero, List.getElem?_cons_succ] at x0 x1
              go_simp
              clear x0 y0 x1 y1
              refine hK'.out _ _ trivial (fun _ => ?_)
              clear hK' K' hHeld
              have hHeld := trivial
              try simp only [Act.put, List.setIfInBounds_toArray, List.set_cons_zero, List.set_cons_succ]
              refine wpAnyH_ready (rs := [5]) (by kernel_rfl) (by simp) ?_
              refine AllReadyH.cons (o := ⟨some 20, _, _, _, _, _⟩) rfl (fun K' hK' => ?_) AllReadyH.nil
              refine step_row (K := kdMem) rfl (.tmp 16) (.tmp 19) rfl rfl HRW9.out rfl HE9.out HR9.out HAC.out (by have := HGW.out; have := HG9.out.lt; omega) (fun b h => h.elim) ?_
              intro v10 w10 r10 g10 o10
              have HS10 := Lib.hid (HS9.out.grown g10 (B := w3.heap.size + 1) (by have := HL.out; omega) (by have := HGW.out; have := HG9.out.lt; omega) (fun k hk => (o10 k hk).1))
              have HK10 := Lib.hid (HK9.out.grownR g10 (fun k hk => Nat.le_trans (by omega) (o10 k hk).1))
              have HG10 : Hid (Arr w10 53 (w3.heap.size) [.string (bstr dn), .slice q acc.length cc]) := (g10.block _ HG9.out.lt (fun e => absurd (o10 _ e.symm).1 (by omega))).trans HG9.out
              skip
              have HRW10 := Lib.hid r10
              obtain ⟨q10, c10, hv10⟩ := r10.form
              rw [List.length_append, List.length_singleton] at hv10
              subst hv10
              clear r10 g10 o10
              refine hK'.out _ _ trivial (fun _ => ?_)
              clear hK' K' hHeld
              have hHeld := trivial
              try simp only [Act.put, List.setIfInBounds_toArray, List.set_cons_zero, List.set_cons_succ]
              refine wpAnyH_take (i := 6) (oi := ⟨some 21, _, _, _, _, _⟩) (v := .pointer (some ⟨w3.heap.size, 1, none⟩)) rfl (by kernel_rfl) (by kernel_rfl) (by kernel_rfl) (fun _ _ _ h => h) (.inl ⟨by rfl, fun w' hSw => ?_⟩) hHeld ?_
              focus (skip; clear hHeld; go_simp)
              try simp only [Act.put, List.setIfInBounds_toArray, List.set_cons_zero, List.set_cons_succ]
              refine wpAnyH_ready (rs := [7]) (by kernel_rfl) (by simp) ?_
              refine AllReadyH.cons (o := ⟨none, _, _, _, _, _⟩) rfl (fun K' hK' => ?_) AllReadyH.nil
              have x0 := HG10.out.cell 0
              have y0 := HG10.out.free 0
              have x1 := HG10.out.cell 1
              have y1 := HG10.out.free 1
              simp only [List.getElem?_cons_zero, List.getElem?_cons_succ] at x0 x1
              go_simp
              clear x0 y0 x1 y1
              refine hK'.out _ _ trivial (fun _ => ?_)
              clear hK' K' hHeld
              have hHeld := trivial
              try simp only [Act.put, List.setIfInBounds_toArray, List.set_cons_zero, List.set_cons_succ]
              have HG11 : Hid (Arr (w10.setCell ⟨w3.heap.size, 1, none⟩ (.slice q10 (acc.length + 1) c10)) 53 (w3.heap.size) [.string (bstr dn), .slice q10 (acc.length + 1) c10]) := HG10.out.set 1 _
              have HRW11 := Lib.hid (HRW10.out.box (g := w3.heap.size) (.inl (by omega)) 1 (.slice q10 (acc.length + 1) c10))
              have HS11 := Lib.hid (HS10.out.box (g := w3.heap.size) (by have := HL.out; omega) 1 (.slice q10 (acc.length + 1) c10))
              have HK11 := Lib.hid (HK10.out.box (g := w3.heap.size) (by omega) 1 (.slice q10 (acc.length + 1) c10))
              refine wpAnyH_done (by kernel_rfl) ?_ _
              refine NoPanic.normal ?_
              clear HRW10 HG10 HS10 HK10 HRW9 HG9 HS9 HK9 HE9 HR9 HRW8 HG8 HS8 HK8 HR8 
              generalize (w10.setCell ⟨w3.heap.size, 1, none⟩ (.slice q10 (acc.length + 1) c10)) = w11 at HG11 HRW11 HS11 HK11 ⊢
              go_wp2_with fail
              go_roundw
              case rel => exact ⟨j + 1, acc ++ [x], s8, lv8, q10, c10, HLT.out, by go_num, by rw [List.length_append, HLEN.out]; rfl, by rw [List.length_append]; exact HRW11.out, by rw [List.length_append]; exact HG11.out, HS11.out, HK11.out, HE7.out⟩
              case measure => first | exact meas HLT.out (Nat.le_trans HMM.out (by decide)) | exact meas' HLT.out
        · have hlj' : ¬ (j : Int) < m := by omega
          have HE7 : Hid (schC b s lv = loopC (defC b) (n - (i + 1)) (accd ++ [(dn, acc)]) s6 lv6) := by
            show _ = _
            rw [HE6.out, show m - j = 0 by omega]; rfl
          have HRD6 := Lib.hid (HRD3.out.turn (w' := wr) HK6.out.2.2.2.1 (fun b hb hl _ => HK6.out.2.2.2.2 b hl (by have := HL0.out; omega) (by have := HL0.out; omega)))
          have HGD6 := Lib.hid (HK6.out.arr HGD3.out (by have := HL0.out; omega) (by have := HL0.out; omega))
          have HKW := Lib.hid (HK3.out.trans HK6.out)
          have HGB : Hid (W.heap.size + 1 ≤ w3.heap.size) := by have := HGD3.out.lt; exact this
          have HRK := Lib.hid HRW6.out.rdK
          have hb9 : Below wr.heap.size wr (wr.alloc (.cells #[.string (bstr dn), .slice q acc.length cc] 53)) := (Below.refl _ _).alloc (Nat.le_refl _) _
          have HRD9 := Lib.hid (HRD6.out.later hb9)
          have HGD9 := Lib.hid (HGD6.out.later hb9)
          have HS9 := Lib.hid (HS6.out.later hb9)
          have HK9 := Lib.hid (HKW.out.trans (K2.of hb9))
          have HE9 : Hid (Arr (wr.alloc (.cells #[.string (bstr dn), .slice q acc.length cc] 53)) 53 wr.heap.size [.string (bstr dn), .slice q acc.length cc]) := Arr.new' _ _ _ _ rfl
          have HBL : Hid (∀ b, (Value.slice qd accd.length cd).ownBlock = some b → b < w3.heap.size) := fun b hb => by obtain ⟨_, h, _⟩ := HRD3.out; exact (h.lt b hb).2
          have HR9 : Hid (kdDef.rd (SubX (W.heap.size + 1) (fun _ => False) (wr.alloc (.cells #[.string (bstr dn), .slice q acc.length cc] 53)) (.slice qd accd.length cd)) (wr.alloc (.cells #[.string (bstr dn), .slice q acc.length cc] 53)) (dn, acc) [.string (bstr dn), .slice q acc.length cc]) := kdDef.imp (fun b hb => ⟨by have := HGB.out; have := hb.1; omega, Nat.lt_of_lt_of_le hb.2 hb9.size, fun e => by have h1 := (HBL.out b e.symm); have := hb.1; omega, fun h => h⟩) (kdDef.keep (fun b hb n => hb9.cell (p := ⟨b, n, none⟩) hb.2) (show rdDef (Bt (w3.heap.size + 1) wr.heap.size) wr (dn, acc) _ from ⟨_, rfl, HRK.out⟩))
          have HAC : Hid (accd.length + 1 ≤ 200000) := by show _ ≤ _; have := HNN.out; have := HLD.out; omega
          have HBS : Hid (W.heap.size + 1 ≤ (wr.alloc (.cells #[.string (bstr dn), .slice q acc.length cc] 53)).heap.size) := by have := HGD9.out.lt; exact this
          clear HE6 HRD6 HKW HRK HRD3 HGD3 HK3 hb9 hlj
          have x0 := HG6.out.cell 0
          have y0 := HG6.out.free 0
          have x1 := HG6.out.cell 1
          have y1 := HG6.out.free 1
          simp only [List.getElem?_cons_zero, List.getElem?_cons_succ] at x0 x1
          have p0 := HGD6.out.cell 0
          have z0 := HGD6.out.free 0
          simp only [List.getElem?_cons_zero] at p0
          go_wp2_with (at_builtin; refine app_row (K := kdDef) (x := (dn, acc)) rfl _ _ rfl rfl HRD9.out rfl HE9.out HR9.out HAC.out HBS.out (fun b h => h.elim) ?_)
          intro v10 w10 r10 g10 o10
          have HS10 := Lib.hid (HS9.out.grown g10 (B := W.heap.size + 1) (by have := HL0.out; omega) HBS.out (fun k hk => o10 k hk))
          have HK10 := Lib.hid (HK9.out.grownR g10 (fun k hk => Nat.le_trans (Nat.le_succ _) (o10 k hk)))
          have HGD10 : Hid (Arr w10 26 W.heap.size [.slice qd accd.length cd]) := (g10.block _ HGD9.out.lt (fun e => absurd (o10 _ e.symm) (Nat.not_succ_le_self _))).trans HGD9.out
          have HRD10 := Lib.hid r10
          obtain ⟨q10, c10, hv10⟩ := r10.form
          rw [List.length_append, List.length_singleton] at hv10
          subst hv10
          clear r10 g10 o10 x0 x1 y0 y1 p0 z0 HG6 HGD6 HS9 HK9 HGD9 HRD9 HE9 HR9
          have x0 := HGD10.out.cell 0
          have y0 := HGD10.out.free 0
          simp only [List.getElem?_cons_zero] at x0
          go_wp2_with fail
          go_roundw
          case rel => exact ⟨i + 1, accd ++ [(dn, acc)], s6, lv6, q10, c10, HLI.out, by go_num, by rw [List.length_append, HLD.out]; rfl, by rw [List.length_append]; exact HRD10.out.box (g := W.heap.size) (.inl (Nat.lt_succ_self _)) 0 _, by rw [List.length_append]; exact HGD10.out.set 0 _, HS10.out.box (g := W.heap.size) HL0.out.2 0 _, HK10.out.box (g := W.heap.size) (Nat.le_refl _) 0 _, HE7.out⟩
          case measure => first | exact meas HLI.out (Nat.le_trans HNN.out (by decide)) | exact meas' HLI.out
    · have hlt' : ¬ (i : Int) < n := by omega
      have HE7 : Hid (schC b s lv = (accd, s2, lv2)) := by
        show _ = _
        rw [HE2.out, show n - i = 0 by omega]; rfl
      have x0 := HGD.out.cell 0
      have y0 := HGD.out.free 0
      simp only [List.getElem?_cons_zero] at x0
      go_wp2_with fail
      have hk := kp_setS wr W.heap.size (.slice qd accd.length cd)
      have hA := HGD.out.setS (.slice qd accd.length cd)
      refine bodyPost_ret (resS rfl hA rfl) rfl ?_
      rw [HE7.out]
      exact ⟨_, rfl, ⟨_, rfl, (RdK.kp HRD.out.rdK hk (Nat.lt_succ_self _)).imp fun b hb => ⟨by have := hb.1; omega, hb.2⟩⟩, HS2.out.box (g := W.heap.size) HL0.out.2 0 _, HK2.out.box (g := W.heap.size) (Nat.le_refl _) 0 _⟩
end
end Go.Proofs.YtdnmgemjhpkekaaGreatDoor
/-
  newReader, finish, ParseExpr, Parse.
-/
namespace Go.Proofs.YtdnmgemjhpkekaaGreatDoor
open Go.ChangeShapes Go.WideShapes Go.ChangeAt Go.RowKit
set_option linter.unusedVariables false

set_option maxRecDepth 100000 in
set_option maxHeartbeats 2000000 in
theorem end_done' {w : World} {c at' : Nat} {l : List UInt8} (h : Cur w c l at') (hl : at' = l.length) :
    Calls Tryz.prog 49 #[.pointer (some ⟨c, 0, none⟩)] w fun e w' => e = .returned .nilIface ∧ ∃ n, w' = w.drewN n := by
  have HL := Lib.hid (left_any h)
  rw [hl, Nat.sub_self] at HL
  go_enter Tryz.func49, Tryz.ntmps49
  go_wp2_with fail
  refine HL.out.mono ?_
  rintro e w1 ⟨rfl, nq, rfl⟩
  go_wp2_with fail
  go_ret
  exact ⟨rfl, _, rfl⟩
section
variable {cb rb lv : Nat} {b : List UInt8} {s : St} {W : World}
set_option maxRecDepth 100000 in
set_option maxHeartbeats 2000000 in
theorem failE_any {k o : Nat} (c a : Nat) (h : RS cb rb b lv (.er k o) W) : Calls Tryz.prog 50 #[.pointer (some ⟨rb, 0, none⟩), .int .i64 (c : Nat), .int .i64 (a : Nat)] W fun e w' => e = .returned (.tuple #[]) ∧ W = w' := by
  have HA : Hid (Arr W 92 rb [.pointer (some ⟨cb, 0, none⟩), .iface 105 (.agg #[.int .i64 (k : Nat), .int .i64 (o : Nat)]), .int .i64 (lv : Nat)]) := h.arr
  have hq : (binOp BinOp.eql 28 (.iface 105 (.agg #[.int .i64 (k : Nat), .int .i64 (o : Nat)])) .nilIface).run Tryz.prog W = .ok (.bool false) W := by kernel_rfl
  have x0 := HA.out.cell 0
  have y0 := HA.out.free 0
  have x1 := HA.out.cell 1
  have y1 := HA.out.free 1
  have x2 := HA.out.cell 2
  have y2 := HA.out.free 2
  simp only [List.getElem?_cons_zero, List.getElem?_cons_succ] at x0 x1 x2
  clear h
  go_enter Tryz.func50, Tryz.ntmps50
  go_wp2_with fail
  go_end0
  exact ⟨rfl, rfl⟩
theorem errF_at {c a : Nat} (h : c ≠ 0) : errF c a = faultN c a := if_neg h
set_option maxRecDepth 100000 in
set_option maxHeartbeats 2000000 in
theorem finish_any (h : RS cb rb b lv s W) (hc : ∀ c a, s = .er c a → c ≠ 0) : Calls Tryz.prog 24 #[.pointer (some ⟨rb, 0, none⟩)] W fun e w' => e = .returned (errF (finC b s).1 (finC b s).2) ∧ K2 cb rb W w' := by
  have HA := Lib.hid h.arr
  have HS := Lib.hid h
  cases s with
  | er k o =>
    have HCC : Hid (k ≠ 0) := hc k o rfl
    have HA : Hid (Arr W 92 rb [.pointer (some ⟨cb, 0, none⟩), .iface 105 (.agg #[.int .i64 (k : Nat), .int .i64 (o : Nat)]), .int .i64 (lv : Nat)]) := HA.out
    obtain ⟨x, hcx, _, _, _, _, _, _⟩ := h
    have HCU := Lib.hid hcx
    have hle : x ≤ b.length := by obtain ⟨_, _, _, h, _⟩ := hcx; exact h
    by_cases hx : x < b.length
    · have HEN := Lib.hid (end_left HCU.out hx)
      have hq := eqNC (16 : Nat)
      clear hcx hx hle hc
      have x0 := HA.out.cell 0
      have y0 := HA.out.free 0
      have x1 := HA.out.cell 1
      have y1 := HA.out.free 1
      have x2 := HA.out.cell 2
      have y2 := HA.out.free 2
      simp only [List.getElem?_cons_zero, List.getElem?_cons_succ] at x0 x1 x2
      go_enter Tryz.func24, Tryz.ntmps24
      go_wp2_with fail
      refine HEN.out.mono ?_
      rintro e w1 ⟨rfl, n1, rfl⟩
      have hb1 : Below W.heap.size W (W.drewN n1) := Joins.below_draws _ _ _
      have HS1 := Lib.hid (HS.out.later hb1)
      have HC1 : Hid (Cur (W.drewN n1) cb b x) := HCU.out.drewN n1
      have HK1 : Hid (K2 cb rb W (W.drewN n1)) := K2.of hb1
      have HA1 : Hid (Arr (W.drewN n1) 92 rb [.pointer (some ⟨cb, 0, none⟩), .iface 105 (.agg #[.int .i64 (k : Nat), .int .i64 (o : Nat)]), .int .i64 (lv : Nat)]) := HA.out.drewN n1
      generalize W.drewN n1 = w1 at HS1 HC1 HK1 HA1 ⊢
      clear hb1 HEN HS HA HCU x0 x1 x2 y0 y1 y2
      have x0 := HA1.out.cell 0
      have y0 := HA1.out.free 0
      have x1 := HA1.out.cell 1
      have y1 := HA1.out.free 1
      have x2 := HA1.out.cell 2
      have y2 := HA1.out.free 2
      simp only [List.getElem?_cons_zero, List.getElem?_cons_succ] at x0 x1 x2
      go_wp2_with fail
      refine (at_any HC1.out).mono ?_
      rintro e w2 ⟨rfl, rfl⟩
      go_wp2_with fail
      refine (failE_any 16 x HS1.out).mono ?_
      rintro e w3 ⟨rfl, rfl⟩
      go_wp2_with fail
      go_ret
      exact ⟨by show _ = Ending.returned (errF k o); rw [errF_at HCC.out]; rfl, HK1.out⟩
    · have HEN := Lib.hid (end_done' HCU.out (by omega))
      clear hcx hx hle hc
      have x0 := HA.out.cell 0
      have y0 := HA.out.free 0
      have x1 := HA.out.cell 1
      have y1 := HA.out.free 1
      have x2 := HA.out.cell 2
      have y2 := HA.out.free 2
      simp only [List.getElem?_cons_zero, List.getElem?_cons_succ] at x0 x1 x2
      go_enter Tryz.func24, Tryz.ntmps24
      go_wp2_with fail
      refine HEN.out.mono ?_
      rintro e w1 ⟨rfl, n1, rfl⟩
      have hb1 : Below W.heap.size W (W.drewN n1) := Joins.below_draws _ _ _
      have HK1 : Hid (K2 cb rb W (W.drewN n1)) := K2.of hb1
      have HA1 : Hid (Arr (W.drewN n1) 92 rb [.pointer (some ⟨cb, 0, none⟩), .iface 105 (.agg #[.int .i64 (k : Nat), .int .i64 (o : Nat)]), .int .i64 (lv : Nat)]) := HA.out.drewN n1
      generalize W.drewN n1 = w1 at HK1 HA1 ⊢
      clear hb1 HEN HS HA HCU x0 x1 x2 y0 y1 y2
      have x0 := HA1.out.cell 0
      have y0 := HA1.out.free 0
      have x1 := HA1.out.cell 1
      have y1 := HA1.out.free 1
      have x2 := HA1.out.cell 2
      have y2 := HA1.out.free 2
      simp only [List.getElem?_cons_zero, List.getElem?_cons_succ] at x0 x1 x2
      go_wp2_with fail
      go_ret
      exact ⟨by show _ = Ending.returned (errF k o); rw [errF_at HCC.out]; rfl, HK1.out⟩
  | go o =>
    have HA : Hid (Arr W 92 rb [.pointer (some ⟨cb, 0, none⟩), .nilIface, .int .i64 (lv : Nat)]) := HA.out
    have HCU := Lib.hid h.at
    have hle : o ≤ b.length := h.off
    clear hc
    by_cases hx : o < b.length
    · have HEN := Lib.hid (end_left HCU.out hx)
      have HE : Hid (finC b (.go o) = (16, o)) := if_pos hx
      have hq := eqNC (16 : Nat)
      clear hx hle h
      have x0 := HA.out.cell 0
      have y0 := HA.out.free 0
      have x1 := HA.out.cell 1
      have y1 := HA.out.free 1
      have x2 := HA.out.cell 2
      have y2 := HA.out.free 2
      simp only [List.getElem?_cons_zero, List.getElem?_cons_succ] at x0 x1 x2
      go_enter Tryz.func24, Tryz.ntmps24
      go_wp2_with fail
      refine HEN.out.mono ?_
      rintro e w1 ⟨rfl, n1, rfl⟩
      have hb1 : Below W.heap.size W (W.drewN n1) := Joins.below_draws _ _ _
      have HS1 := Lib.hid (HS.out.later hb1)
      have HC1 : Hid (Cur (W.drewN n1) cb b o) := HCU.out.drewN n1
      have HK1 : Hid (K2 cb rb W (W.drewN n1)) := K2.of hb1
      have HA1 : Hid (Arr (W.drewN n1) 92 rb [.pointer (some ⟨cb, 0, none⟩), .nilIface, .int .i64 (lv : Nat)]) := HA.out.drewN n1
      generalize W.drewN n1 = w1 at HS1 HC1 HK1 HA1 ⊢
      clear hb1 HEN HS HA HCU x0 x1 x2 y0 y1 y2
      have x0 := HA1.out.cell 0
      have y0 := HA1.out.free 0
      have x1 := HA1.out.cell 1
      have y1 := HA1.out.free 1
      have x2 := HA1.out.cell 2
      have y2 := HA1.out.free 2
      simp only [List.getElem?_cons_zero, List.getElem?_cons_succ] at x0 x1 x2
      go_wp2_with fail
      refine (at_any HC1.out).mono ?_
      rintro e w2 ⟨rfl, rfl⟩
      go_wp2_with fail
      refine (fail_any 16 o HS1.out).mono ?_
      rintro e w3 ⟨rfl, h3, k3⟩
      have HK3 := Lib.hid (HK1.out.trans k3)
      have HA3 : Hid (Arr w3 92 rb [.pointer (some ⟨cb, 0, none⟩), .iface 105 (.agg #[.int .i64 (16 : Nat), .int .i64 (o : Nat)]), .int .i64 (lv : Nat)]) := h3.arr
      clear h3 k3 HS1 HC1 HK1 HA1 x0 x1 x2 y0 y1 y2
      have x0 := HA3.out.cell 0
      have y0 := HA3.out.free 0
      have x1 := HA3.out.cell 1
      have y1 := HA3.out.free 1
      have x2 := HA3.out.cell 2
      have y2 := HA3.out.free 2
      simp only [List.getElem?_cons_zero, List.getElem?_cons_succ] at x0 x1 x2
      go_wp2_with fail
      go_ret
      rw [HE.out]
      exact ⟨rfl, HK3.out⟩
    · have HEN := Lib.hid (end_done' HCU.out (by omega))
      have HE : Hid (finC b (.go o) = (0, 0)) := if_neg hx
      clear hx hle h
      have x0 := HA.out.cell 0
      have y0 := HA.out.free 0
      have x1 := HA.out.cell 1
      have y1 := HA.out.free 1
      have x2 := HA.out.cell 2
      have y2 := HA.out.free 2
      simp only [List.getElem?_cons_zero, List.getElem?_cons_succ] at x0 x1 x2
      go_enter Tryz.func24, Tryz.ntmps24
      go_wp2_with fail
      refine HEN.out.mono ?_
      rintro e w1 ⟨rfl, n1, rfl⟩
      have hb1 : Below W.heap.size W (W.drewN n1) := Joins.below_draws _ _ _
      have HK1 : Hid (K2 cb rb W (W.drewN n1)) := K2.of hb1
      have HA1 : Hid (Arr (W.drewN n1) 92 rb [.pointer (some ⟨cb, 0, none⟩), .nilIface, .int .i64 (lv : Nat)]) := HA.out.drewN n1
      generalize W.drewN n1 = w1 at HK1 HA1 ⊢
      clear hb1 HEN HS HA HCU x0 x1 x2 y0 y1 y2
      have x0 := HA1.out.cell 0
      have y0 := HA1.out.free 0
      have x1 := HA1.out.cell 1
      have y1 := HA1.out.free 1
      have x2 := HA1.out.cell 2
      have y2 := HA1.out.free 2
      simp only [List.getElem?_cons_zero, List.getElem?_cons_succ] at x0 x1 x2
      go_wp2_with fail
      go_ret
      rw [HE.out]
      exact ⟨rfl, HK1.out⟩
set_option maxRecDepth 100000 in
set_option maxHeartbeats 2000000 in
theorem newReader_any {vb : Value} (hr : Rd W.heap.size W vb b) (hl : b.length ≤ 1000000) (hE : Env W) : Calls Tryz.prog 22 #[vb] W fun e w' => ∃ cb rb, e = .returned (.pointer (some ⟨rb, 0, none⟩)) ∧ W.heap.size ≤ cb ∧ RS cb rb b 0 (.go 0) w' ∧ Below W.heap.size W w' := by
  have HN := Lib.hid (new_any hr (Nat.le_refl _) (by omega))
  have HE := Lib.hid hE
  have HLN := Lib.hid hl
  clear hr hl hE
  go_enter Tryz.func22, Tryz.ntmps22
  go_wp2_with fail
  refine HN.out.mono ?_
  rintro e w1 ⟨c, rfl, hc, h1, b1⟩
  have hb2 : Below w1.heap.size w1 (w1.alloc (.cells #[.pointer (some ⟨c, 0, none⟩), .nilIface, .int .i64 0] 92)) := (Below.refl _ _).alloc (Nat.le_refl _) _
  have HS2 : Hid (RS c w1.heap.size b 0 (.go 0) (w1.alloc (.cells #[.pointer (some ⟨c, 0, none⟩), .nilIface, .int .i64 0] 92))) :=
    ⟨0, h1.below hb2 h1.lt, Arr.new' _ _ _ _ rfl, ⟨W, HE.out, hc, b1.trans (hb2.mono b1.size)⟩, h1.lt, by decide, HLN.out, fun _ e => by cases e; rfl⟩
  have HB2 := Lib.hid (b1.trans (hb2.mono b1.size))
  have HC := Lib.hid hc
  clear h1 b1 hc hb2 HN
  go_wp2_with fail
  go_ret
  exact ⟨c, _, rfl, HC.out, HS2.out, HB2.out⟩
end
/-- A code with its offset, of a state at the end. -/
theorem finC_ok {b : List UInt8} {α : Type} (r : α × St × Nat) : (∃ c a, asR r = .bad c a ∧ finC b r.2.1 = (c, a)) ∨ ∃ o, asR r = .ok r.1 o r.2.2 ∧ finC b r.2.1 = (if o < b.length then (16, o) else (0, 0)) := by
  obtain ⟨x, s, l⟩ := r
  cases s with
  | er c a => exact .inl ⟨c, a, rfl, rfl⟩
  | go o => exact .inr ⟨o, rfl, rfl⟩
theorem parseEx_fin (b : List UInt8) : parseEx b = (if (finC b (partC b 16 (.go 0) 0).2.1).1 = 0 then (partC b 16 (.go 0) 0).1 else ex0, finC b (partC b 16 (.go 0) 0).2.1) := by
  have h := part_as b 16 0 0
  unfold parseEx
  rcases finC_ok (b := b) (partC b 16 (.go 0) 0) with ⟨c, a, h1, h2⟩ | ⟨o, h1, h2⟩
  · rw [h1] at h
    rw [← h, h2]
    have : c ≠ 0 := readE_ne 16 0 0 c a h.symm
    show _ = (if c = 0 then _ else _, _)
    rw [if_neg this]
  · rw [h1] at h
    rw [← h, h2]
    by_cases ho : o < b.length
    · simp only [if_pos ho]; rfl
    · simp only [if_neg ho]; rfl
theorem part_code {b : List UInt8} {c a : Nat} (h : (partC b 16 (.go 0) 0).2.1 = .er c a) : c ≠ 0 := by
  have h1 := part_as b 16 0 0
  rw [asR_er h] at h1
  exact readE_ne 16 0 0 c a h1.symm
theorem VE.k2 {B cb rb : Nat} {e : Ex} {w w' : World} {v : Value} (h : VE B e w v) (hk : K2 cb rb w w') (h1 : cb < B) (h2 : rb < B) : VE B e w' v :=
  (RdE.keep (fun b hb n => World.cell?_of_block (hk.2.2.2.2 b hb.2 (by have := hb.1; omega) (by have := hb.1; omega))) h).imp fun b hb => ⟨hb.1, Nat.lt_of_lt_of_le hb.2 hk.2.2.2.1⟩
theorem resX2 {fn : Func} {p q : Tmp} (h : fn.results = #[.cell p 42, .tmp q]) {tmps : Array Value} {w : World} {g : Nat} {x0 x1 x2 x3 : Value} (hA : Arr w 42 g [x0, x1, x2, x3]) (hp : tmps.getD p undef = .pointer (some ⟨g, 0, none⟩)) :
    (results fn tmps).run Tryz.prog w = .ok (.tuple #[.agg #[x0, x1, x2, x3], tmps.getD q undef]) w :=
  results_cell_tmp h tmps w g 42 #[x0, x1, x2, x3] (0, 0) _ hp hA Tryz.underlying42 rfl (by kernel_rfl)
/-- What parsing an expression hands back. -/
def EPost (W : World) (r : Ex × Nat × Nat) (e : Ending) (w' : World) : Prop := ∃ v, e = .returned (.tuple #[v, errF r.2.1 r.2.2]) ∧ VE W.heap.size r.1 w' v ∧ Below W.heap.size W w'
set_option maxRecDepth 100000 in
set_option maxHeartbeats 4000000 in
theorem cParseExpr_any {W : World} {b : List UInt8} {vb : Value} (hr : Rd W.heap.size W vb b) (hl : b.length ≤ 1000000) (hE : Env W) : Calls Tryz.prog 18 #[vb] W (EPost W (parseEx b)) := by
  have hb : Below W.heap.size W (W.alloc (.cells #[.int .i64 0, .string ⟨#[]⟩, .string ⟨#[]⟩, .slice none 0 0] 42)) := (Below.refl _ _).alloc (Nat.le_refl _) _
  have HG : Hid (Arr (W.alloc (.cells #[.int .i64 0, .string ⟨#[]⟩, .string ⟨#[]⟩, .slice none 0 0] 42)) 42 W.heap.size [.int .i64 0, .string ⟨#[]⟩, .string ⟨#[]⟩, .slice none 0 0]) := Arr.new' _ _ _ _ rfl
  have HN := Lib.hid (newReader_any ((hr.below hb (Nat.le_refl _)).mono hb.size) hl (hE.below hb))
  have HB := Lib.hid hb
  have HSZ : Hid ((W.alloc (.cells #[.int .i64 0, .string ⟨#[]⟩, .string ⟨#[]⟩, .slice none 0 0] 42)).heap.size = W.heap.size + 1) := World.size_alloc _ _
  have HE : Hid (parseEx b = (if (finC b (partC b 16 (.go 0) 0).2.1).1 = 0 then (partC b 16 (.go 0) 0).1 else ex0, finC b (partC b 16 (.go 0) 0).2.1)) := parseEx_fin b
  have HCD : Hid (∀ c a, (partC b 16 (.go 0) 0).2.1 = .er c a → c ≠ 0) := fun c a h => part_code h
  obtain ⟨R, hR⟩ : ∃ R, R = partC b 16 (.go 0) 0 := ⟨_, rfl⟩
  have HR := Lib.hid hR
  rw [← hR] at HE HCD
  obtain ⟨⟨mk, mv, mn, ms⟩, s1, lv1⟩ := R
  clear hr hl hE hb hR
  obtain ⟨C, hC⟩ : ∃ C, C = (finC b s1).1 := ⟨_, rfl⟩
  obtain ⟨A, hA⟩ : ∃ A, A = (finC b s1).2 := ⟨_, rfl⟩
  have HF : Hid (finC b s1 = (C, A)) := by rw [hC, hA]; rfl
  have HE : Hid (parseEx b = (if C = 0 then .mk mk mv mn ms else ex0, C, A)) := by
    have h := HE.out
    show _ = _
    rw [h, HF.out]
  clear hC hA
  unfold EPost
  rw [HE.out]
  go_enter Tryz.func18, Tryz.ntmps18
  go_upto_region 1 with (fail)
  generalize W.alloc (.cells #[.int .i64 0, .string ⟨#[]⟩, .string ⟨#[]⟩, .slice none 0 0] 42) = w0 at HG HN HB HSZ ⊢
  go_wp2_with fail
  refine HN.out.mono ?_
  rintro e w1 ⟨cb, rb, rfl, hcb, h1, b1⟩
  have HS1 := Lib.hid h1
  have HL : Hid (cb < rb ∧ rb < w1.heap.size) := h1.lt
  have HCB : Hid (W.heap.size < cb) := by have := HSZ.out; show _ < _; omega
  have HB1 := Lib.hid (HB.out.trans (b1.mono HB.out.size))
  have HG1 := Lib.hid (HG.out.later b1)
  have HX := Lib.hid (expr16_any h1)
  unfold PPost at HX
  rw [← HR.out] at HX
  clear h1 b1 hcb HN HG HB HSZ HR HE
  go_wp2_with fail
  refine HX.out.mono ?_
  rintro e w2 ⟨v, rfl, r2, h2, k2⟩
  obtain ⟨q4, c4, rfl, _, _⟩ := RdE.form r2
  unfold exv at r2 ⊢
  dsimp only [Ex.kind, Ex.via, Ex.nm, Ex.kids] at r2 h2 ⊢
  have hb3 : Below w2.heap.size w2 (w2.alloc (.cells #[.int .i64 mk, .string (bstr mv), .string (bstr mn), .slice q4 ms.length c4] 42)) := (Below.refl _ _).alloc (Nat.le_refl _) _
  have HS3 := Lib.hid (h2.later hb3)
  have HR3 := Lib.hid (r2.later hb3)
  have HG3 := Lib.hid ((k2.arr HG1.out (by have := HCB.out; omega) (by have := HCB.out; have := HL.out; omega)).later hb3)
  have HB3 := Lib.hid ((HB1.out.trans (k2.below (B := W.heap.size) (by have := HCB.out; omega) (by have := HCB.out; have := HL.out; omega) HB1.out.size)).trans (hb3.mono (Nat.le_trans HB1.out.size k2.2.2.2.1)))
  have HA3 : Hid (Arr (w2.alloc (.cells #[.int .i64 mk, .string (bstr mv), .string (bstr mn), .slice q4 ms.length c4] 42)) 42 w2.heap.size [.int .i64 mk, .string (bstr mv), .string (bstr mn), .slice q4 ms.length c4]) := Arr.new' _ _ _ _ rfl
  have HFN := Lib.hid (finish_any HS3.out HCD.out)
  rw [HF.out] at HFN
  have HSZ : Hid (w1.heap.size ≤ w2.heap.size) := k2.2.2.2.1
  clear r2 h2 k2 hb3 HX HS1 HB1 HG1
  go_upto_region 3 with (fail)
  obtain ⟨g5, hg5⟩ : ∃ g, g = w2.heap.size := ⟨_, rfl⟩
  rw [← hg5] at HA3 ⊢
  have HG5 : Hid (w1.heap.size ≤ g5) := by rw [hg5]; exact HSZ.out
  generalize w2.alloc (.cells #[.int .i64 mk, .string (bstr mv), .string (bstr mn), .slice q4 ms.length c4] 42) = w3 at HS3 HR3 HG3 HB3 HA3 HFN ⊢
  clear hg5 HSZ
  go_wp2_with fail
  refine HFN.out.mono ?_
  rintro e w4 ⟨rfl, k4⟩
  have HR4 := Lib.hid (VE.k2 HR3.out k4 (by have := HL.out; omega) HL.out.2)
  have HG4 := Lib.hid (k4.arr HG3.out (by have := HCB.out; omega) (by have := HCB.out; have := HL.out; omega))
  have HA4 := Lib.hid (k4.arr HA3.out (by have := HG5.out; have := HL.out; omega) (by have := HG5.out; have := HL.out; omega))
  have HB4 := Lib.hid (HB3.out.trans (k4.below (B := W.heap.size) (by have := HCB.out; omega) (by have := HCB.out; have := HL.out; omega) HB3.out.size))
  clear k4 HFN HS3 HR3 HG3 HA3 HB3
  by_cases hC : C = 0
  · subst hC
    rw [show errF 0 A = .nilIface from rfl]
    have x0 := HA4.out.cell 0
    have y0 := HA4.out.free 0
    have x1 := HA4.out.cell 1
    have y1 := HA4.out.free 1
    have x2 := HA4.out.cell 2
    have y2 := HA4.out.free 2
    have x3 := HA4.out.cell 3
    have y3 := HA4.out.free 3
    simp only [List.getElem?_cons_zero, List.getElem?_cons_succ] at x0 x1 x2 x3
    have p0 := HG4.out.cell 0
    have z0 := HG4.out.free 0
    have p1 := HG4.out.cell 1
    have z1 := HG4.out.free 1
    have p2 := HG4.out.cell 2
    have z2 := HG4.out.free 2
    have p3 := HG4.out.cell 3
    have z3 := HG4.out.free 3
    simp only [List.getElem?_cons_zero, List.getElem?_cons_succ] at p0 p1 p2 p3
    go_wp2_with fail
    have hk := kp_set4 w4 W.heap.size (.int .i64 mk) (.string (bstr mv)) (.string (bstr mn)) (.slice q4 ms.length c4)
    have hA := HG4.out.set4x (.int .i64 mk) (.string (bstr mv)) (.string (bstr mn)) (.slice q4 ms.length c4)
    refine bodyPost_ret (resX2 rfl hA rfl) rfl ?_
    exact ⟨_, rfl, (VE.kp HR4.out hk (by have := HCB.out; have := HL.out; omega)).low (by have := HCB.out; have := HL.out; omega), HB4.out.trans (hk.below (Nat.le_refl _) HB4.out.size)⟩
  · have hq := eqNF (C : Nat) (A : Nat)
    rw [errF_at hC]
    unfold faultN
    have p0 := HG4.out.cell 0
    have z0 := HG4.out.free 0
    have p1 := HG4.out.cell 1
    have z1 := HG4.out.free 1
    have p2 := HG4.out.cell 2
    have z2 := HG4.out.free 2
    have p3 := HG4.out.cell 3
    have z3 := HG4.out.free 3
    simp only [List.getElem?_cons_zero, List.getElem?_cons_succ] at p0 p1 p2 p3
    go_wp2_with fail
    have hk := kp_set4 w4 W.heap.size (.int .i64 0) (.string ⟨#[]⟩) (.string ⟨#[]⟩) (.slice none 0 0)
    have hA := HG4.out.set4x (.int .i64 0) (.string ⟨#[]⟩) (.string ⟨#[]⟩) (.slice none 0 0)
    refine bodyPost_ret (resX2 rfl hA rfl) rfl ?_
    exact ⟨_, by rw [errF_at hC]; rfl, VE.leaf _ _ _ _ _, HB4.out.trans (hk.below (Nat.le_refl _) HB4.out.size)⟩
end Go.Proofs.YtdnmgemjhpkekaaGreatDoor
/-
  Parse: bytes as a schema.
-/
namespace Go.Proofs.YtdnmgemjhpkekaaGreatDoor
open Go.ChangeShapes Go.WideShapes Go.ChangeAt Go.RowKit
set_option linter.unusedVariables false

theorem asR_seq {α β : Type} {x : α} {s : St} {lv : Nat} {r : Rs α} (h : asR (x, s, lv) = r) {f : α → Nat → Nat → Rs β} {g : β × St × Nat} (hg : ∀ c a, s = .er c a → g.2.1 = .er c a) (hf : ∀ o, s = .go o → asR g = f x o lv) : asR g = r.then f := by
  subst h
  cases s with
  | er c a => rw [asR_er (hg c a rfl)]; rfl
  | go o => exact hf o rfl
theorem all_as (b : List UInt8) (o lv : Nat) : asR (allC b (.go o) lv) = allR b o lv := by
  unfold allR
  refine asR_seq (s := (nameC b false (.go o)).2) (nameC_name (lv := lv)) (fun c a h => by unfold allC; rw [h]; rfl) fun o1 h1 => ?_
  refine asR_seq (s := (nameC b true (.go o1)).2) (nameC_name (lv := lv)) (fun c a h => by unfold allC; rw [h1]; exact h) fun o2 h2 => ?_
  unfold allC; rw [h1, asR_go (o := o2) (by exact h2)]
theorem types_as (b : List UInt8) (o lv : Nat) : asR (typesC b (.go o) lv) = (numK b 1 32 15 o lv).then fun t o1 l1 => manyR (allR b) t o1 l1 := by
  refine asR_seq (s := (numC b (chkC 1 32) (.go o)).2) (numC_num (lv := lv)) (fun c a h => by unfold typesC; rw [h]; exact loop_er (all_er b) _ _ _ _ _) fun o1 h1 => ?_
  unfold typesC
  rw [h1, loop_many (all_er b) (all_as b)]
  cases manyR (allR b) (numC b (chkC 1 32) (.go o)).1 o1 lv <;> rfl
theorem numM_num {b : List UInt8} {o lv : Nat} : asR ((numC b chkM (.go o)).1, (numC b chkM (.go o)).2, lv) = numK b 1 2 6 o lv := by
  unfold numK
  by_cases h1 : (num (b.drop o)).2.2 ≠ 0
  · rw [numC_1 h1, if_pos h1]; rfl
  · rw [if_neg h1]
    by_cases h2 : 2 < (num (b.drop o)).1
    · have e : chkM (num (b.drop o)).1 = 6 := by unfold chkM; rw [if_pos (by omega)]
      rw [numC_2 h1 (by rw [e]; decide), e, if_pos h2]; rfl
    · rw [if_neg h2]
      by_cases h3 : (num (b.drop o)).1 < 1
      · have e : chkM (num (b.drop o)).1 = 6 := by unfold chkM; rw [if_pos (by omega)]
        rw [numC_2 h1 (by rw [e]; decide), e, if_pos h3]; rfl
      · have e : chkM (num (b.drop o)).1 = 0 := by unfold chkM; rw [if_neg (by omega)]
        rw [numC_3 h1 (by rw [e]; decide), if_neg h3]; rfl
theorem memK_er (b n : List UInt8) (k : Nat) (c a lv : Nat) : (memK b n k (.er c a) lv).2.1 = .er c a := by
  unfold memK
  split
  · rfl
  split
  · rfl
  · rfl
theorem mem_as (b : List UInt8) (o : Nat) : ∀ lv, (asR (memC b (.go o) lv)).then (fun x o1 _ => .ok x o1 0) = (memR b o lv).then (fun x o1 _ => .ok x o1 0) := by
  intro lv
  have key : ∀ (r r2 : Rs MemB), r = r2 → r.then (fun x o1 _ => .ok x o1 0) = r2.then (fun x o1 _ => (.ok x o1 0 : Rs MemB)) := fun r r2 h => by rw [h]
  unfold memR
  cases hn : (nameC b false (.go o)).2 with
  | er c a =>
    have h1 : nameR b false o lv = .bad c a := by rw [← nameC_name, asR_er (by exact hn)]
    rw [h1, asR_er (show (memC b (.go o) lv).2.1 = .er c a by unfold memC; rw [hn]; exact memK_er _ _ _ _ _ _)]; rfl
  | go o1 =>
    have h1 : nameR b false o lv = .ok (nameC b false (.go o)).1 o1 lv := by rw [← nameC_name, asR_go (o := o1) (by exact hn)]
    rw [h1]
    simp only [Rs.then]
    cases hk : (numC b chkM (.go o1)).2 with
    | er c a =>
      have h2 : numK b 1 2 6 o1 lv = .bad c a := by rw [← numM_num, asR_er (by exact hk)]
      rw [h2, asR_er (show (memC b (.go o) lv).2.1 = .er c a by unfold memC; rw [hn, hk]; exact memK_er _ _ _ _ _ _)]
    | go o2 =>
      have h2 : numK b 1 2 6 o1 lv = .ok (numC b chkM (.go o1)).1 o2 lv := by rw [← numM_num, asR_go (o := o2) (by exact hk)]
      rw [h2]
      have hv := chkM_val (b := b) (.go o1)
      have hv0 : (numC b chkM (.go o1)).1 ≠ 0 := by
        intro h0
        have h3 : 1 ≤ (numC b chkM (.go o1)).1 := by
          unfold numK at h2
          split at h2
          · cases h2
          split at h2
          · cases h2
          split at h2
          · cases h2
          rename_i a1 a2 a3
          injection h2 with e1 e2 e3
          omega
        omega
      have hm : memC b (.go o) lv = memK b (nameC b false (.go o)).1 (numC b chkM (.go o1)).1 (.go o2) lv := by unfold memC; rw [hn, hk]
      rw [hm]
      simp only []
      generalize (numC b chkM (.go o1)).1 = k at hv hv0
      have hk2 : k = 1 ∨ k = 2 := by omega
      rcases hk2 with rfl | rfl
      · rw [if_neg (by decide)]
        unfold relR
        have ht := types_as b o2 lv
        show Rs.then (asR ((_, 1, (typesC b (.go o2) lv).1, ex0), (typesC b (.go o2) lv).2)) _ = _
        generalize typesC b (.go o2) lv = T at ht ⊢
        obtain ⟨ls, s, l⟩ := T
        cases hnk : numK b 1 32 15 o2 lv with
        | bad c a =>
          rw [hnk] at ht
          cases s with
          | er c a => cases ht; rfl
          | go o => cases ht
        | ok t o3 l3 =>
          rw [hnk] at ht
          have ht : asR (ls, s, l) = manyR (allR b) t o3 l3 := ht
          simp only [Rs.then]
          rw [← ht]
          cases s <;> rfl
      · rw [if_pos rfl]
        unfold permR
        have ht := part_as b 16 o2 0
        show Rs.then (asR ((_, 2, [], (partC b 16 (.go o2) 0).1), (partC b 16 (.go o2) 0).2)) _ = _
        generalize partC b 16 (.go o2) 0 = T at ht ⊢
        obtain ⟨x, s, l⟩ := T
        rw [← ht]
        cases s <;> rfl
/-- A result, its number of leaves forgotten. -/
def asR0 {α : Type} (r : α × St × Nat) : Rs α := match r.2.1 with
  | .er c a => .bad c a
  | .go o => .ok r.1 o 0
def zr {α : Type} (r : Rs α) : Rs α := r.then fun x o _ => .ok x o 0
theorem asR0_zr {α : Type} (r : α × St × Nat) : asR0 r = zr (asR r) := by
  obtain ⟨x, s, l⟩ := r
  cases s <;> rfl
theorem zr_then {α β : Type} (r : Rs α) (f : α → Nat → Nat → Rs β) : zr (r.then f) = r.then fun x o l => zr (f x o l) := by cases r <;> rfl
theorem loop_lv0 {α : Type} {f : St → Nat → α × St × Nat} (hf : ∀ s lv, f s lv = ((f s 0).1, (f s 0).2.1, lv)) : ∀ (n : Nat) (acc : List α) (s : St) (lv : Nat), loopC f n acc s lv = ((loopC f n acc s 0).1, (loopC f n acc s 0).2.1, lv)
  | 0, _, _, _ => rfl
  | n + 1, acc, s, lv => by
    rw [loopC, loopC, hf s lv]
    have e : (f s 0).2.2 = 0 := by rw [hf s 0]
    rw [e]
    exact loop_lv0 hf n _ _ lv
theorem types_lv0 (b : List UInt8) (s : St) (lv : Nat) : typesC b s lv = ((typesC b s 0).1, (typesC b s 0).2.1, lv) := loop_lv0 (fun _ _ => rfl) _ _ _ _
theorem mem_lv0 (b : List UInt8) (s : St) (lv : Nat) : (memC b s lv).1 = (memC b s 0).1 ∧ (memC b s lv).2.1 = (memC b s 0).2.1 := by
  unfold memC memK
  split
  · rw [types_lv0 b _ lv]; exact ⟨rfl, rfl⟩
  split
  · exact ⟨rfl, rfl⟩
  · exact ⟨rfl, rfl⟩
theorem memR_zr (b : List UInt8) (o : Nat) : zr (memR b o 0) = memR b o 0 := by
  unfold memR
  rw [zr_then]
  congr 1; funext n o1 l1
  rw [zr_then]
  congr 1; funext k o2 l2
  split
  · unfold permR
    rw [zr_then]; rfl
  · unfold relR
    rw [zr_then]
    congr 1; funext t o3 l3
    rw [zr_then]; rfl
theorem mem_as0 (b : List UInt8) (o lv : Nat) : asR0 (memC b (.go o) lv) = memR b o 0 := by
  have h := mem_lv0 b (.go o) lv
  have e : asR0 (memC b (.go o) lv) = asR0 (memC b (.go o) 0) := by
    unfold asR0
    rw [h.1, h.2]
  rw [e, asR0_zr]
  have := mem_as b o 0
  exact this.trans (memR_zr b o)
theorem loop_many0 {α : Type} {f : St → Nat → α × St × Nat} {g : Nat → Nat → Rs α} (hf : Stays f) (hg : ∀ o lv, asR0 (f (.go o) lv) = g o 0) : ∀ (n : Nat) (acc : List α) (o lv : Nat), asR0 (loopC f n acc (.go o) lv) = (manyR g n o 0).then fun xs o1 l1 => .ok (acc ++ xs) o1 l1
  | 0, acc, o, lv => by show Rs.ok acc o 0 = Rs.ok (acc ++ []) o 0; rw [List.append_nil]
  | n + 1, acc, o, lv => by
    rw [loopC, manyR, ← hg o lv]
    obtain ⟨⟨x, s, l⟩, hx⟩ : ∃ r, r = f (.go o) lv := ⟨_, rfl⟩
    rw [← hx]
    cases s with
    | er c a =>
      show asR0 (loopC f n (acc ++ [x]) (.er c a) l) = .bad c a
      unfold asR0
      rw [loop_er hf]
    | go o1 =>
      show asR0 (loopC f n (acc ++ [x]) (.go o1) l) = Rs.then (Rs.then (manyR g n o1 0) _) _
      rw [loop_many0 hf hg n (acc ++ [x]) o1 l]
      cases manyR g n o1 0 with
      | bad c a => rfl
      | ok xs o2 l2 => show Rs.ok _ _ _ = Rs.ok _ _ _; rw [List.append_assoc]; rfl
theorem many_zero {α : Type} {g : Nat → Nat → Rs α} (hg : ∀ o x o1 l1, g o 0 = .ok x o1 l1 → l1 = 0) : ∀ (n o : Nat) xs o1 l1, manyR g n o 0 = .ok xs o1 l1 → l1 = 0
  | 0, o, xs, o1, l1, h => by cases h; rfl
  | n + 1, o, xs, o1, l1, h => by
    unfold manyR at h
    obtain ⟨x, oa, la, e1, h⟩ := then_ok h
    obtain ⟨ys, ob, lb, e2, h⟩ := then_ok h
    cases h
    obtain rfl := hg _ _ _ _ e1
    exact many_zero hg n _ _ _ _ e2
theorem asR0_seq {α β : Type} {x : α} {s : St} {lv : Nat} {r : Rs α} (h : asR (x, s, lv) = r) {f : α → Nat → Nat → Rs β} {g : β × St × Nat} (hg : ∀ c a, s = .er c a → g.2.1 = .er c a) (hf : ∀ o, s = .go o → asR0 g = f x o lv) : asR0 g = r.then f := by
  subst h
  cases s with
  | er c a => unfold asR0; rw [hg c a rfl]; rfl
  | go o => exact hf o rfl
theorem asR0_er {α : Type} {r : α × St × Nat} {c a : Nat} (h : r.2.1 = .er c a) : asR0 r = .bad c a := by unfold asR0; rw [h]
theorem def_as0 (b : List UInt8) (o lv : Nat) : asR0 (defC b (.go o) lv) = defR b o 0 := by
  unfold defR
  refine asR0_seq (s := (nameC b false (.go o)).2) (nameC_name (lv := 0)) (fun c a h => by unfold defC; rw [h]; exact loop_er (mem_er b) _ _ _ _ _) fun o1 h1 => ?_
  refine asR0_seq (s := (numC b (chkC 0 64) (.go o1)).2) (numC_num (lv := 0)) (fun c a h => by unfold defC; rw [h1, h]; exact loop_er (mem_er b) _ _ _ _ _) fun o2 h2 => ?_
  unfold defC
  rw [h1, h2]
  have h := loop_many0 (mem_er b) (mem_as0 b) (numC b (chkC 0 64) (.go o1)).1 [] o2 lv
  have hz := many_zero (g := memR b) (fun o x o1 l1 e => by
    have e2 := mem_as0 b o 0
    rw [e] at e2
    unfold asR0 at e2
    split at e2 <;> cases e2
    rfl) (numC b (chkC 0 64) (.go o1)).1 o2
  generalize loopC (memC b) (numC b (chkC 0 64) (.go o1)).1 [] (.go o2) lv = T at h ⊢
  obtain ⟨ms, s, l⟩ := T
  cases hm : manyR (memR b) (numC b (chkC 0 64) (.go o1)).1 o2 0 with
  | bad c a =>
    rw [hm] at h
    cases s with
    | er c a => cases h; rfl
    | go o => cases h
  | ok xs o3 l3 =>
    obtain rfl := hz _ _ _ hm
    rw [hm] at h
    cases s with
    | er c a => cases h
    | go o => cases h; rfl
theorem sch_as0 (b : List UInt8) (o lv : Nat) : asR0 (schC b (.go o) lv) = schR b o 0 := by
  unfold schR
  refine asR0_seq (s := (numC b (chkC 0 64) (.go o)).2) (numC_num (lv := 0)) (fun c a h => by unfold schC; rw [h]; exact loop_er (def_er b) _ _ _ _ _) fun o1 h1 => ?_
  unfold schC
  rw [h1, loop_many0 (def_er b) (def_as0 b)]
  cases manyR (defR b) (numC b (chkC 0 64) (.go o)).1 o1 0 <;> rfl
theorem parseSc_fin (b : List UInt8) : parseSc b = (if (finC b (schC b (.go 0) 0).2.1).1 = 0 then (schC b (.go 0) 0).1 else [], finC b (schC b (.go 0) 0).2.1) := by
  have h := sch_as0 b 0 0
  unfold parseSc
  obtain ⟨⟨l, s, v⟩, hr⟩ : ∃ r, r = schC b (.go 0) 0 := ⟨_, rfl⟩
  rw [← hr] at h ⊢
  cases s with
  | er c a =>
    have h : Rs.bad c a = schR b 0 0 := h
    rw [← h]
    have : c ≠ 0 := schR_ne 0 0 c a h.symm
    show _ = (if c = 0 then _ else _, _)
    rw [if_neg this]; rfl
  | go o =>
    have h : Rs.ok l o 0 = schR b 0 0 := h
    rw [← h]
    show (if o < b.length then _ else _) = (if (if o < b.length then (16, o) else (0, 0)).1 = 0 then _ else _, if o < b.length then (16, o) else (0, 0))
    by_cases ho : o < b.length
    · simp only [if_pos ho]; rfl
    · simp only [if_neg ho]; rfl
theorem sch_code {b : List UInt8} {c a : Nat} (h : (schC b (.go 0) 0).2.1 = .er c a) : c ≠ 0 := by
  have h1 := sch_as0 b 0 0
  rw [asR0_er h] at h1
  exact schR_ne 0 0 c a h1.symm
/-- What parsing a schema hands back. -/
def CPost (W : World) (r : List DefB × Nat × Nat) (e : Ending) (w' : World) : Prop := ∃ v, e = .returned (.tuple #[v, errF r.2.1 r.2.2]) ∧ VS W.heap.size r.1 w' v ∧ Below W.heap.size W w'
theorem VS.k2 {B cb rb : Nat} {l : List DefB} {w w' : World} {v : Value} (h : VS B l w v) (hk : K2 cb rb w w') (h1 : cb < B) (h2 : rb < B) : VS B l w' v := by
  obtain ⟨u, hv, hr⟩ := h
  exact ⟨u, hv, (hr.keep fun b hb n => World.cell?_of_block (hk.2.2.2.2 b hb.2 (by have := hb.1; omega) (by have := hb.1; omega))).imp fun b hb => ⟨hb.1, Nat.lt_of_lt_of_le hb.2 hk.2.2.2.1⟩⟩
theorem VS.later {B : Nat} {l : List DefB} {w w' : World} {v : Value} (h : VS B l w v) (hb : Below w.heap.size w w') : VS B l w' v := by
  obtain ⟨u, hv, hr⟩ := h
  exact ⟨u, hv, (hr.keep fun b hb' n => hb.cell (p := ⟨b, n, none⟩) hb'.2).imp fun b hb' => ⟨hb'.1, Nat.lt_of_lt_of_le hb'.2 hb.size⟩⟩
theorem resS2 {fn : Func} {p q : Tmp} (h : fn.results = #[.cell p 26, .tmp q]) {tmps : Array Value} {w : World} {g : Nat} {x0 : Value} (hA : Arr w 26 g [x0]) (hp : tmps.getD p undef = .pointer (some ⟨g, 0, none⟩)) :
    (results fn tmps).run Tryz.prog w = .ok (.tuple #[.agg #[x0], tmps.getD q undef]) w :=
  results_cell_tmp h tmps w g 26 #[x0] (0, 0) _ hp hA Tryz.underlying26 rfl (by kernel_rfl)
set_option maxRecDepth 100000 in
set_option maxHeartbeats 4000000 in
theorem cParse_any {W : World} {b : List UInt8} {vb : Value} (hr : Rd W.heap.size W vb b) (hl : b.length ≤ 1000000) (hE : Env W) : Calls Tryz.prog 8 #[vb] W (CPost W (parseSc b)) := by
  have hb : Below W.heap.size W (W.alloc (.cells #[.slice none 0 0] 26)) := (Below.refl _ _).alloc (Nat.le_refl _) _
  have HG : Hid (Arr (W.alloc (.cells #[.slice none 0 0] 26)) 26 W.heap.size [.slice none 0 0]) := Arr.new' _ _ _ _ rfl
  have HN := Lib.hid (newReader_any ((hr.below hb (Nat.le_refl _)).mono hb.size) hl (hE.below hb))
  have HB := Lib.hid hb
  have HSZ : Hid ((W.alloc (.cells #[.slice none 0 0] 26)).heap.size = W.heap.size + 1) := World.size_alloc _ _
  have HE : Hid (parseSc b = (if (finC b (schC b (.go 0) 0).2.1).1 = 0 then (schC b (.go 0) 0).1 else [], finC b (schC b (.go 0) 0).2.1)) := parseSc_fin b
  have HCD : Hid (∀ c a, (schC b (.go 0) 0).2.1 = .er c a → c ≠ 0) := fun c a h => sch_code h
  obtain ⟨R, hR⟩ : ∃ R, R = schC b (.go 0) 0 := ⟨_, rfl⟩
  have HR := Lib.hid hR
  rw [← hR] at HE HCD
  obtain ⟨l, s1, lv1⟩ := R
  clear hr hl hE hb hR
  obtain ⟨C, hC⟩ : ∃ C, C = (finC b s1).1 := ⟨_, rfl⟩
  obtain ⟨A, hA⟩ : ∃ A, A = (finC b s1).2 := ⟨_, rfl⟩
  have HF : Hid (finC b s1 = (C, A)) := by rw [hC, hA]; rfl
  have HE : Hid (parseSc b = (if C = 0 then l else [], C, A)) := by
    have h := HE.out
    show _ = _
    rw [h, HF.out]
  clear hC hA
  unfold CPost
  rw [HE.out]
  go_enter Tryz.func8, Tryz.ntmps8
  go_upto_region 1 with (fail)
  generalize W.alloc (.cells #[.slice none 0 0] 26) = w0 at HG HN HB HSZ ⊢
  go_wp2_with fail
  refine HN.out.mono ?_
  rintro e w1 ⟨cb, rb, rfl, hcb, h1, b1⟩
  have HS1 := Lib.hid h1
  have HL : Hid (cb < rb ∧ rb < w1.heap.size) := h1.lt
  have HCB : Hid (W.heap.size < cb) := by have := HSZ.out; show _ < _; omega
  have HB1 := Lib.hid (HB.out.trans (b1.mono HB.out.size))
  have HG1 := Lib.hid (HG.out.later b1)
  have HX := Lib.hid (cSchema_any h1)
  unfold SPost at HX
  rw [← HR.out] at HX
  clear h1 b1 hcb HN HG HB HSZ HR HE
  go_wp2_with fail
  refine HX.out.mono ?_
  rintro e w2 ⟨v, rfl, r2, h2, k2⟩
  obtain ⟨q4, c4, rfl, _⟩ := VS.form r2
  dsimp only [] at r2 h2 ⊢
  have hb3 : Below w2.heap.size w2 (w2.alloc (.cells #[.slice q4 l.length c4] 26)) := (Below.refl _ _).alloc (Nat.le_refl _) _
  have HS3 := Lib.hid (h2.later hb3)
  have HR3 := Lib.hid (r2.later hb3)
  have HG3 := Lib.hid ((k2.arr HG1.out (by have := HCB.out; omega) (by have := HCB.out; have := HL.out; omega)).later hb3)
  have HB3 := Lib.hid ((HB1.out.trans (k2.below (B := W.heap.size) (by have := HCB.out; omega) (by have := HCB.out; have := HL.out; omega) HB1.out.size)).trans (hb3.mono (Nat.le_trans HB1.out.size k2.2.2.2.1)))
  have HA3 : Hid (Arr (w2.alloc (.cells #[.slice q4 l.length c4] 26)) 26 w2.heap.size [.slice q4 l.length c4]) := Arr.new' _ _ _ _ rfl
  have HFN := Lib.hid (finish_any HS3.out HCD.out)
  rw [HF.out] at HFN
  have HSZ : Hid (w1.heap.size ≤ w2.heap.size) := k2.2.2.2.1
  clear r2 h2 k2 hb3 HX HS1 HB1 HG1
  go_upto_region 3 with (fail)
  obtain ⟨g5, hg5⟩ : ∃ g, g = w2.heap.size := ⟨_, rfl⟩
  rw [← hg5] at HA3 ⊢
  have HG5 : Hid (w1.heap.size ≤ g5) := by rw [hg5]; exact HSZ.out
  generalize w2.alloc (.cells #[.slice q4 l.length c4] 26) = w3 at HS3 HR3 HG3 HB3 HA3 HFN ⊢
  clear hg5 HSZ
  go_wp2_with fail
  refine HFN.out.mono ?_
  rintro e w4 ⟨rfl, k4⟩
  have HR4 := Lib.hid (VS.k2 HR3.out k4 (by have := HL.out; omega) HL.out.2)
  have HG4 := Lib.hid (k4.arr HG3.out (by have := HCB.out; omega) (by have := HCB.out; have := HL.out; omega))
  have HA4 := Lib.hid (k4.arr HA3.out (by have := HG5.out; have := HL.out; omega) (by have := HG5.out; have := HL.out; omega))
  have HB4 := Lib.hid (HB3.out.trans (k4.below (B := W.heap.size) (by have := HCB.out; omega) (by have := HCB.out; have := HL.out; omega) HB3.out.size))
  clear k4 HFN HS3 HR3 HG3 HA3 HB3
  by_cases hC : C = 0
  · subst hC
    rw [show errF 0 A = .nilIface from rfl]
    have x0 := HA4.out.cell 0
    have y0 := HA4.out.free 0
    simp only [List.getElem?_cons_zero] at x0
    have p0 := HG4.out.cell 0
    have z0 := HG4.out.free 0
    simp only [List.getElem?_cons_zero] at p0
    go_wp2_with fail
    have hk := kp_setS w4 W.heap.size (.slice q4 l.length c4)
    have hA := HG4.out.setS (.slice q4 l.length c4)
    refine bodyPost_ret (resS2 rfl hA rfl) rfl ?_
    exact ⟨_, rfl, (VS.kp HR4.out hk (by have := HCB.out; have := HL.out; omega)).low (by have := HCB.out; have := HL.out; omega), HB4.out.trans (hk.below (Nat.le_refl _) HB4.out.size)⟩
  · have hq := eqNF (C : Nat) (A : Nat)
    rw [errF_at hC]
    unfold faultN
    have p0 := HG4.out.cell 0
    have z0 := HG4.out.free 0
    simp only [List.getElem?_cons_zero] at p0
    go_wp2_with fail
    have hk := kp_setS w4 W.heap.size (.slice none 0 0)
    have hA := HG4.out.setS (.slice none 0 0)
    refine bodyPost_ret (resS2 rfl hA rfl) rfl ?_
    exact ⟨_, by rw [errF_at hC]; rfl, ⟨_, rfl, RdK.nil _ _ _⟩, HB4.out.trans (hk.below (Nat.le_refl _) HB4.out.size)⟩
end Go.Proofs.YtdnmgemjhpkekaaGreatDoor
/-
  putCount, putExpr: an expression of the form as bytes.
-/
namespace Go.Proofs.YtdnmgemjhpkekaaGreatDoor
open Go.ChangeShapes Go.WideShapes Go.ChangeAt Go.RowKit
set_option linter.unusedVariables false
set_option linter.unusedSimpArgs false

theorem form_two {k : Int} {v n : List UInt8} {ks : List Ex} (h : formE (.mk k v n ks) = true) : (k = 1 ∧ v = [] ∧ ks = [] ∧ isName (bstr n) = true) ∨ (k = 2 ∧ ks = [] ∧ isName (bstr v) = true ∧ isName (bstr n) = true) ∨ ((k = 3 ∨ k = 4 ∨ k = 5) ∧ v = [] ∧ n = [] ∧ 2 ≤ ks.length ∧ (k = 5 → ks.length = 2) ∧ formL ks = true) := by
  unfold formE at h
  simp only [Bool.and_eq_true] at h
  obtain ⟨h1, h2⟩ := h
  unfold partB at h1
  split at h1
  · simp only [Bool.and_eq_true, decide_eq_true_eq] at h1
    exact .inl ⟨‹_›, h1.1.2, List.length_eq_zero_iff.1 h1.1.1, h1.2⟩
  · split at h1
    · simp only [Bool.and_eq_true, decide_eq_true_eq] at h1
      exact .inr (.inl ⟨‹_›, List.length_eq_zero_iff.1 h1.1.1, h1.1.2, h1.2⟩)
    · split at h1
      · rename_i h5
        simp only [Bool.and_eq_true, decide_eq_true_eq] at h1
        exact .inr (.inr ⟨h5.elim .inl (fun e => .inr (.inl e)), h1.1.2, h1.2, h1.1.1, fun e => by omega, h2⟩)
      · split at h1
        · simp only [Bool.and_eq_true, decide_eq_true_eq] at h1
          exact .inr (.inr ⟨.inr (.inr ‹_›), h1.1.2, h1.2, by omega, fun _ => h1.1.1, h2⟩)
        · cases h1
theorem formL_cons {e : Ex} {r : List Ex} (h : formL (e :: r) = true) : formE e = true ∧ formL r = true := by
  unfold formL at h
  simpa using h
theorem put_small (n : Nat) (h : n < lim64) : (put n).length ≤ 10 := put_len10 h
mutual
theorem putE_len : ∀ e : Ex, okE 64 e → formE e = true → sizeE e ≤ 64 → (putE e).length ≤ 200 * sizeE e
  | .mk k v n ks, h, hf, hs => by
    unfold okE at h
    obtain ⟨h1, h2, h3⟩ := h
    have hks : formL ks = true := by unfold formE at hf; simp only [Bool.and_eq_true] at hf; exact hf.2
    have hk5 : k.toNat ≤ 5 := by rcases form_two hf with ⟨rfl, _⟩ | ⟨rfl, _⟩ | ⟨rfl | rfl | rfl, _⟩ <;> decide
    unfold sizeE at hs
    have hl := sizeL_len ks
    have h4 := putEs_len ks h3 hks (by omega)
    have a1 := put_small k.toNat (by unfold lim64; omega)
    have a2 : (putS (bstr v)).length ≤ 80 := by have := putS_len (bstr v) (by rw [bstr_size]; unfold lim64; omega); rw [bstr_size] at this; omega
    have a3 : (putS (bstr n)).length ≤ 80 := by have := putS_len (bstr n) (by rw [bstr_size]; unfold lim64; omega); rw [bstr_size] at this; omega
    have a4 : (put ks.length).length ≤ 10 := put_small ks.length (by unfold lim64; omega)
    unfold putE sizeE
    simp only [List.length_append]
    have b2 : (if k = 2 then putS (bstr v) else []).length ≤ 80 := by split; exact a2; exact Nat.zero_le _
    have b3 : (if k < 3 then putS (bstr n) else []).length ≤ 80 := by split; exact a3; exact Nat.zero_le _
    have b4 : (if k = 3 ∨ k = 4 then put ks.length else []).length ≤ 10 := by split; exact a4; exact Nat.zero_le _
    have e : 200 * (sizeL ks + 1) = 200 * sizeL ks + 200 := by rw [Nat.mul_add]
    omega
theorem putEs_len : ∀ l : List Ex, okL 64 l → formL l = true → sizeL l ≤ 64 → (putEs l).length ≤ 200 * sizeL l
  | [], _, _, _ => Nat.zero_le _
  | e :: r, h, hf, hs => by
    unfold okL at h
    unfold sizeL at hs
    have hf2 := formL_cons hf
    have a := putE_len e h.1 hf2.1 (by omega)
    have b := putEs_len r h.2 hf2.2 (by omega)
    unfold putEs sizeL
    rw [List.length_append, Nat.mul_add]
    omega
end
theorem len_of {T A m r : List UInt8} (h : T = A ++ (m ++ r)) (hT : T.length ≤ 20000) : A.length + m.length ≤ 140737488355328 := by
  rw [h] at hT
  simp only [List.length_append] at hT
  omega
theorem convC (n : Nat) (h : n ≤ 1000000) (w : World) : (convert 3 94 (.int .i64 (n : Nat))).run Tryz.prog w = .ok (.int .u64 n) w := by
  have e : IntKind.wrap .u64 (n : Int) = n := by
    unfold IntKind.wrap; simp [IntKind.bits, IntKind.signed]; omega
  simp [convert, run_underlying Tryz.underlying3, run_underlying Tryz.underlying94, Conv.intToInt, e]
set_option maxRecDepth 100000 in
set_option maxHeartbeats 2000000 in
theorem putCount_any (n : Nat) (h : n ≤ 1000000) (w : World) : Calls Tryz.prog 33 #[.int .i64 (n : Nat)] w (Owned w (put n)) := by
  have hc := convC n h
  have HN := Lib.hid (wput n (by unfold lim64; omega) w)
  clear h
  go_enter Tryz.func33, Tryz.ntmps33
  go_wp2_with fail
  refine HN.out.mono ?_
  rintro e w1 ⟨v, rfl, o1, b1⟩
  have HO := Lib.hid o1
  have HB := Lib.hid b1
  clear o1 b1
  go_wp2_with fail
  go_ret
  exact ⟨v, rfl, HO.out, HB.out⟩
theorem putS_text (l : List UInt8) (h : l.length ≤ 1000) (w : World) : Calls Tryz.prog 34 #[.string (bstr l)] w (Owned w (putS (bstr l))) := text_any (bstr l) (by rw [bstr_size]; omega) w
set_option maxRecDepth 100000 in
set_option maxHeartbeats 8000000 in
theorem putX_step {m : Nat} (IH : Hid (∀ (e : Ex) (v : Value) (P : Nat → Prop) (w : World), sizeE e ≤ m → okE 64 e → formE e = true → RdE P w e v → (∀ b, P b → b < w.heap.size) → Calls Tryz.prog 39 #[v] w (Owned w (putE e)))) (hm : m ≤ 63) (e : Ex) (v : Value) (P : Nat → Prop) (w : World) (hs : sizeE e ≤ m + 1) (ho : okE 64 e) (hf : formE e = true) (h : RdE P w e v) (hP : ∀ b, P b → b < w.heap.size) : Calls Tryz.prog 39 #[v] w (Owned w (putE e)) := by
  obtain ⟨q, c, rfl, hc, hk⟩ := h.form
  obtain ⟨k, xv, xn, ks⟩ := e
  unfold exv
  show Calls _ _ #[.agg #[.int .i64 k, .string (bstr xv), .string (bstr xn), .slice q ks.length c]] _ _
  have HK : Hid (0 < ks.length → ∃ b o, q = some ⟨b, o, none⟩ ∧ P b ∧ RdL P w ks b o) := hk
  have hb0 : Below w.heap.size w (w.alloc (.cells #[.int .i64 k, .string (bstr xv), .string (bstr xn), .slice q ks.length c] 42)) := (Below.refl _ _).alloc (Nat.le_refl _) _
  unfold okE at ho
  have HLV : Hid (xv.length ≤ 64) := ho.1
  have HLX : Hid (xn.length ≤ 64) := ho.2.1
  have HOKL : Hid (okL 64 ks) := ho.2.2
  have HFL : Hid (formL ks = true) := by unfold formE at hf; simp only [Bool.and_eq_true] at hf; exact hf.2
  have HSZ : Hid (sizeL ks ≤ m) := by unfold sizeE at hs; exact Nat.le_of_succ_le_succ hs
  have HKL : Hid (ks.length ≤ 100) := by have := sizeL_len ks; have := HSZ.out; exact (by omega : ks.length ≤ 100)
  obtain ⟨T, hT⟩ : ∃ T, T = putE (.mk k xv xn ks) := ⟨_, rfl⟩
  have HT : Hid (T.length ≤ 20000) := by
    show _ ≤ _
    have := putE_len (.mk k xv xn ks) (by unfold okE; exact ho) hf (by omega)
    rw [hT]; omega
  have HTE := Lib.hid hT
  rw [← hT]
  have h2 := form_two hf
  clear hT ho hf hs hm
  rcases h2 with ⟨rfl, rfl, rfl, h2⟩ | ⟨rfl, rfl, h2⟩ | ⟨rfl | rfl | rfl, rfl, rfl, h2⟩ <;> clear h2
  · have HQ0 : Hid (T = put 1 ++ (putS (bstr xn) ++ [])) := by show _ = _; rw [HTE.out]; simp [putE, putEs]
    clear HTE
    have HB0 := Lib.hid hb0
    have HA0 : Hid (Arr (w.alloc (.cells #[.int .i64 1, .string (bstr []), .string (bstr xn), .slice q 0 c] 42)) 42 w.heap.size [.int .i64 1, .string (bstr []), .string (bstr xn), .slice q 0 c]) := Arr.new' _ _ _ _ rfl
    go_enter Tryz.func39, Tryz.ntmps39
    go_upto_region 1 with (fail)
    have HN := Lib.hid (putCount_any 1 (by decide) (w.alloc (.cells #[.int .i64 1, .string (bstr []), .string (bstr xn), .slice q 0 c] 42)))
    have HWS : Hid ((w.alloc (.cells #[.int .i64 1, .string (bstr []), .string (bstr xn), .slice q 0 c] 42)).heap.size = w.heap.size + 1) := World.size_alloc _ _
    generalize w.alloc (.cells #[.int .i64 1, .string (bstr []), .string (bstr xn), .slice q 0 c] 42) = w0 at HB0 HA0 HN HWS ⊢
    have x0 := HA0.out.cell 0
    have y0 := HA0.out.free 0
    have x1 := HA0.out.cell 1
    have y1 := HA0.out.free 1
    have x2 := HA0.out.cell 2
    have y2 := HA0.out.free 2
    have x3 := HA0.out.cell 3
    have y3 := HA0.out.free 3
    simp only [List.getElem?_cons_zero, List.getElem?_cons_succ] at x0 x1 x2 x3
    go_wp2_with fail
    refine HN.out.mono ?_
    rintro e w1 ⟨v1, rfl, o1, b1⟩
    have HB1 := Lib.hid (HB0.out.trans (b1.mono HB0.out.size))
    have HA1 := Lib.hid (HA0.out.later b1)
    obtain ⟨q1, c1, rfl⟩ := own_form o1
    obtain ⟨A1, hA⟩ : ∃ x, x = put 1 := ⟨_, rfl⟩
    rw [← hA] at o1 HQ0 ⊢
    have HQ1 := HQ0
    have HO1 : Hid (w1.ownsRow (w.heap.size + 1) 5 1 (.slice q1 A1.length c1) A1.length (bvs A1)) := by rw [← HWS.out]; exact o1
    clear o1 b1 HN HB0 HA0 HWS HQ0 hA x0 x1 x2 x3 y0 y1 y2 y3
    have x0 := HA1.out.cell 0
    have y0 := HA1.out.free 0
    have x1 := HA1.out.cell 1
    have y1 := HA1.out.free 1
    have x2 := HA1.out.cell 2
    have y2 := HA1.out.free 2
    have x3 := HA1.out.cell 3
    have y3 := HA1.out.free 3
    simp only [List.getElem?_cons_zero, List.getElem?_cons_succ] at x0 x1 x2 x3
    go_wp2_with fail
    refine (putS_text xn (by have := HLX.out; omega) _).mono ?_
    rintro e wa ⟨vm, rfl, om, bm⟩
    have HOA := Lib.hid (own_below HO1.out bm)
    have HBA := Lib.hid (HB1.out.trans (bm.mono HB1.out.size))
    have HAA := Lib.hid (HA1.out.later bm)
    have HRM := Lib.hid (Rd.of_own om)
    obtain ⟨qm, cm, rfl⟩ := own_form om
    have HLN := Lib.hid (len_of HQ1.out HT.out)
    have HWB : Hid (w.heap.size + 1 ≤ wa.heap.size) := HAA.out.lt
    clear om bm HO1 HB1 HA1 x0 x1 x2 x3 y0 y1 y2 y3
    go_wp2_with (at_builtin; refine app_bytes rfl _ _ rfl rfl HOA.out rfl HRM.out HLN.out HWB.out ?_)
    intro vn wn hown hg
    have HB2 := Lib.hid (below_grown HBA.out HBA.out.size (Nat.le_succ _) HOA.out hg)
    have HA2 : Hid (Arr wn 42 w.heap.size [.int .i64 1, .string (bstr []), .string (bstr xn), .slice q 0 c]) := (hg.block _ HAA.out.lt (fun e => by have := (HOA.out.lt _ e.symm).1; omega)).trans HAA.out
    obtain ⟨q2, c2, rfl⟩ := own_form hown
    obtain ⟨A2, hA⟩ : ∃ x, x = A1 ++ putS (bstr xn) := ⟨_, rfl⟩
    have hAL : A1.length + (putS (bstr xn)).length = A2.length := by rw [hA, List.length_append]
    have HO2 : Hid (wn.ownsRow (w.heap.size + 1) 5 1 (.slice q2 A2.length c2) A2.length (bvs A2)) := by show World.ownsRow _ _ _ _ _ _ _; rw [hA]; simpa using hown
    rw [hAL]
    clear hAL
    have HQ2 : Hid (T = A2 ++ []) := by rw [hA, List.append_assoc]; exact HQ1.out
    clear hown hg HOA HBA HAA HRM HLN HWB hA HQ1
    generalize wn = w2 at HB2 HA2 HO2 ⊢
    go_wp2_with fail
    go_ret
    have HEND : T = A2 := by rw [HQ2.out, List.append_nil]
    rw [HEND]
    exact ⟨_, rfl, own_le HO2.out (Nat.le_succ _), HB2.out⟩
  · have HQ0 : Hid (T = put 2 ++ (putS (bstr xv) ++ (putS (bstr xn) ++ []))) := by show _ = _; rw [HTE.out]; simp [putE, putEs]
    clear HTE
    have HB0 := Lib.hid hb0
    have HA0 : Hid (Arr (w.alloc (.cells #[.int .i64 2, .string (bstr xv), .string (bstr xn), .slice q 0 c] 42)) 42 w.heap.size [.int .i64 2, .string (bstr xv), .string (bstr xn), .slice q 0 c]) := Arr.new' _ _ _ _ rfl
    go_enter Tryz.func39, Tryz.ntmps39
    go_upto_region 1 with (fail)
    have HN := Lib.hid (putCount_any 2 (by decide) (w.alloc (.cells #[.int .i64 2, .string (bstr xv), .string (bstr xn), .slice q 0 c] 42)))
    have HWS : Hid ((w.alloc (.cells #[.int .i64 2, .string (bstr xv), .string (bstr xn), .slice q 0 c] 42)).heap.size = w.heap.size + 1) := World.size_alloc _ _
    generalize w.alloc (.cells #[.int .i64 2, .string (bstr xv), .string (bstr xn), .slice q 0 c] 42) = w0 at HB0 HA0 HN HWS ⊢
    have x0 := HA0.out.cell 0
    have y0 := HA0.out.free 0
    have x1 := HA0.out.cell 1
    have y1 := HA0.out.free 1
    have x2 := HA0.out.cell 2
    have y2 := HA0.out.free 2
    have x3 := HA0.out.cell 3
    have y3 := HA0.out.free 3
    simp only [List.getElem?_cons_zero, List.getElem?_cons_succ] at x0 x1 x2 x3
    go_wp2_with fail
    refine HN.out.mono ?_
    rintro e w1 ⟨v1, rfl, o1, b1⟩
    have HB1 := Lib.hid (HB0.out.trans (b1.mono HB0.out.size))
    have HA1 := Lib.hid (HA0.out.later b1)
    obtain ⟨q1, c1, rfl⟩ := own_form o1
    obtain ⟨A1, hA⟩ : ∃ x, x = put 2 := ⟨_, rfl⟩
    rw [← hA] at o1 HQ0 ⊢
    have HQ1 := HQ0
    have HO1 : Hid (w1.ownsRow (w.heap.size + 1) 5 1 (.slice q1 A1.length c1) A1.length (bvs A1)) := by rw [← HWS.out]; exact o1
    clear o1 b1 HN HB0 HA0 HWS HQ0 hA x0 x1 x2 x3 y0 y1 y2 y3
    have x0 := HA1.out.cell 0
    have y0 := HA1.out.free 0
    have x1 := HA1.out.cell 1
    have y1 := HA1.out.free 1
    have x2 := HA1.out.cell 2
    have y2 := HA1.out.free 2
    have x3 := HA1.out.cell 3
    have y3 := HA1.out.free 3
    simp only [List.getElem?_cons_zero, List.getElem?_cons_succ] at x0 x1 x2 x3
    go_wp2_with fail
    refine (putS_text xv (by have := HLV.out; omega) _).mono ?_
    rintro e wa ⟨vm, rfl, om, bm⟩
    have HOA := Lib.hid (own_below HO1.out bm)
    have HBA := Lib.hid (HB1.out.trans (bm.mono HB1.out.size))
    have HAA := Lib.hid (HA1.out.later bm)
    have HRM := Lib.hid (Rd.of_own om)
    obtain ⟨qm, cm, rfl⟩ := own_form om
    have HLN := Lib.hid (len_of HQ1.out HT.out)
    have HWB : Hid (w.heap.size + 1 ≤ wa.heap.size) := HAA.out.lt
    clear om bm HO1 HB1 HA1 x0 x1 x2 x3 y0 y1 y2 y3
    go_wp2_with (at_builtin; refine app_bytes rfl _ _ rfl rfl HOA.out rfl HRM.out HLN.out HWB.out ?_)
    intro vn wn hown hg
    have HB2 := Lib.hid (below_grown HBA.out HBA.out.size (Nat.le_succ _) HOA.out hg)
    have HA2 : Hid (Arr wn 42 w.heap.size [.int .i64 2, .string (bstr xv), .string (bstr xn), .slice q 0 c]) := (hg.block _ HAA.out.lt (fun e => by have := (HOA.out.lt _ e.symm).1; omega)).trans HAA.out
    obtain ⟨q2, c2, rfl⟩ := own_form hown
    obtain ⟨A2, hA⟩ : ∃ x, x = A1 ++ putS (bstr xv) := ⟨_, rfl⟩
    have hAL : A1.length + (putS (bstr xv)).length = A2.length := by rw [hA, List.length_append]
    have HO2 : Hid (wn.ownsRow (w.heap.size + 1) 5 1 (.slice q2 A2.length c2) A2.length (bvs A2)) := by show World.ownsRow _ _ _ _ _ _ _; rw [hA]; simpa using hown
    rw [hAL]
    clear hAL
    have HQ2 : Hid (T = A2 ++ (putS (bstr xn) ++ [])) := by rw [hA, List.append_assoc]; exact HQ1.out
    clear hown hg HOA HBA HAA HRM HLN HWB hA HQ1
    generalize wn = w2 at HB2 HA2 HO2 ⊢
    have x0 := HA2.out.cell 0
    have y0 := HA2.out.free 0
    have x1 := HA2.out.cell 1
    have y1 := HA2.out.free 1
    have x2 := HA2.out.cell 2
    have y2 := HA2.out.free 2
    have x3 := HA2.out.cell 3
    have y3 := HA2.out.free 3
    simp only [List.getElem?_cons_zero, List.getElem?_cons_succ] at x0 x1 x2 x3
    go_wp2_with fail
    refine (putS_text xn (by have := HLX.out; omega) _).mono ?_
    rintro e wa ⟨vm, rfl, om, bm⟩
    have HOA := Lib.hid (own_below HO2.out bm)
    have HBA := Lib.hid (HB2.out.trans (bm.mono HB2.out.size))
    have HAA := Lib.hid (HA2.out.later bm)
    have HRM := Lib.hid (Rd.of_own om)
    obtain ⟨qm, cm, rfl⟩ := own_form om
    have HLN := Lib.hid (len_of HQ2.out HT.out)
    have HWB : Hid (w.heap.size + 1 ≤ wa.heap.size) := HAA.out.lt
    clear om bm HO2 HB2 HA2 x0 x1 x2 x3 y0 y1 y2 y3
    go_wp2_with (at_builtin; refine app_bytes rfl _ _ rfl rfl HOA.out rfl HRM.out HLN.out HWB.out ?_)
    intro vn wn hown hg
    have HB3 := Lib.hid (below_grown HBA.out HBA.out.size (Nat.le_succ _) HOA.out hg)
    have HA3 : Hid (Arr wn 42 w.heap.size [.int .i64 2, .string (bstr xv), .string (bstr xn), .slice q 0 c]) := (hg.block _ HAA.out.lt (fun e => by have := (HOA.out.lt _ e.symm).1; omega)).trans HAA.out
    obtain ⟨q3, c3, rfl⟩ := own_form hown
    obtain ⟨A3, hA⟩ : ∃ x, x = A2 ++ putS (bstr xn) := ⟨_, rfl⟩
    have hAL : A2.length + (putS (bstr xn)).length = A3.length := by rw [hA, List.length_append]
    have HO3 : Hid (wn.ownsRow (w.heap.size + 1) 5 1 (.slice q3 A3.length c3) A3.length (bvs A3)) := by show World.ownsRow _ _ _ _ _ _ _; rw [hA]; simpa using hown
    rw [hAL]
    clear hAL
    have HQ3 : Hid (T = A3 ++ []) := by rw [hA, List.append_assoc]; exact HQ2.out
    clear hown hg HOA HBA HAA HRM HLN HWB hA HQ2
    generalize wn = w3 at HB3 HA3 HO3 ⊢
    go_wp2_with fail
    go_ret
    have HEND : T = A3 := by rw [HQ3.out, List.append_nil]
    rw [HEND]
    exact ⟨_, rfl, own_le HO3.out (Nat.le_succ _), HB3.out⟩
  · have HQ0 : Hid (T = put 3 ++ (put ks.length ++ putEs ks)) := by show _ = _; rw [HTE.out]; simp [putE, putEs]
    clear HTE
    have HB0 := Lib.hid hb0
    have HA0 : Hid (Arr (w.alloc (.cells #[.int .i64 3, .string (bstr []), .string (bstr []), .slice q ks.length c] 42)) 42 w.heap.size [.int .i64 3, .string (bstr []), .string (bstr []), .slice q ks.length c]) := Arr.new' _ _ _ _ rfl
    go_enter Tryz.func39, Tryz.ntmps39
    go_upto_region 1 with (fail)
    have HN := Lib.hid (putCount_any 3 (by decide) (w.alloc (.cells #[.int .i64 3, .string (bstr []), .string (bstr []), .slice q ks.length c] 42)))
    have HWS : Hid ((w.alloc (.cells #[.int .i64 3, .string (bstr []), .string (bstr []), .slice q ks.length c] 42)).heap.size = w.heap.size + 1) := World.size_alloc _ _
    generalize w.alloc (.cells #[.int .i64 3, .string (bstr []), .string (bstr []), .slice q ks.length c] 42) = w0 at HB0 HA0 HN HWS ⊢
    have x0 := HA0.out.cell 0
    have y0 := HA0.out.free 0
    have x1 := HA0.out.cell 1
    have y1 := HA0.out.free 1
    have x2 := HA0.out.cell 2
    have y2 := HA0.out.free 2
    have x3 := HA0.out.cell 3
    have y3 := HA0.out.free 3
    simp only [List.getElem?_cons_zero, List.getElem?_cons_succ] at x0 x1 x2 x3
    go_wp2_with fail
    refine HN.out.mono ?_
    rintro e w1 ⟨v1, rfl, o1, b1⟩
    have HB1 := Lib.hid (HB0.out.trans (b1.mono HB0.out.size))
    have HA1 := Lib.hid (HA0.out.later b1)
    obtain ⟨q1, c1, rfl⟩ := own_form o1
    obtain ⟨A1, hA⟩ : ∃ x, x = put 3 := ⟨_, rfl⟩
    rw [← hA] at o1 HQ0 ⊢
    have HQ1 := HQ0
    have HO1 : Hid (w1.ownsRow (w.heap.size + 1) 5 1 (.slice q1 A1.length c1) A1.length (bvs A1)) := by rw [← HWS.out]; exact o1
    clear o1 b1 HN HB0 HA0 HWS HQ0 hA x0 x1 x2 x3 y0 y1 y2 y3
    have x0 := HA1.out.cell 0
    have y0 := HA1.out.free 0
    have x1 := HA1.out.cell 1
    have y1 := HA1.out.free 1
    have x2 := HA1.out.cell 2
    have y2 := HA1.out.free 2
    have x3 := HA1.out.cell 3
    have y3 := HA1.out.free 3
    simp only [List.getElem?_cons_zero, List.getElem?_cons_succ] at x0 x1 x2 x3
    go_wp2_with fail
    refine (putCount_any ks.length (by have := HKL.out; omega) _).mono ?_
    rintro e wa ⟨vm, rfl, om, bm⟩
    have HOA := Lib.hid (own_below HO1.out bm)
    have HBA := Lib.hid (HB1.out.trans (bm.mono HB1.out.size))
    have HAA := Lib.hid (HA1.out.later bm)
    have HRM := Lib.hid (Rd.of_own om)
    obtain ⟨qm, cm, rfl⟩ := own_form om
    have HLN := Lib.hid (len_of HQ1.out HT.out)
    have HWB : Hid (w.heap.size + 1 ≤ wa.heap.size) := HAA.out.lt
    clear om bm HO1 HB1 HA1 x0 x1 x2 x3 y0 y1 y2 y3
    go_wp2_with (at_builtin; refine app_bytes rfl _ _ rfl rfl HOA.out rfl HRM.out HLN.out HWB.out ?_)
    intro vn wn hown hg
    have HB2 := Lib.hid (below_grown HBA.out HBA.out.size (Nat.le_succ _) HOA.out hg)
    have HA2 : Hid (Arr wn 42 w.heap.size [.int .i64 3, .string (bstr []), .string (bstr []), .slice q ks.length c]) := (hg.block _ HAA.out.lt (fun e => by have := (HOA.out.lt _ e.symm).1; omega)).trans HAA.out
    obtain ⟨q2, c2, rfl⟩ := own_form hown
    obtain ⟨A2, hA⟩ : ∃ x, x = A1 ++ put ks.length := ⟨_, rfl⟩
    have hAL : A1.length + (put ks.length).length = A2.length := by rw [hA, List.length_append]
    have HO2 : Hid (wn.ownsRow (w.heap.size + 1) 5 1 (.slice q2 A2.length c2) A2.length (bvs A2)) := by show World.ownsRow _ _ _ _ _ _ _; rw [hA]; simpa using hown
    rw [hAL]
    clear hAL
    have HQ2 : Hid (T = A2 ++ putEs ks) := by rw [hA, List.append_assoc]; exact HQ1.out
    clear hown hg HOA HBA HAA HRM HLN HWB hA HQ1
    generalize wn = w2 at HB2 HA2 HO2 ⊢
    have x0 := HA2.out.cell 0
    have y0 := HA2.out.free 0
    have x1 := HA2.out.cell 1
    have y1 := HA2.out.free 1
    have x2 := HA2.out.cell 2
    have y2 := HA2.out.free 2
    have x3 := HA2.out.cell 3
    have y3 := HA2.out.free 3
    simp only [List.getElem?_cons_zero, List.getElem?_cons_succ] at x0 x1 x2 x3
    go_wp2_with fail
    clear x0 x1 x2 x3 y0 y1 y2 y3
    go_loopw [3, 37] (fun bv iv wr => ∃ (i : Nat) (A : List UInt8) (qa : Option Addr) (ca : Nat), i ≤ ks.length ∧ iv = .int .i64 (i : Nat) ∧ bv = .slice qa A.length ca ∧ Hid (wr.ownsRow (w.heap.size + 1) 5 1 (.slice qa A.length ca) A.length (bvs A)) ∧ Hid (Below w.heap.size w wr) ∧ Hid (Arr wr 42 w.heap.size [.int .i64 3, .string (bstr []), .string (bstr []), .slice q ks.length c]) ∧ Hid (T = A ++ putEs (ks.drop i))) (fun _ iv _ => ks.length - (intOf iv).toNat)
    case atStart => exact ⟨0, A2, q2, c2, Nat.zero_le _, rfl, rfl, HO2.out, HB2.out, HA2.out, HQ2.out⟩
    case round =>
      obtain ⟨i, A, qa, ca, hi, rfl, rfl, HO, HB, HA, HQ⟩ := hrel
      by_cases hlt : i < ks.length
      · have hlt' : (i : Int) < ks.length := by omega
        have hi0 : (0 : Int) ≤ i := by omega
        have hw : wrap64 ((i : Int) + 1) = (i : Int) + 1 := by unfold wrap64; have := HKL.out; omega
        obtain ⟨ba, oa, rfl, hba, hl⟩ := HK.out (by omega)
        obtain ⟨x, hx⟩ : ∃ x, x = ks.getD i ex0 := ⟨_, rfl⟩
        obtain ⟨q2, c2, x0, x1, x2, x3, hr⟩ := hl.at hlt
        have hxs := sizeL_get ks i hlt
        have hxd := depthL_get ks i hlt
        rw [← hx] at x0 x1 x2 x3 hr hxs hxd
        have HX := Lib.hid hx
        obtain ⟨xk, xv2, xn2, xs⟩ := x
        have cc : ∀ n, wr.cell? ⟨ba, n, none⟩ = w.cell? ⟨ba, n, none⟩ := fun n => (HB.out).cell (p := ⟨ba, n, none⟩) (hP _ hba)
        have X0 : wr.cell? ⟨ba, oa + i * 4, none⟩ = some (.int .i64 xk) := (cc _).trans x0
        have X1 : wr.cell? ⟨ba, oa + i * 4 + 1, none⟩ = some (.string (bstr xv2)) := (cc _).trans x1
        have X2 : wr.cell? ⟨ba, oa + i * 4 + 2, none⟩ = some (.string (bstr xn2)) := (cc _).trans x2
        have X3 : wr.cell? ⟨ba, oa + i * 4 + 3, none⟩ = some (.slice q2 xs.length c2) := (cc _).trans x3
        clear x0 x1 x2 x3 cc hx
        have HBA : Hid (Below wr.heap.size wr (wr.alloc (.cells #[.int .i64 xk, .string (bstr xv2), .string (bstr xn2), .slice q2 xs.length c2] 42))) := (Below.refl _ _).alloc (Nat.le_refl _) _
        have HR : Hid (RdE P (wr.alloc (.cells #[.int .i64 xk, .string (bstr xv2), .string (bstr xn2), .slice q2 xs.length c2] 42)) (.mk xk xv2 xn2 xs) (.agg #[.int .i64 xk, .string (bstr xv2), .string (bstr xn2), .slice q2 xs.length c2])) := (hr.below (HB.out) hP).below HBA.out (fun b hb => Nat.lt_of_lt_of_le (hP b hb) (HB.out).size)
        have HOK : Hid (okE 64 (.mk xk xv2 xn2 xs) ∧ formE (.mk xk xv2 xn2 xs) = true ∧ sizeE (.mk xk xv2 xn2 xs) ≤ m) := by
          rw [HX.out]
          refine ⟨okL_get HOKL.out hlt, formL_mem HFL.out _ ?_, ?_⟩
          · rw [List.getD_eq_getElem?_getD, List.getElem?_eq_getElem hlt]; exact List.getElem_mem hlt
          · rw [← HX.out]; have := HSZ.out; omega
        have HQ2 : Hid (T = A ++ (putE (.mk xk xv2 xn2 xs) ++ putEs (ks.drop (i + 1)))) := by
          show _ = _
          rw [HQ.out, List.drop_eq_getElem_cons hlt, putEs, HX.out, List.getD_eq_getElem?_getD, List.getElem?_eq_getElem hlt]; rfl
        have HIH := Lib.hid (IH.out (.mk xk xv2 xn2 xs) _ P _ HOK.out.2.2 HOK.out.1 HOK.out.2.1 HR.out (fun b hb => Nat.lt_of_lt_of_le (hP b hb) (Nat.le_trans HB.out.size HBA.out.size)))
        have HOB := Lib.hid (own_below HO.out HBA.out)
        have HBB := Lib.hid (HB.out.trans (HBA.out.mono HB.out.size))
        have HAB := Lib.hid (HA.out.later HBA.out)
        have HLN := Lib.hid (len_of HQ2.out HT.out)
        have HLT : Hid (i < ks.length) := hlt
        clear HO HB HA HQ HBA HR HOK hr hxs hxd HX hlt
        go_wp2_with fail
        refine HIH.out.mono ?_
        rintro e wa ⟨vm, rfl, om, bm⟩
        have HOA := Lib.hid (own_below HOB.out bm)
        have HBA := Lib.hid (HBB.out.trans (bm.mono HBB.out.size))
        have HAA := Lib.hid (HAB.out.later bm)
        have HRM := Lib.hid (Rd.of_own om)
        obtain ⟨qm, cm, rfl⟩ := own_form om
        have HWB : Hid (w.heap.size + 1 ≤ wa.heap.size) := HAA.out.lt
        clear om bm HOB HBB HAB HIH X0 X1 X2 X3
        go_wp2_with (at_builtin; refine app_bytes rfl _ _ rfl rfl HOA.out rfl HRM.out HLN.out HWB.out ?_)
        intro vn wn hown hg
        have HB2 := Lib.hid (below_grown HBA.out HBA.out.size (Nat.le_succ _) HOA.out hg)
        have HA2 : Hid (Arr wn 42 w.heap.size [.int .i64 3, .string (bstr []), .string (bstr []), .slice (some ⟨ba, oa, none⟩) ks.length c]) := (hg.block _ HAA.out.lt (fun e => by have := (HOA.out.lt _ e.symm).1; omega)).trans HAA.out
        obtain ⟨q2, c2, rfl⟩ := own_form hown
        obtain ⟨A2, hA⟩ : ∃ x, x = A ++ putE (.mk xk xv2 xn2 xs) := ⟨_, rfl⟩
        have hAL : A.length + (putE (.mk xk xv2 xn2 xs)).length = A2.length := by rw [hA, List.length_append]
        have HO2 : Hid (wn.ownsRow (w.heap.size + 1) 5 1 (.slice q2 A2.length c2) A2.length (bvs A2)) := by show World.ownsRow _ _ _ _ _ _ _; rw [hA]; simpa using hown
        rw [hAL]
        clear hAL
        have HQ3 : Hid (T = A2 ++ putEs (ks.drop (i + 1))) := by rw [hA, List.append_assoc]; exact HQ2.out
        clear hown hg HOA HBA HAA HRM HLN HWB hA HQ2
        go_wp2_with fail
        go_roundw
        case rel => exact ⟨i + 1, A2, q2, c2, HLT.out, by go_num, rfl, HO2.out, HB2.out, HA2.out, HQ3.out⟩
        case measure => first | exact meas HLT.out (Nat.le_trans HKL.out (by decide)) | exact meas' HLT.out
      · have hlt' : ¬ (i : Int) < ks.length := by omega
        have hd : ks.drop i = [] := List.drop_eq_nil_of_le (by omega)
        rw [hd] at HQ
        have HQ9 : Hid (T = A ++ []) := HQ.out
        have HO9 := HO
        have HB9 := HB
        obtain ⟨A9, hA9⟩ : ∃ x, x = A := ⟨_, rfl⟩
        rw [← hA9] at HO9 HQ9
        subst hA9
        go_wp2_with fail
        go_ret
        have HEND : T = A9 := by rw [HQ9.out, List.append_nil]
        rw [HEND]
        exact ⟨_, rfl, own_le HO9.out (Nat.le_succ _), HB9.out⟩
  · have HQ0 : Hid (T = put 4 ++ (put ks.length ++ putEs ks)) := by show _ = _; rw [HTE.out]; simp [putE, putEs]
    clear HTE
    have HB0 := Lib.hid hb0
    have HA0 : Hid (Arr (w.alloc (.cells #[.int .i64 4, .string (bstr []), .string (bstr []), .slice q ks.length c] 42)) 42 w.heap.size [.int .i64 4, .string (bstr []), .string (bstr []), .slice q ks.length c]) := Arr.new' _ _ _ _ rfl
    go_enter Tryz.func39, Tryz.ntmps39
    go_upto_region 1 with (fail)
    have HN := Lib.hid (putCount_any 4 (by decide) (w.alloc (.cells #[.int .i64 4, .string (bstr []), .string (bstr []), .slice q ks.length c] 42)))
    have HWS : Hid ((w.alloc (.cells #[.int .i64 4, .string (bstr []), .string (bstr []), .slice q ks.length c] 42)).heap.size = w.heap.size + 1) := World.size_alloc _ _
    generalize w.alloc (.cells #[.int .i64 4, .string (bstr []), .string (bstr []), .slice q ks.length c] 42) = w0 at HB0 HA0 HN HWS ⊢
    have x0 := HA0.out.cell 0
    have y0 := HA0.out.free 0
    have x1 := HA0.out.cell 1
    have y1 := HA0.out.free 1
    have x2 := HA0.out.cell 2
    have y2 := HA0.out.free 2
    have x3 := HA0.out.cell 3
    have y3 := HA0.out.free 3
    simp only [List.getElem?_cons_zero, List.getElem?_cons_succ] at x0 x1 x2 x3
    go_wp2_with fail
    refine HN.out.mono ?_
    rintro e w1 ⟨v1, rfl, o1, b1⟩
    have HB1 := Lib.hid (HB0.out.trans (b1.mono HB0.out.size))
    have HA1 := Lib.hid (HA0.out.later b1)
    obtain ⟨q1, c1, rfl⟩ := own_form o1
    obtain ⟨A1, hA⟩ : ∃ x, x = put 4 := ⟨_, rfl⟩
    rw [← hA] at o1 HQ0 ⊢
    have HQ1 := HQ0
    have HO1 : Hid (w1.ownsRow (w.heap.size + 1) 5 1 (.slice q1 A1.length c1) A1.length (bvs A1)) := by rw [← HWS.out]; exact o1
    clear o1 b1 HN HB0 HA0 HWS HQ0 hA x0 x1 x2 x3 y0 y1 y2 y3
    have x0 := HA1.out.cell 0
    have y0 := HA1.out.free 0
    have x1 := HA1.out.cell 1
    have y1 := HA1.out.free 1
    have x2 := HA1.out.cell 2
    have y2 := HA1.out.free 2
    have x3 := HA1.out.cell 3
    have y3 := HA1.out.free 3
    simp only [List.getElem?_cons_zero, List.getElem?_cons_succ] at x0 x1 x2 x3
    go_wp2_with fail
    refine (putCount_any ks.length (by have := HKL.out; omega) _).mono ?_
    rintro e wa ⟨vm, rfl, om, bm⟩
    have HOA := Lib.hid (own_below HO1.out bm)
    have HBA := Lib.hid (HB1.out.trans (bm.mono HB1.out.size))
    have HAA := Lib.hid (HA1.out.later bm)
    have HRM := Lib.hid (Rd.of_own om)
    obtain ⟨qm, cm, rfl⟩ := own_form om
    have HLN := Lib.hid (len_of HQ1.out HT.out)
    have HWB : Hid (w.heap.size + 1 ≤ wa.heap.size) := HAA.out.lt
    clear om bm HO1 HB1 HA1 x0 x1 x2 x3 y0 y1 y2 y3
    go_wp2_with (at_builtin; refine app_bytes rfl _ _ rfl rfl HOA.out rfl HRM.out HLN.out HWB.out ?_)
    intro vn wn hown hg
    have HB2 := Lib.hid (below_grown HBA.out HBA.out.size (Nat.le_succ _) HOA.out hg)
    have HA2 : Hid (Arr wn 42 w.heap.size [.int .i64 4, .string (bstr []), .string (bstr []), .slice q ks.length c]) := (hg.block _ HAA.out.lt (fun e => by have := (HOA.out.lt _ e.symm).1; omega)).trans HAA.out
    obtain ⟨q2, c2, rfl⟩ := own_form hown
    obtain ⟨A2, hA⟩ : ∃ x, x = A1 ++ put ks.length := ⟨_, rfl⟩
    have hAL : A1.length + (put ks.length).length = A2.length := by rw [hA, List.length_append]
    have HO2 : Hid (wn.ownsRow (w.heap.size + 1) 5 1 (.slice q2 A2.length c2) A2.length (bvs A2)) := by show World.ownsRow _ _ _ _ _ _ _; rw [hA]; simpa using hown
    rw [hAL]
    clear hAL
    have HQ2 : Hid (T = A2 ++ putEs ks) := by rw [hA, List.append_assoc]; exact HQ1.out
    clear hown hg HOA HBA HAA HRM HLN HWB hA HQ1
    generalize wn = w2 at HB2 HA2 HO2 ⊢
    have x0 := HA2.out.cell 0
    have y0 := HA2.out.free 0
    have x1 := HA2.out.cell 1
    have y1 := HA2.out.free 1
    have x2 := HA2.out.cell 2
    have y2 := HA2.out.free 2
    have x3 := HA2.out.cell 3
    have y3 := HA2.out.free 3
    simp only [List.getElem?_cons_zero, List.getElem?_cons_succ] at x0 x1 x2 x3
    go_wp2_with fail
    clear x0 x1 x2 x3 y0 y1 y2 y3
    go_loopw [3, 37] (fun bv iv wr => ∃ (i : Nat) (A : List UInt8) (qa : Option Addr) (ca : Nat), i ≤ ks.length ∧ iv = .int .i64 (i : Nat) ∧ bv = .slice qa A.length ca ∧ Hid (wr.ownsRow (w.heap.size + 1) 5 1 (.slice qa A.length ca) A.length (bvs A)) ∧ Hid (Below w.heap.size w wr) ∧ Hid (Arr wr 42 w.heap.size [.int .i64 4, .string (bstr []), .string (bstr []), .slice q ks.length c]) ∧ Hid (T = A ++ putEs (ks.drop i))) (fun _ iv _ => ks.length - (intOf iv).toNat)
    case atStart => exact ⟨0, A2, q2, c2, Nat.zero_le _, rfl, rfl, HO2.out, HB2.out, HA2.out, HQ2.out⟩
    case round =>
      obtain ⟨i, A, qa, ca, hi, rfl, rfl, HO, HB, HA, HQ⟩ := hrel
      by_cases hlt : i < ks.length
      · have hlt' : (i : Int) < ks.length := by omega
        have hi0 : (0 : Int) ≤ i := by omega
        have hw : wrap64 ((i : Int) + 1) = (i : Int) + 1 := by unfold wrap64; have := HKL.out; omega
        obtain ⟨ba, oa, rfl, hba, hl⟩ := HK.out (by omega)
        obtain ⟨x, hx⟩ : ∃ x, x = ks.getD i ex0 := ⟨_, rfl⟩
        obtain ⟨q2, c2, x0, x1, x2, x3, hr⟩ := hl.at hlt
        have hxs := sizeL_get ks i hlt
        have hxd := depthL_get ks i hlt
        rw [← hx] at x0 x1 x2 x3 hr hxs hxd
        have HX := Lib.hid hx
        obtain ⟨xk, xv2, xn2, xs⟩ := x
        have cc : ∀ n, wr.cell? ⟨ba, n, none⟩ = w.cell? ⟨ba, n, none⟩ := fun n => (HB.out).cell (p := ⟨ba, n, none⟩) (hP _ hba)
        have X0 : wr.cell? ⟨ba, oa + i * 4, none⟩ = some (.int .i64 xk) := (cc _).trans x0
        have X1 : wr.cell? ⟨ba, oa + i * 4 + 1, none⟩ = some (.string (bstr xv2)) := (cc _).trans x1
        have X2 : wr.cell? ⟨ba, oa + i * 4 + 2, none⟩ = some (.string (bstr xn2)) := (cc _).trans x2
        have X3 : wr.cell? ⟨ba, oa + i * 4 + 3, none⟩ = some (.slice q2 xs.length c2) := (cc _).trans x3
        clear x0 x1 x2 x3 cc hx
        have HBA : Hid (Below wr.heap.size wr (wr.alloc (.cells #[.int .i64 xk, .string (bstr xv2), .string (bstr xn2), .slice q2 xs.length c2] 42))) := (Below.refl _ _).alloc (Nat.le_refl _) _
        have HR : Hid (RdE P (wr.alloc (.cells #[.int .i64 xk, .string (bstr xv2), .string (bstr xn2), .slice q2 xs.length c2] 42)) (.mk xk xv2 xn2 xs) (.agg #[.int .i64 xk, .string (bstr xv2), .string (bstr xn2), .slice q2 xs.length c2])) := (hr.below (HB.out) hP).below HBA.out (fun b hb => Nat.lt_of_lt_of_le (hP b hb) (HB.out).size)
        have HOK : Hid (okE 64 (.mk xk xv2 xn2 xs) ∧ formE (.mk xk xv2 xn2 xs) = true ∧ sizeE (.mk xk xv2 xn2 xs) ≤ m) := by
          rw [HX.out]
          refine ⟨okL_get HOKL.out hlt, formL_mem HFL.out _ ?_, ?_⟩
          · rw [List.getD_eq_getElem?_getD, List.getElem?_eq_getElem hlt]; exact List.getElem_mem hlt
          · rw [← HX.out]; have := HSZ.out; omega
        have HQ2 : Hid (T = A ++ (putE (.mk xk xv2 xn2 xs) ++ putEs (ks.drop (i + 1)))) := by
          show _ = _
          rw [HQ.out, List.drop_eq_getElem_cons hlt, putEs, HX.out, List.getD_eq_getElem?_getD, List.getElem?_eq_getElem hlt]; rfl
        have HIH := Lib.hid (IH.out (.mk xk xv2 xn2 xs) _ P _ HOK.out.2.2 HOK.out.1 HOK.out.2.1 HR.out (fun b hb => Nat.lt_of_lt_of_le (hP b hb) (Nat.le_trans HB.out.size HBA.out.size)))
        have HOB := Lib.hid (own_below HO.out HBA.out)
        have HBB := Lib.hid (HB.out.trans (HBA.out.mono HB.out.size))
        have HAB := Lib.hid (HA.out.later HBA.out)
        have HLN := Lib.hid (len_of HQ2.out HT.out)
        have HLT : Hid (i < ks.length) := hlt
        clear HO HB HA HQ HBA HR HOK hr hxs hxd HX hlt
        go_wp2_with fail
        refine HIH.out.mono ?_
        rintro e wa ⟨vm, rfl, om, bm⟩
        have HOA := Lib.hid (own_below HOB.out bm)
        have HBA := Lib.hid (HBB.out.trans (bm.mono HBB.out.size))
        have HAA := Lib.hid (HAB.out.later bm)
        have HRM := Lib.hid (Rd.of_own om)
        obtain ⟨qm, cm, rfl⟩ := own_form om
        have HWB : Hid (w.heap.size + 1 ≤ wa.heap.size) := HAA.out.lt
        clear om bm HOB HBB HAB HIH X0 X1 X2 X3
        go_wp2_with (at_builtin; refine app_bytes rfl _ _ rfl rfl HOA.out rfl HRM.out HLN.out HWB.out ?_)
        intro vn wn hown hg
        have HB2 := Lib.hid (below_grown HBA.out HBA.out.size (Nat.le_succ _) HOA.out hg)
        have HA2 : Hid (Arr wn 42 w.heap.size [.int .i64 4, .string (bstr []), .string (bstr []), .slice (some ⟨ba, oa, none⟩) ks.length c]) := (hg.block _ HAA.out.lt (fun e => by have := (HOA.out.lt _ e.symm).1; omega)).trans HAA.out
        obtain ⟨q2, c2, rfl⟩ := own_form hown
        obtain ⟨A2, hA⟩ : ∃ x, x = A ++ putE (.mk xk xv2 xn2 xs) := ⟨_, rfl⟩
        have hAL : A.length + (putE (.mk xk xv2 xn2 xs)).length = A2.length := by rw [hA, List.length_append]
        have HO2 : Hid (wn.ownsRow (w.heap.size + 1) 5 1 (.slice q2 A2.length c2) A2.length (bvs A2)) := by show World.ownsRow _ _ _ _ _ _ _; rw [hA]; simpa using hown
        rw [hAL]
        clear hAL
        have HQ3 : Hid (T = A2 ++ putEs (ks.drop (i + 1))) := by rw [hA, List.append_assoc]; exact HQ2.out
        clear hown hg HOA HBA HAA HRM HLN HWB hA HQ2
        go_wp2_with fail
        go_roundw
        case rel => exact ⟨i + 1, A2, q2, c2, HLT.out, by go_num, rfl, HO2.out, HB2.out, HA2.out, HQ3.out⟩
        case measure => first | exact meas HLT.out (Nat.le_trans HKL.out (by decide)) | exact meas' HLT.out
      · have hlt' : ¬ (i : Int) < ks.length := by omega
        have hd : ks.drop i = [] := List.drop_eq_nil_of_le (by omega)
        rw [hd] at HQ
        have HQ9 : Hid (T = A ++ []) := HQ.out
        have HO9 := HO
        have HB9 := HB
        obtain ⟨A9, hA9⟩ : ∃ x, x = A := ⟨_, rfl⟩
        rw [← hA9] at HO9 HQ9
        subst hA9
        go_wp2_with fail
        go_ret
        have HEND : T = A9 := by rw [HQ9.out, List.append_nil]
        rw [HEND]
        exact ⟨_, rfl, own_le HO9.out (Nat.le_succ _), HB9.out⟩
  · have HQ0 : Hid (T = put 5 ++ (putEs ks)) := by show _ = _; rw [HTE.out]; simp [putE, putEs]
    clear HTE
    have HB0 := Lib.hid hb0
    have HA0 : Hid (Arr (w.alloc (.cells #[.int .i64 5, .string (bstr []), .string (bstr []), .slice q ks.length c] 42)) 42 w.heap.size [.int .i64 5, .string (bstr []), .string (bstr []), .slice q ks.length c]) := Arr.new' _ _ _ _ rfl
    go_enter Tryz.func39, Tryz.ntmps39
    go_upto_region 1 with (fail)
    have HN := Lib.hid (putCount_any 5 (by decide) (w.alloc (.cells #[.int .i64 5, .string (bstr []), .string (bstr []), .slice q ks.length c] 42)))
    have HWS : Hid ((w.alloc (.cells #[.int .i64 5, .string (bstr []), .string (bstr []), .slice q ks.length c] 42)).heap.size = w.heap.size + 1) := World.size_alloc _ _
    generalize w.alloc (.cells #[.int .i64 5, .string (bstr []), .string (bstr []), .slice q ks.length c] 42) = w0 at HB0 HA0 HN HWS ⊢
    have x0 := HA0.out.cell 0
    have y0 := HA0.out.free 0
    have x1 := HA0.out.cell 1
    have y1 := HA0.out.free 1
    have x2 := HA0.out.cell 2
    have y2 := HA0.out.free 2
    have x3 := HA0.out.cell 3
    have y3 := HA0.out.free 3
    simp only [List.getElem?_cons_zero, List.getElem?_cons_succ] at x0 x1 x2 x3
    go_wp2_with fail
    refine HN.out.mono ?_
    rintro e w1 ⟨v1, rfl, o1, b1⟩
    have HB1 := Lib.hid (HB0.out.trans (b1.mono HB0.out.size))
    have HA1 := Lib.hid (HA0.out.later b1)
    obtain ⟨q1, c1, rfl⟩ := own_form o1
    obtain ⟨A1, hA⟩ : ∃ x, x = put 5 := ⟨_, rfl⟩
    rw [← hA] at o1 HQ0 ⊢
    have HQ1 := HQ0
    have HO1 : Hid (w1.ownsRow (w.heap.size + 1) 5 1 (.slice q1 A1.length c1) A1.length (bvs A1)) := by rw [← HWS.out]; exact o1
    clear o1 b1 HN HB0 HA0 HWS HQ0 hA x0 x1 x2 x3 y0 y1 y2 y3
    have x0 := HA1.out.cell 0
    have y0 := HA1.out.free 0
    have x1 := HA1.out.cell 1
    have y1 := HA1.out.free 1
    have x2 := HA1.out.cell 2
    have y2 := HA1.out.free 2
    have x3 := HA1.out.cell 3
    have y3 := HA1.out.free 3
    simp only [List.getElem?_cons_zero, List.getElem?_cons_succ] at x0 x1 x2 x3
    go_wp2_with fail
    clear x0 x1 x2 x3 y0 y1 y2 y3
    go_loopw [3, 37] (fun bv iv wr => ∃ (i : Nat) (A : List UInt8) (qa : Option Addr) (ca : Nat), i ≤ ks.length ∧ iv = .int .i64 (i : Nat) ∧ bv = .slice qa A.length ca ∧ Hid (wr.ownsRow (w.heap.size + 1) 5 1 (.slice qa A.length ca) A.length (bvs A)) ∧ Hid (Below w.heap.size w wr) ∧ Hid (Arr wr 42 w.heap.size [.int .i64 5, .string (bstr []), .string (bstr []), .slice q ks.length c]) ∧ Hid (T = A ++ putEs (ks.drop i))) (fun _ iv _ => ks.length - (intOf iv).toNat)
    case atStart => exact ⟨0, A1, q1, c1, Nat.zero_le _, rfl, rfl, HO1.out, HB1.out, HA1.out, HQ1.out⟩
    case round =>
      obtain ⟨i, A, qa, ca, hi, rfl, rfl, HO, HB, HA, HQ⟩ := hrel
      by_cases hlt : i < ks.length
      · have hlt' : (i : Int) < ks.length := by omega
        have hi0 : (0 : Int) ≤ i := by omega
        have hw : wrap64 ((i : Int) + 1) = (i : Int) + 1 := by unfold wrap64; have := HKL.out; omega
        obtain ⟨ba, oa, rfl, hba, hl⟩ := HK.out (by omega)
        obtain ⟨x, hx⟩ : ∃ x, x = ks.getD i ex0 := ⟨_, rfl⟩
        obtain ⟨q2, c2, x0, x1, x2, x3, hr⟩ := hl.at hlt
        have hxs := sizeL_get ks i hlt
        have hxd := depthL_get ks i hlt
        rw [← hx] at x0 x1 x2 x3 hr hxs hxd
        have HX := Lib.hid hx
        obtain ⟨xk, xv2, xn2, xs⟩ := x
        have cc : ∀ n, wr.cell? ⟨ba, n, none⟩ = w.cell? ⟨ba, n, none⟩ := fun n => (HB.out).cell (p := ⟨ba, n, none⟩) (hP _ hba)
        have X0 : wr.cell? ⟨ba, oa + i * 4, none⟩ = some (.int .i64 xk) := (cc _).trans x0
        have X1 : wr.cell? ⟨ba, oa + i * 4 + 1, none⟩ = some (.string (bstr xv2)) := (cc _).trans x1
        have X2 : wr.cell? ⟨ba, oa + i * 4 + 2, none⟩ = some (.string (bstr xn2)) := (cc _).trans x2
        have X3 : wr.cell? ⟨ba, oa + i * 4 + 3, none⟩ = some (.slice q2 xs.length c2) := (cc _).trans x3
        clear x0 x1 x2 x3 cc hx
        have HBA : Hid (Below wr.heap.size wr (wr.alloc (.cells #[.int .i64 xk, .string (bstr xv2), .string (bstr xn2), .slice q2 xs.length c2] 42))) := (Below.refl _ _).alloc (Nat.le_refl _) _
        have HR : Hid (RdE P (wr.alloc (.cells #[.int .i64 xk, .string (bstr xv2), .string (bstr xn2), .slice q2 xs.length c2] 42)) (.mk xk xv2 xn2 xs) (.agg #[.int .i64 xk, .string (bstr xv2), .string (bstr xn2), .slice q2 xs.length c2])) := (hr.below (HB.out) hP).below HBA.out (fun b hb => Nat.lt_of_lt_of_le (hP b hb) (HB.out).size)
        have HOK : Hid (okE 64 (.mk xk xv2 xn2 xs) ∧ formE (.mk xk xv2 xn2 xs) = true ∧ sizeE (.mk xk xv2 xn2 xs) ≤ m) := by
          rw [HX.out]
          refine ⟨okL_get HOKL.out hlt, formL_mem HFL.out _ ?_, ?_⟩
          · rw [List.getD_eq_getElem?_getD, List.getElem?_eq_getElem hlt]; exact List.getElem_mem hlt
          · rw [← HX.out]; have := HSZ.out; omega
        have HQ2 : Hid (T = A ++ (putE (.mk xk xv2 xn2 xs) ++ putEs (ks.drop (i + 1)))) := by
          show _ = _
          rw [HQ.out, List.drop_eq_getElem_cons hlt, putEs, HX.out, List.getD_eq_getElem?_getD, List.getElem?_eq_getElem hlt]; rfl
        have HIH := Lib.hid (IH.out (.mk xk xv2 xn2 xs) _ P _ HOK.out.2.2 HOK.out.1 HOK.out.2.1 HR.out (fun b hb => Nat.lt_of_lt_of_le (hP b hb) (Nat.le_trans HB.out.size HBA.out.size)))
        have HOB := Lib.hid (own_below HO.out HBA.out)
        have HBB := Lib.hid (HB.out.trans (HBA.out.mono HB.out.size))
        have HAB := Lib.hid (HA.out.later HBA.out)
        have HLN := Lib.hid (len_of HQ2.out HT.out)
        have HLT : Hid (i < ks.length) := hlt
        clear HO HB HA HQ HBA HR HOK hr hxs hxd HX hlt
        go_wp2_with fail
        refine HIH.out.mono ?_
        rintro e wa ⟨vm, rfl, om, bm⟩
        have HOA := Lib.hid (own_below HOB.out bm)
        have HBA := Lib.hid (HBB.out.trans (bm.mono HBB.out.size))
        have HAA := Lib.hid (HAB.out.later bm)
        have HRM := Lib.hid (Rd.of_own om)
        obtain ⟨qm, cm, rfl⟩ := own_form om
        have HWB : Hid (w.heap.size + 1 ≤ wa.heap.size) := HAA.out.lt
        clear om bm HOB HBB HAB HIH X0 X1 X2 X3
        go_wp2_with (at_builtin; refine app_bytes rfl _ _ rfl rfl HOA.out rfl HRM.out HLN.out HWB.out ?_)
        intro vn wn hown hg
        have HB2 := Lib.hid (below_grown HBA.out HBA.out.size (Nat.le_succ _) HOA.out hg)
        have HA2 : Hid (Arr wn 42 w.heap.size [.int .i64 5, .string (bstr []), .string (bstr []), .slice (some ⟨ba, oa, none⟩) ks.length c]) := (hg.block _ HAA.out.lt (fun e => by have := (HOA.out.lt _ e.symm).1; omega)).trans HAA.out
        obtain ⟨q2, c2, rfl⟩ := own_form hown
        obtain ⟨A2, hA⟩ : ∃ x, x = A ++ putE (.mk xk xv2 xn2 xs) := ⟨_, rfl⟩
        have hAL : A.length + (putE (.mk xk xv2 xn2 xs)).length = A2.length := by rw [hA, List.length_append]
        have HO2 : Hid (wn.ownsRow (w.heap.size + 1) 5 1 (.slice q2 A2.length c2) A2.length (bvs A2)) := by show World.ownsRow _ _ _ _ _ _ _; rw [hA]; simpa using hown
        rw [hAL]
        clear hAL
        have HQ3 : Hid (T = A2 ++ putEs (ks.drop (i + 1))) := by rw [hA, List.append_assoc]; exact HQ2.out
        clear hown hg HOA HBA HAA HRM HLN HWB hA HQ2
        go_wp2_with fail
        go_roundw
        case rel => exact ⟨i + 1, A2, q2, c2, HLT.out, by go_num, rfl, HO2.out, HB2.out, HA2.out, HQ3.out⟩
        case measure => first | exact meas HLT.out (Nat.le_trans HKL.out (by decide)) | exact meas' HLT.out
      · have hlt' : ¬ (i : Int) < ks.length := by omega
        have hd : ks.drop i = [] := List.drop_eq_nil_of_le (by omega)
        rw [hd] at HQ
        have HQ9 : Hid (T = A ++ []) := HQ.out
        have HO9 := HO
        have HB9 := HB
        obtain ⟨A9, hA9⟩ : ∃ x, x = A := ⟨_, rfl⟩
        rw [← hA9] at HO9 HQ9
        subst hA9
        go_wp2_with fail
        go_ret
        have HEND : T = A9 := by rw [HQ9.out, List.append_nil]
        rw [HEND]
        exact ⟨_, rfl, own_le HO9.out (Nat.le_succ _), HB9.out⟩
theorem putX_any : ∀ (m : Nat), m ≤ 64 → ∀ (e : Ex) (v : Value) (P : Nat → Prop) (w : World), sizeE e ≤ m → okE 64 e → formE e = true → RdE P w e v → (∀ b, P b → b < w.heap.size) → Calls Tryz.prog 39 #[v] w (Owned w (putE e))
  | 0, _, e, _, _, _, hs, _, _, _, _ => absurd hs (by have := sizeE_pos e; omega)
  | m + 1, hm, e, v, P, w, hs, ho, hf, h, hP => putX_step (putX_any m (by omega)) (by omega) e v P w hs ho hf h hP
end Go.Proofs.YtdnmgemjhpkekaaGreatDoor
