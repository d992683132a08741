/-
  sha.blocks.
-/
import Derived.Test.YtlngicddojoogaaGreatDoorShaC
import Derived.Test.YtlngicddojoogaaGreatDoorHeld
namespace Go.Proofs.YtlngicddojoogaaGreatDoor
open Go.ChangeShapes Go.WideShapes Go.ChangeAt Go.RowKit
set_option linter.unusedVariables false

theorem arr_at (a : Addr) (n c : Nat) (h : ¬ n < 64) (w : World) : (Instr.arrayAt 106 (.slice (some a) n c)).run Tryz.prog w = .ok (.pointer (some a)) w := by
  simp [Instr.arrayAt, Sem.run_bind, run_underlying Tryz.underlying106, h]
def slen : Value → Nat
  | .slice _ n _ => n
  | _ => 0
theorem comp_succ (k : Nat) (s : S8) (l : List UInt8) : compN (k + 1) s l = blk (compN k s l) ((l.drop (64 * k)).take 64) := by rw [comp_add]; rfl
/-- What a round of blocks keeps. -/
def Bl (base : Nat) (w : World) (s : S8) (l : List UInt8) (z : List Value) (k : Nat) (v : Value) (wr : World) : Prop :=
  Held base wr v (l.drop (64 * k)) ∧ Arr wr 97 w.heap.size (wvs (compN k s l).list) ∧ Arr wr 97 (w.heap.size + 1) z ∧ Below w.heap.size w wr ∧ Env wr ∧ ∀ a n c, v = .slice (some a) n c → a.block < w.heap.size
def BlPost (base : Nat) (w : World) (s : S8) (l : List UInt8) (e : Ending) (w' : World) : Prop :=
  ∃ v, e = .returned (.tuple #[.agg (wvs (compN (l.length / 64) s l).list).toArray, v]) ∧ Held base w' v (l.drop (64 * (l.length / 64))) ∧ Below w.heap.size w w'

set_option maxRecDepth 100000 in
set_option maxHeartbeats 4000000 in
theorem blocks_any {base : Nat} {s : S8} {v : Value} {l : List UInt8} {w : World} (hh : Held base w v l) (hB : base ≤ w.heap.size) (hl : l.length ≤ 140737488355328) (he : Env w) :
    Calls Tryz.prog 47 #[.agg (wvs s.list).toArray, v] w (BlPost base w s l) := by
  obtain ⟨sl, hsl⟩ : ∃ sl, sl = s.list := ⟨_, rfl⟩
  rw [← hsl]
  have HST : Hid (∀ z : Array Value, z.toList.length = 8 → Bl base w s l z.toList 0 v ((w.alloc (.cells (wvs sl).toArray 97)).alloc (.cells z 97))) := by
    intro z hz
    have h1 : Below w.heap.size w ((w.alloc (.cells (wvs sl).toArray 97)).alloc (.cells z 97)) := ((Below.refl _ _).alloc (Nat.le_refl _) _).alloc (by simp) _
    refine ⟨by simpa using hh.later h1, ?_, Arr.new2 w _ _ z _ rfl, h1, he.below h1, hh.lt⟩
    rw [hsl]
    exact (Arr.new' w _ (wvs s.list).toArray (wvs s.list) (by simp)).alloc _
  have HG : Hid (0 < w.heap.size ∧ 2 < w.heap.size) := ⟨by obtain ⟨_, h⟩ := he.1; exact h.lt, by obtain ⟨_, h⟩ := he.2; exact h.lt⟩
  clear hh he hsl
  go_enter Tryz.func47, Tryz.ntmps47
  go_wp2_with fail
  go_loopw [1] (fun vv wr => ∃ (k : Nat) (z : List Value), 64 * k ≤ l.length ∧ slen vv = l.length - 64 * k ∧ z.length = 8 ∧ Hid (Bl base w s l z k vv wr)) (fun vv _ => slen vv)
  case atStart =>
    have h := HST.out #[.int .u32 0, .int .u32 0, .int .u32 0, .int .u32 0, .int .u32 0, .int .u32 0, .int .u32 0, .int .u32 0] rfl
    obtain ⟨q, c, hv, _⟩ := h.1.form
    exact ⟨0, _, by omega, by rw [hv]; simp [slen], rfl, h⟩
  case round =>
    obtain ⟨k, z, hk, hlen, hz, HM⟩ := hrel
    clear HST
    have HZ := Lib.hid hz
    clear hz
    obtain ⟨m, hm⟩ : ∃ m, m = l.drop (64 * k) := ⟨_, rfl⟩
    have hml : m.length = l.length - 64 * k := by rw [hm, List.length_drop]
    have HE := HM.out.1
    rw [← hm] at HE
    obtain ⟨n, hn⟩ : ∃ n, n = m.length := ⟨_, rfl⟩
    by_cases h64 : 64 ≤ n
    · rcases HE with ⟨_, h0⟩ | ⟨g, off, c, rfl, h1, h2, h3, h4, h5, h6⟩
      · rw [h0] at hn; simp at hn; omega
      have HR := Lib.hid (range_bytes h5 64 (by omega))
      have HHd := Lib.hid (show Held base wr (.slice (some ⟨g, off, none⟩) m.length c) m from .inr ⟨g, off, c, rfl, h1, h2, h3, h4, h5, h6⟩)
      have i1 : (64 : Int) ≤ n := by omega
      have i2 : ¬ n < 64 := by omega
      have i3 : (64 : Int) ≤ c := by omega
      have i4 : (n : Int) ≤ c := by omega
      rw [← hn] at HHd h1 ⊢
      have HN := Lib.hid hn
      have HML := Lib.hid hml
      have HMD := Lib.hid hm
      have HLEN := Lib.hid hlen
      clear h3 h4 h5 h6 hn hml hm hlen
      go_wp2_with fail
      have har := arr_at ⟨g, off, none⟩ n c i2
      refine region_tail 4 (by kernel_rfl) (by kernel_rfl) ?_
      simp only [List.take_succ_cons, List.take_zero, List.drop_succ_cons, List.drop_zero]
      have hS : Arr wr.drew 97 w.heap.size (wvs (compN k s l).list) := HM.out.2.1
      have hR : wr.drew.rangeAt g off (bvs (List.take 64 m)) := HR.out
      have HF := Lib.hid (show Held base wr.drew (.slice (some ⟨g, off, none⟩) n c) m ∧ Arr wr.drew 97 (w.heap.size + 1) z ∧ Below w.heap.size w wr.drew ∧ Env wr.drew ∧ g < w.heap.size from ⟨HHd.out.later (Below.refl _ _).drew, HM.out.2.2.1, HM.out.2.2.2.1.drew, HM.out.2.2.2.2.1, HM.out.2.2.2.2.2 ⟨g, off, none⟩ _ _ rfl⟩)
      have HT : Hid ((List.take 64 m).length = 64) := by show _ = _; rw [List.length_take, ← HN.out]; omega
      obtain ⟨S, hS8⟩ : ∃ S, S = (compN k s l) := ⟨_, rfl⟩
      rw [← hS8] at hS
      have HS8 := Lib.hid hS8
      have HL8 : Hid (S.list.length = 8) := rfl
      clear hS8 HM HR HHd
      generalize wr.drew = w2 at hS hR HF ⊢
      have HSS := Lib.hid hS
      ((with_reducible refine still8w (x := .tmp 2) (o := ⟨some 9, _, _, _, _, _⟩) hS HL8.out ?_ ?_); exact ⟨rfl, rfl, rfl⟩)
      still_step
      still_step
      ((with_reducible refine still64b (x := .tmp 11) (o := ⟨some 12, _, _, _, _, _⟩) hR HT.out ?_ ?_); exact ⟨rfl, rfl, rfl⟩)
      refine wpStill_nil ?_
      clear hS hR
      go_wp2_with fail
      refine (block_any S (List.take 64 m) HT.out w2 HF.out.2.2.2.1).mono ?_
      rintro e w3 ⟨rfl, b3⟩
      obtain ⟨R, hRR⟩ : ∃ R, R = (blk S (List.take 64 m)).list := ⟨_, rfl⟩
      rw [← hRR]
      have HBL : Hid (R.length = 8) := by rw [hRR]; rfl
      have HRR := Lib.hid hRR
      clear hRR
      have hA := HSS.out.later b3
      have HBN : Hid ((wvs S.list).length = 8) := rfl
      have HF3 := Lib.hid (show Held base w3 (.slice (some ⟨g, off, none⟩) n c) m ∧ Arr w3 97 w.heap.size (wvs S.list) ∧ Arr w3 97 (w.heap.size + 1) z ∧ Below w.heap.size w w3 ∧ Env w3 ∧ g < w.heap.size from ⟨HF.out.1.later b3, hA, HF.out.2.1.later b3, HF.out.2.2.1.trans (b3.mono HF.out.2.2.1.size), HF.out.2.2.2.1.below b3, HF.out.2.2.2.2⟩)
      clear b3 HF HSS
      by_cases hcap : 64 = c
      all_goals go_wp2_with ((with_reducible refine store8w (x := .tmp 2) (y := .tmp 13) (l := R) (o := ⟨none, .store _ _ _, _, _, _, _⟩) hA HBN.out HBL.out ?_ ?_); exact ⟨rfl, rfl, rfl, rfl⟩)
      all_goals
        have hb4 : Below w.heap.size w3 (w3.setRow w.heap.size (wvs R).toArray) := below_row (Below.refl _ _) (Nat.le_refl _) _
        have HH4 := HF3.out.1.under (top := w.heap.size) (fun a n c e => by cases e; exact HF3.out.2.2.2.2.2) hb4
        have HD := HH4.drop (k := 64) h64
        have HMX : Hid (m.drop 64 = l.drop (64 * (k + 1))) := by show _ = _; rw [HMD.out, List.drop_drop]; congr 1
        rw [HMX.out] at HD
        have hkk : 64 * (k + 1) ≤ l.length := by have := HML.out; have := HN.out; omega
        have HRW : Hid (R = (compN (k + 1) s l).list) := by show _ = _; rw [HRR.out, comp_succ, ← HS8.out, ← HMD.out]
        have hE4 : Env (w3.setRow w.heap.size (wvs R).toArray) := ⟨HF3.out.2.2.2.2.1.1.imp fun _ h => h.row_other (Nat.ne_of_lt HG.out.1) _, HF3.out.2.2.2.2.1.2.imp fun _ h => h.row_other (Nat.ne_of_lt HG.out.2) _⟩
        have HB4 : Hid (∀ v', Held base (w3.setRow w.heap.size (wvs R).toArray) v' (l.drop (64 * (k + 1))) → (∀ a n c, v' = .slice (some a) n c → a.block < w.heap.size) → Bl base w s l z (k + 1) v' (w3.setRow w.heap.size (wvs R).toArray)) := by
          intro v' hv hlt
          exact ⟨hv, by rw [← HRW.out]; exact HF3.out.2.1.row _, HF3.out.2.2.1.row_other (by omega) _, below_row HF3.out.2.2.2.1 (Nat.le_refl _) _, hE4, hlt⟩
        have hgl := HF3.out.2.2.2.2.2
      · rw [if_pos hcap] at HD
        have hn : n = 64 := by omega
        have hc : c = 64 := by omega
        go_roundw
        case rel =>
          refine ⟨k + 1, z, hkk, ?_, HZ.out, HB4.out _ ?_ (fun a n c e => by cases e; exact hgl)⟩
          · have := HML.out; have := HN.out; simp [slen]; omega
          · rw [hn, hc] at HD; exact HD
        case measure => simp [slen]; omega
      · rw [if_neg hcap] at HD
        go_roundw
        case rel =>
          refine ⟨k + 1, z, hkk, ?_, HZ.out, HB4.out _ HD (fun a n c e => by cases e; exact hgl)⟩
          have := HML.out; have := HN.out; simp [slen]; omega
        case measure => simp [slen]; omega
    · obtain ⟨q, c, rfl, hc1, hc2⟩ := HE.form
      have hkq : k = l.length / 64 := by omega
      have hM := HM.out.2.1
      have hZ := HM.out.2.2.1
      have HHE := Lib.hid (And.intro HE (And.intro HM.out.2.2.2.1 HM.out.2.2.2.2.2))
      rw [← hn] at hc1 HHE ⊢
      have HMD := Lib.hid hm
      obtain ⟨S, hS8⟩ : ∃ S, S = (compN k s l) := ⟨_, rfl⟩
      rw [← hS8] at hM
      have HS8 := Lib.hid hS8
      have HKQ := Lib.hid hkq
      obtain ⟨R, hRR⟩ : ∃ R, R = S.list := ⟨_, rfl⟩
      rw [← hRR] at hM
      have HRL : Hid (R.length = 8) := by rw [hRR]; rfl
      have HRR := Lib.hid hRR
      have i1 : ¬ (64 : Int) ≤ n := by omega
      clear hm hkq HM hlen hml HE hn hS8 hRR
      go_wp2_with (first
        | ((with_reducible refine load8w (x := .tmp 2) (o := ⟨some 16, _, _, _, _, _⟩) hM HRL.out ?_ ?_); exact ⟨rfl, rfl, rfl⟩)
        | ((with_reducible refine store8w (x := .tmp 4) (y := .tmp 16) (l := R) (o := ⟨none, .store _ _ _, _, _, _, _⟩) hZ HZ.out HRL.out ?_ ?_); exact ⟨rfl, rfl, rfl, rfl⟩))
      have hb : Below w.heap.size wr (wr.setRow (w.heap.size + 1) (wvs R).toArray) := below_row (Below.refl _ _) (by omega) _
      refine bodyPost_ret (res8wt rfl (hZ.row _) HRL.out rfl) rfl ⟨.slice q n c, ?_, ?_, HHE.out.2.1.trans hb⟩
      · rw [HRR.out, HS8.out, HKQ.out]; rfl
      · have h := HHE.out.1.under HHE.out.2.2 hb
        rw [HMD.out, HKQ.out] at h
        exact h
end Go.Proofs.YtlngicddojoogaaGreatDoor
