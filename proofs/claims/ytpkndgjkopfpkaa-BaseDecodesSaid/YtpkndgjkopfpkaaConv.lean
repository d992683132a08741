/-
  A byte slice turned into a string; vestryref01.Text and Join.
-/
import Derived.Test.YtpkndgjkopfpkaaApp
import Derived.Test.YtpkndgjkopfpkaaRefPut
import Derived.Test.YtpkndgjkopfpkaaJoin
import Derived.Test.YtpkndgjkopfpkaaText
import Derived.Laws.BytesArg
namespace Go.Proofs.Ytpkndgjkopfpkaa
open Go.ChangeShapes Go.WideShapes Go.ChangeAt Go.RowKit

def str (l : List UInt8) : ByteArray := ⟨l.toArray⟩
theorem str_size (l : List UInt8) : (str l).size = l.length := rfl
theorem str_data (s : ByteArray) : str s.data.toList = s := rfl

theorem conv_bytes {B : Nat} {w : World} {oa : Option Addr} {n cap : Nat} {l : List UInt8} (hr : Rd B w (.slice oa n cap) l) :
    (convert 23 9 (.slice oa n cap)).run Try.prog w = .ok (.string (str l)) w := by
  rcases hr with ⟨oa', hv, rfl⟩ | ⟨b, off, cap', hv, h1, h2, h3, hc⟩
  · simp only [Value.slice.injEq] at hv
    obtain ⟨rfl, rfl, rfl⟩ := hv
    cases oa with
    | none => exact run_convert_bytes_nil w _ _ Try.underlying23 Try.underlying5 0 0 _ Try.underlying9
    | some a =>
      rw [run_convert_bytes_string w _ _ _ _ 0 0 Try.underlying23 Try.underlying5 Try.underlying9]
      rw [run_bytesToString w a 0 0 [] (by simpa using run_loadCells_list (P := Try.prog) w a [] (fun j v hj => by simp at hj))]
      rfl
  · simp only [Value.slice.injEq] at hv
    obtain ⟨rfl, rfl, rfl⟩ := hv
    rw [run_convert_bytes_arg w _ _ Try.underlying23 Try.underlying5 b off l.length cap (l.map fun x => (x.toNat : Int)) (by simp) (fun i hi => by
      rw [hc i hi]; simp [bv, List.getD_eq_getElem?_getD, List.getElem?_eq_getElem hi]) _ Try.underlying9]
    unfold strOfNums str
    congr 3
    congr 1
    rw [List.map_map]
    conv => rhs; rw [← List.map_id l]
    apply List.map_congr_left
    intro x _
    show UInt8.ofNat ((x.toNat : Int)).toNat = x
    rw [Int.toNat_natCast, UInt8.ofNat_toNat]

set_option maxRecDepth 100000 in
theorem rtext_any (s : ByteArray) (hs : s.size ≤ 140737488355318) (w : World) :
    Calls Try.prog 21 #[.string s] w (Owned w (put s.size ++ s.data.toList)) := by
  have hl : s.size < lim64 := by unfold lim64; omega
  have hp := put_len10 hl
  have HL := Lib.hid hl
  clear hl
  go_enter Try.func21, Try.ntmps21
  go_wp2_with (first | (go_at_call 14; refine (rput _ HL.out _).mono ?_; rintro e w1 ⟨v, rfl, hown, hb⟩) | (at_builtin; refine app_str rfl _ _ rfl rfl hown rfl (by omega) (by have := hb.size; omega) ?_; intro v1 w2 hown1 hg1))
  go_ret
  exact ⟨v1, rfl, hown1, below_grown hb hb.size (Nat.le_refl _) hown hg1⟩

set_option maxRecDepth 100000 in
set_option maxHeartbeats 400000 in
theorem rjoin_any {B : Nat} {w : World} {oa : Option Addr} {cap : Nat} {ls : List (List UInt8)} (hr : RdAll B w oa ls) (hB : B ≤ w.heap.size) (hn : ls.length ≤ 140737488355328) (ht : total ls ≤ 140737488355328) :
    Calls Try.prog 17 #[.slice oa ls.length cap] w (Owned w ls.flatten) := by
  by_cases hz : 0 < ls.length
  · obtain ⟨b, off, rfl, hbB, hc⟩ := hr hz
    go_enter Try.func17, Try.ntmps17
    go_wp2
    go_loopw [3, 4] (fun v iv wr => ∃ k : Nat, k ≤ ls.length ∧ iv = .int .i64 k ∧ wr.ownsRow w.heap.size 5 1 v (ls.take k).flatten.length (bvs (ls.take k).flatten) ∧ Below w.heap.size w wr) (fun _ iv _ => ls.length - (intOf iv).toNat)
    case atStart => exact ⟨0, Nat.zero_le _, rfl, World.ownsRow_nil _ _ _ _, Below.refl _ _⟩
    case round =>
      obtain ⟨k, hk, rfl, hown, hb⟩ := hrel
      have hsz := hb.size
      by_cases hlt : k < ls.length
      · obtain ⟨p, ou, cu, HT, hu', hru', hnx, hmu⟩ : ∃ (p : List UInt8) (ou : Option Addr) (cu : Nat), Hid ((ls.take (k + 1)).flatten = (ls.take k).flatten ++ p) ∧ wr.cell? ⟨b, off + k, none⟩ = some (.slice ou p.length cu) ∧ Rd B wr (.slice ou p.length cu) p ∧ (ls.take k).flatten.length + p.length ≤ total ls ∧ p.length ≤ maxLen := by
          obtain ⟨u, hu, hru⟩ := hc k hlt
          obtain ⟨ou, cu, rfl, hmu, _⟩ := hru.form
          have hnx := total_le ls (k + 1)
          rw [total_take ls k hlt, List.length_append] at hnx
          exact ⟨_, ou, cu, total_take ls k hlt, (hb.cell (by show b < w.heap.size; omega)).trans hu, hru.below hb (by omega), hnx, hmu⟩
        have hi1 : (k : Int) < ls.length := by omega
        have hi0 : (0 : Int) ≤ k := by omega
        clear hc
        go_wp2_with (at_builtin; refine app_bytes rfl _ _ rfl rfl hown rfl hru' (by omega) hsz ?_)
        intro v1 w1 hown1 hg1
        have hb1 := below_grown hb hsz (Nat.le_refl _) hown hg1
        clear hown hg1 hru'
        go_wp2
        go_roundw
        case rel => exact ⟨k + 1, by omega, by go_num, by rw [HT.out]; simpa using hown1, hb1⟩
        case measure => simp [intOf]; omega
      · obtain rfl : k = ls.length := by omega
        rw [List.take_length] at hown
        clear hc
        go_wp2
        go_ret
        exact ⟨_, rfl, hown, hb⟩
  · obtain rfl : ls = [] := List.eq_nil_of_length_eq_zero (by omega)
    go_enter Try.func17, Try.ntmps17
    go_wp2
    go_loopw [3, 4] (fun v iv wr => iv = .int .i64 0 ∧ wr.ownsRow w.heap.size 5 1 v ([] : List UInt8).length (bvs []) ∧ Below w.heap.size w wr) (fun _ iv _ => 0)
    case atStart => exact ⟨rfl, World.ownsRow_nil _ _ _ _, Below.refl _ _⟩
    case round =>
      obtain ⟨rfl, hown, hb⟩ := hrel
      go_wp2
      go_ret
      exact ⟨_, rfl, hown, hb⟩
end Go.Proofs.Ytpkndgjkopfpkaa
