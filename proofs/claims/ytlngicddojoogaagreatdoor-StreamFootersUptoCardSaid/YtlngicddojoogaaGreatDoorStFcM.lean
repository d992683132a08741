/-
  The statement StreamFootersUptoCardSaid: for all parts that hold together at most 1048576 values and letters, the law StreamFooters returns true, and changes nothing that was there. Condition: the package-level variables that the row lists hold what the program's own text puts there.
-/
import Derived.Test.YtlngicddojoogaaGreatDoorStLaidM
import Derived.Test.YtlngicddojoogaaGreatDoorMt2
import Derived.Test.YtlngicddojoogaaGreatDoorMt1
import Derived.Test.YtlngicddojoogaaGreatDoorUpto
import Derived.Test.YtlngicddojoogaaGreatDoorLaidUp
import Derived.Test.YtlngicddojoogaaGreatDoorTie
import Derived.Test.YtlngicddojoogaaGreatDoorCards
import Derived.SevenTiedAt
import Derived.SizedLaws
import Derived.ShutString
import Derived.ChangeOld
import Derived.Lib.SmallJoins
namespace Go.Proofs.YtlngicddojoogaaGreatDoor.streamFooters
open Go.ChangeShapes Go.WideShapes Go.ChangeAt Go.RowKit
open Go.ChangeMaps (open_string shut_string)
set_option linter.unusedVariables false

theorem walk (oa : Option Addr) (cap : Nat) (ls : List (List UInt8)) (w : World) (hr : RdAll w.heap.size w oa ls) (ht : total ls + ls.length ≤ 2097152) (he : errAs.ErrT w ∧ Env w) :
    Calls Tryz.prog 5 #[.slice oa ls.length cap] w fun e w' => e = .returned (.bool true) ∧ Below w.heap.size w w' :=
  footers_law w hr (by omega) (by omega) he.1 he.2

set_option maxRecDepth 100000 in
theorem lifted (os : Os) (started : os.Started) (H : Type) (enc : TypeId × Value → H) (F : Stop.Interp) :
    ReturnsInHanded {} Tryz.checked os 5 .any ((Rows.OpenSpec.upto Rows.streamFootersSpec).preRow enc Tryz.prog Tryz.f5 Rows.streamFootersUptoRow.domain false Rows.streamFootersUptoRow.laid) (((Rows.OpenSpec.upto Rows.streamFootersSpec).at F).post enc Tryz.prog Tryz.f5 false true false false) := by
  refine returnsInHanded_of_row (C := Tryz.checked) (s := Rows.OpenSpec.upto Rows.streamFootersSpec) own started (by kernel_rfl) Tryz.func5
    (witness_row_shaped (enc := enc) (C := Tryz.checked) (os := os) false (World.doorLaid Tryz.prog 400 os) #[.slice none 0 0] rfl (World.shaped_of_RefB (by kernel_rfl) (by kernel_rfl)) (by kernel_rfl)
      (OpenSpec.preRow_of_cond (x := ([.nil], [], [])) 8 (by kernel_rfl) (by kernel_rfl) (fun k hk => by cases hk; kernel_rfl) (by kernel_rfl) (door_met os _))) ?_
  intro W base args ds gs before hval0 hW _ hcond _ hL hsh _
  have hk : Rows.uptoSmall H (ds ++ gs) = true := hcond _ rfl
  have hE := env_of_laid hL
  have hval : ∀ (j : Nat) t v, Tryz.f5.params[j]? = some t → args[j]? = some v → Value.okWide Tryz.prog W .any base t v := hval0
  have hW' := hW
  obtain ⟨p, q, hA0, hV, rfl, hfz, hnd⟩ := hW
  have hA : DataW.TrodAll enc Tryz.prog W 0 (fun _ => true) true Tryz.f5.params.toList args.toList ds p := hA0
  rw [Tryz.params5] at hA hval
  obtain ⟨v0, vs0, d0, ds0, p0, q0, hargs, rfl, rfl, h0, r0⟩ := trodAll_cons hA
  obtain ⟨rfl, rfl, rfl⟩ := trodAll_nil r0
  obtain rfl : args = #[v0] := by cases args; simp_all
  obtain ⟨rfl, rfl⟩ := trodVars_none hV
  obtain ⟨a0, len0, cap0, rfl⟩ := okWide_slice Tryz.underlying42 (hval 0 42 v0 rfl rfl)
  have k0 := h0
  have lt0 : ∀ x ∈ p0, x.block < W.heap.size := by obtain ⟨m, hm⟩ := k0; exact DataW.trod_lt m _ _ _ hm
  obtain ⟨ls0, rfl, r0', t0⟩ : ∃ ls, ls.length = len0 ∧ RdAll W.heap.size W a0 ls ∧ total ls + ls.length ≤ 2097152 := by
    obtain ⟨fuel, hf⟩ := h0
    obtain ⟨ls, h1, h2, h3⟩ := rdall_open hf
    have hp := Nat.le_trans (bulk_part (d := d0) (by simp)) (bulk_bound hk)
    exact ⟨ls, h1, h2, by omega⟩
  clear hA0 hval0
  refine (walk a0 cap0 ls0 W r0' t0 hE).mono fun e W' ⟨he, bel⟩ => ?_
  subst he
  exact ⟨_, rfl, _, _, _, [], _, [], hW', trodAll_mk1 (shut_bool Tryz.underlying4 _), (trodAll_cons_mk (Below.trod laidOut (by kernel_rfl) (of_decide_eq_true (by kernel_rfl)) k0 bel lt0) trodAll_mk0), rfl, bel.frame _, fun h => by cases h⟩

theorem over : Rows.StreamFootersUptoSaid :=
  OpenClaim.holds_of_cond 5 Tryz.f5 rfl rfl rfl rfl rfl rfl rfl ⟨rfl, rfl, rfl, rfl, rfl⟩ rfl rfl rfl rfl rfl (by kernel_rfl) Tryz.func5 (by kernel_rfl)
    (of_decide_eq_true (by kernel_rfl)) (by unfold Func.isWrapper; first | (rw [if_pos (by decide +kernel)]; kernel_rfl) | (rw [if_neg (by decide +kernel)]; exact ⟨rfl, rfl⟩))
    (fun os started H enc _ F => by rw [OpenClaim.pre_eq_preRow]; exact lifted os started H enc F)

/-- THE STATEMENT: the tied card. -/
theorem proved : Rows.StreamFootersUptoCardSaid :=
  Claim7.holds_tied_plain_at .later [] Rows.streamFootersUptoCard.laidKinds true Rows.streamFootersUptoCard.stood.harness Rows.streamFootersUptoCard.stood.looks
    over (fun _ h => by cases h) (by kernel_rfl) (fun _ h => by cases h) streamFootersUpto_row_tie rfl ⟨rfl, rfl⟩ (by kernel_rfl) rfl
    (fun f fn hf hfn => by
      obtain rfl : f = 5 := Option.some.inj ((show Tryz.prog.funcNamed "vestry/vestrylaw25.StreamFooters" = some 5 by kernel_rfl).symm.trans hf) |>.symm
      obtain rfl : fn = Tryz.f5 := (Option.some.inj (Tryz.func5.symm.trans hfn)).symm
      exact ⟨by kernel_rfl, fun j t ht => by
        rw [Tryz.params5] at ht
        have hm : t ∈ [42] := by have := Array.mem_of_getElem? ht; simpa using this
        have hall : ([42].all fun u => !Tryz.prog.wantsStandIn u) = true := by kernel_rfl
        exact (show Tryz.prog.wantsStandIn t = false by simpa using List.all_eq_true.1 hall t hm)⟩)
    (by kernel_rfl)
end Go.Proofs.YtlngicddojoogaaGreatDoor.streamFooters
