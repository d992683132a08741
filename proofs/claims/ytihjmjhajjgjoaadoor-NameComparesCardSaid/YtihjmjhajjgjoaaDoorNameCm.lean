/-
  The statement NameComparesCardSaid.
-/
import Derived.Test.YtihjmjhajjgjoaaDoorNameU
import Derived.Test.YtihjmjhajjgjoaaDoorNameAwake
import Derived.Test.YtihjmjhajjgjoaaDoorNameLaid
import Derived.Test.YtihjmjhajjgjoaaDoorTie
import Derived.Test.YtihjmjhajjgjoaaDoorCards
import Derived.SevenTiedAt
import Derived.SizedLaws
import Derived.ShutString
import Derived.ChangeOld
import Derived.Lib.SmallJoins
namespace Go.Proofs.YtihjmjhajjgjoaaDoor.nameCompares
open Go.ChangeShapes Go.WideShapes Go.ChangeAt Go.RowKit
open Go.ChangeMaps (open_string shut_string)
set_option linter.unusedVariables false

/-- The three arguments as they lie in memory. -/
def Three (b : Nat) (t r u q v p : ByteArray) (w : World) : Prop := Pair w b 34 t r ∧ Pair w (b + 1) 34 u q ∧ Pair w (b + 1 + 1) 34 v p
theorem Three.below {b : Nat} {t r u q v p : ByteArray} {w w' : World} (h : Three b t r u q v p w) (hb : Below w.heap.size w w') : Three b t r u q v p w' := ⟨h.1.below hb, h.2.1.below hb, h.2.2.below hb⟩
theorem toList_inj {a b : ByteArray} (h : a.toList = b.toList) : a = b := by
  rw [toList_data, toList_data] at h; exact bytes_inj h
def lim47 : Nat := 2 ^ 47
def cat6 (t r u q v p : ByteArray) : ByteArray := t ++ r ++ u ++ q ++ v ++ p

set_option maxRecDepth 100000 in
set_option maxHeartbeats 2000000 in
theorem walk (t r u q v p : ByteArray) (w : World) (ht : t.size < lim47) (hr : r.size < lim47) (hu : u.size < lim47) (hq : q.size < lim47) (hv : v.size < lim47) (hp : p.size < lim47) (h : Env w) : Calls Tryd.prog 7 #[.agg #[.string t, .string r], .agg #[.string u, .string q], .agg #[.string v, .string p]] w fun e w' => e = .returned (.bool true) ∧ Below w.heap.size w w' := by
  have he := env_alloc (env_alloc (env_alloc h (.cells #[.string t, .string r] 34)) (.cells #[.string u, .string q] 34)) (.cells #[.string v, .string p] 34)
  have hb := below_alloc (below_alloc (below_alloc (Below.refl w.heap.size w) (.cells #[.string t, .string r] 34)) (.cells #[.string u, .string q] 34)) (.cells #[.string v, .string p] 34)
  have h3 : Three w.heap.size t r u q v p (((w.alloc (.cells #[.string t, .string r] 34)).alloc (.cells #[.string u, .string q] 34)).alloc (.cells #[.string v, .string p] 34)) := ⟨((Pair.new w 34 t r).alloc _).alloc _, (Pair.at (c := w.heap.size + 1) (Pair.new (w.alloc (.cells #[.string t, .string r] 34)) 34 u q) (by simp)).alloc _, Pair.at (c := w.heap.size + 1 + 1) (Pair.new ((w.alloc (.cells #[.string t, .string r] 34)).alloc (.cells #[.string u, .string q] 34)) 34 v p) (by simp)⟩
  obtain ⟨w0, hw0⟩ : ∃ w0, w0 = (((w.alloc (.cells #[.string t, .string r] 34)).alloc (.cells #[.string u, .string q] 34)).alloc (.cells #[.string v, .string p] 34)) := ⟨_, rfl⟩
  rw [← hw0] at he hb h3
  have HE := Lib.hid he
  have HB := Lib.hid hb
  have H3 := Lib.hid h3
  have HW := Lib.hid hw0
  clear he hb h3 hw0 h
  have k1 : ¬ 9223372036854775807 < t.size + r.size := by unfold lim47 at *; omega
  have k2 : ¬ 9223372036854775807 < t.size + r.size + u.size := by unfold lim47 at *; omega
  have k3 : ¬ 9223372036854775807 < t.size + r.size + u.size + q.size := by unfold lim47 at *; omega
  have k4 : ¬ 9223372036854775807 < t.size + r.size + u.size + q.size + v.size := by unfold lim47 at *; omega
  have k5 : ¬ 9223372036854775807 < t.size + r.size + u.size + q.size + v.size + p.size := by unfold lim47 at *; omega
  by_cases hbig : 1000 < t.size + r.size + u.size + q.size + v.size + p.size
  · have g : (1000 : Int) < (t.size : Int) + r.size + u.size + q.size + v.size + p.size := by omega
    go_enter Tryd.func7, Tryd.ntmps7
    go_wp2_with fail
    rw [← HW.out]
    refine (nawake_any _ HE.out).mono ?_
    rintro e w1 ⟨rfl, b1⟩
    have HE1 := Lib.hid (HE.out.below b1)
    have HB1 := Lib.hid (HB.out.trans (b1.mono HB.out.size))
    have h3 := H3.out.below b1
    have c1 := h3.1.c0
    have c2 := h3.1.c1
    have c3 := h3.2.1.c0
    have c4 := h3.2.1.c1
    have c5 := h3.2.2.c0
    have c6 := h3.2.2.c1
    clear h3 b1
    go_wp2_with fail
    refine (nawake_any _ HE1.out).mono ?_
    rintro e w2 ⟨rfl, b2⟩
    go_wp2_with fail
    go_ret
    exact ⟨rfl, HB1.out.trans (b2.mono HB1.out.size)⟩
  · have g : ¬ (1000 : Int) < (t.size : Int) + r.size + u.size + q.size + v.size + p.size := by omega
    have CAB := Lib.hid (compare_any t r u q)
    have CBA := Lib.hid (compare_any u q t r)
    have CBC := Lib.hid (compare_any u q v p)
    have CAC := Lib.hid (compare_any t r v p)
    have RAB := Lib.hid (rcompare_any t r u q (by omega) (by omega) (by omega) (by omega))
    have F3 := Lib.hid (ord2_three t r u q)
    have FF := Lib.hid (ord2_flip t r u q)
    have FZ := Lib.hid (ord2_zero t r u q)
    have FL := Lib.hid (ord2_le t r u q v p)
    obtain ⟨x, hx⟩ : ∃ x, ord2 t r u q = x := ⟨_, rfl⟩
    obtain ⟨y, hy⟩ : ∃ y, ord2 u q v p = y := ⟨_, rfl⟩
    obtain ⟨z, hz⟩ : ∃ z, ord2 t r v p = z := ⟨_, rfl⟩
    rw [hx] at F3 FF FZ FL CAB RAB
    rw [FF.out] at CBA
    rw [hy] at FL CBC
    rw [hz] at FL CAC
    clear hx hy hz FF
    go_enter Tryd.func7, Tryd.ntmps7
    go_wp2_with fail
    rw [← HW.out]
    refine (nawake_any _ HE.out).mono ?_
    rintro e w1 ⟨rfl, b1⟩
    have HB1 := Lib.hid (HB.out.trans (b1.mono HB.out.size))
    have H31 := Lib.hid (H3.out.below b1)
    have c1 := H31.out.1.c0
    have c2 := H31.out.1.c1
    have c3 := H31.out.2.1.c0
    have c4 := H31.out.2.1.c1
    have c5 := H31.out.2.2.c0
    have c6 := H31.out.2.2.c1
    clear b1 HE HB H3 HW
    go_wp2_with fail
    refine (CAB.out _).mono ?_
    rintro e w2 ⟨rfl, b2⟩
    have HB2 := Lib.hid (HB1.out.trans (b2.mono HB1.out.size))
    have H32 := Lib.hid (H31.out.below b2)
    clear b2 HB1 H31 c1 c2 c3 c4 c5 c6 k1 k2 k3 k4 k5
    have c1 := H32.out.1.c0
    have c2 := H32.out.1.c1
    have c3 := H32.out.2.1.c0
    have c4 := H32.out.2.1.c1
    go_wp2_with fail
    refine (RAB.out _).mono ?_
    rintro e w3 ⟨rfl, b3⟩
    have HB3 := Lib.hid (HB2.out.trans (b3.mono HB2.out.size))
    have H33 := Lib.hid (H32.out.below b3)
    clear b3 HB2 H32 c1 c2 c3 c4
    have c1 := H33.out.1.c0
    have c2 := H33.out.1.c1
    have c3 := H33.out.2.1.c0
    have c4 := H33.out.2.1.c1
    have t1 : (x == x) = true := by simp
    go_wp2_with fail
    refine (CBA.out _).mono ?_
    rintro e w4 ⟨rfl, b4⟩
    have HB4 := Lib.hid (HB3.out.trans (b4.mono HB3.out.size))
    have H34 := Lib.hid (H33.out.below b4)
    clear b4 HB3 H33 c1 c2 c3 c4
    have c1 := H34.out.1.c0
    have c2 := H34.out.1.c1
    have c3 := H34.out.2.1.c0
    have c4 := H34.out.2.1.c1
    have c5 := H34.out.2.2.c0
    have c6 := H34.out.2.2.c1
    rcases F3.out with hx | hx | hx
    · subst hx
      have key : t.toList = u.toList → ¬ r.toList = q.toList := fun h1 h2 => by
        have := FZ.out.2 ⟨toList_inj h1, toList_inj h2⟩
        omega
      clear F3 FZ
      by_cases e1 : t.toList = u.toList
      · have e2 := key e1
        clear key
        go_wp2_with fail
        refine (CBC.out _).mono ?_
        rintro e w5 ⟨rfl, b5⟩
        have HB5 := Lib.hid (HB4.out.trans (b5.mono HB4.out.size))
        have H35 := Lib.hid (H34.out.below b5)
        clear b5 HB4 H34 c1 c2 c3 c4 c5 c6
        have c1 := H35.out.1.c0
        have c2 := H35.out.1.c1
        have c5 := H35.out.2.2.c0
        have c6 := H35.out.2.2.c1
        by_cases hy : 0 < y
        · go_wp2_with fail
          go_ret
          exact ⟨rfl, HB5.out⟩
        · have hz : z ≤ 0 := FL.out (by omega) (by omega)
          have hy' : ¬ (0 : Int) < y := hy
          go_wp2_with fail
          refine (CAC.out _).mono ?_
          rintro e w6 ⟨rfl, b6⟩
          have HB6 := Lib.hid (HB5.out.trans (b6.mono HB5.out.size))
          clear b6 HB5 H35
          go_wp2_with fail
          go_ret
          exact ⟨rfl, HB6.out⟩
      · clear key
        go_wp2_with fail
        refine (CBC.out _).mono ?_
        rintro e w5 ⟨rfl, b5⟩
        have HB5 := Lib.hid (HB4.out.trans (b5.mono HB4.out.size))
        have H35 := Lib.hid (H34.out.below b5)
        clear b5 HB4 H34 c1 c2 c3 c4 c5 c6
        have c1 := H35.out.1.c0
        have c2 := H35.out.1.c1
        have c5 := H35.out.2.2.c0
        have c6 := H35.out.2.2.c1
        by_cases hy : 0 < y
        · go_wp2_with fail
          go_ret
          exact ⟨rfl, HB5.out⟩
        · have hz : z ≤ 0 := FL.out (by omega) (by omega)
          have hy' : ¬ (0 : Int) < y := hy
          go_wp2_with fail
          refine (CAC.out _).mono ?_
          rintro e w6 ⟨rfl, b6⟩
          have HB6 := Lib.hid (HB5.out.trans (b6.mono HB5.out.size))
          clear b6 HB5 H35
          go_wp2_with fail
          go_ret
          exact ⟨rfl, HB6.out⟩
    · subst hx
      obtain ⟨rfl, rfl⟩ := FZ.out.1 rfl
      clear F3 FZ
      go_wp2_with fail
      refine (CBC.out _).mono ?_
      rintro e w5 ⟨rfl, b5⟩
      have HB5 := Lib.hid (HB4.out.trans (b5.mono HB4.out.size))
      have H35 := Lib.hid (H34.out.below b5)
      clear b5 HB4 H34 c1 c2 c3 c4 c5 c6
      have c1 := H35.out.1.c0
      have c2 := H35.out.1.c1
      have c5 := H35.out.2.2.c0
      have c6 := H35.out.2.2.c1
      by_cases hy : 0 < y
      · go_wp2_with fail
        go_ret
        exact ⟨rfl, HB5.out⟩
      · have hz : z ≤ 0 := FL.out (by omega) (by omega)
        have hy' : ¬ (0 : Int) < y := hy
        go_wp2_with fail
        refine (CAC.out _).mono ?_
        rintro e w6 ⟨rfl, b6⟩
        have HB6 := Lib.hid (HB5.out.trans (b6.mono HB5.out.size))
        clear b6 HB5 H35
        go_wp2_with fail
        go_ret
        exact ⟨rfl, HB6.out⟩
    · subst hx
      have key : t.toList = u.toList → ¬ r.toList = q.toList := fun h1 h2 => by
        have := FZ.out.2 ⟨toList_inj h1, toList_inj h2⟩
        omega
      clear F3 FZ
      by_cases e1 : t.toList = u.toList
      · have e2 := key e1
        clear key
        go_wp2_with fail
        go_ret
        exact ⟨rfl, HB4.out⟩
      · clear key
        go_wp2_with fail
        go_ret
        exact ⟨rfl, HB4.out⟩

section
variable {H : Type} {enc : TypeId × Value → H}
theorem wrap_sized {a : Assume} {C : Checked} {os : Os} {f : FuncId} {fn : Func} {s : ChangeSpec} {conds : List PathCond} {apart fresh handsOn again : Bool} {X : World → Array Value → Prop}
    (hX : ∀ (w w' : World) (args : Array Value), w.heap = w'.heap → X w args → X w' args)
    (own : ownKnob C.prog.godebug = none) (started : os.Started) (noInit : C.prog.inits.idxOf? f = none) (hfn : C.prog.funcs[f]? = some fn)
    (witness : ∃ (w : World) (tape : Tape) (i : Input), w.os = os ∧ (w.forCall tape i).Shaped C.prog ∧ i.vars = [] ∧ Input.okWide C.prog (w.forCall tape i) .any w.heap.size f i ∧
      ((s.pre enc C.prog fn conds apart (w.forCall tape i).memory i.args ∧ X (w.forCall tape i).memory i.args) ∧ sizedMet enc C.prog fn (OpenSpec.ofChange s) apart (w.forCall tape i).memory i.args) ∧ a.holds C.prog (lone (Frame.enter C.prog f i.args .normal) [] (w.forCall tape i)))
    (contract : ∀ (W : World) (base : Nat) (args : Array Value) (ds gs : List (DataW H)) (before : List MemPlace),
      (∀ (j : Nat) t v, fn.params[j]? = some t → args[j]? = some v → Value.okWide C.prog W .any base t v) →
      DataW.Whole enc C.prog fn.params.toList s.vars apart W args.toList ds gs before →
      W.ShapedOpen C.prog → X W args →
      (DataW.weightsEach C.prog (fn.params.toList ++ (OpenSpec.ofChange s).bare.plain.varTypes C.prog) (ds ++ gs)).all (· ≤ reachBytes) = true →
      Calls C.prog f args W fun e W' => ∃ v, e = .returned v ∧ s.post enc C.prog fn apart fresh handsOn again W args v W') :
    ReturnsInHanded a C os f .any (fun w args => (s.pre enc C.prog fn conds apart w args ∧ X w args) ∧ sizedMet enc C.prog fn (OpenSpec.ofChange s) apart w args) (s.post enc C.prog fn apart fresh handsOn again) := by
  refine returnsInHanded_of_calls own started noInit witness ?_
  intro w tape i _ hsh _ hok hpre _
  obtain ⟨_, _, _, fn', hfn', _, _, _, _, hval⟩ := hok
  have e : fn' = fn := Option.some.inj (hfn'.symm.trans hfn)
  subst e
  obtain ⟨⟨⟨ds, gs, before, hw, _⟩, hx⟩, hz⟩ := hpre
  have hw' := DataW.Whole.of_heap (w' := w.forCall tape i) (by rfl) hw
  refine (contract (w.forCall tape i) w.heap.size i.args ds gs before hval hw' hsh (hX _ _ _ (by rfl) hx) (hz.weights hw)).mono fun e W' ⟨v, he, hp⟩ => ?_
  subst he
  exact ChangeSpec.post_blind hp
end
theorem pair_sized {H : Type} {ts : List TypeId} {ds : List (DataW H)} (h : (DataW.weightsEach Tryd.prog ts ds).all (· ≤ reachBytes) = true) {j : Nat} {t : TypeId} (hj : ts[j]? = some t) {a b : ByteArray}
    (hd : ds[j]? = some (.agg [.lit (.string a.data.toList), .lit (.string b.data.toList)])) (ht : t = 34 := by rfl) : a.size < lim47 ∧ b.size < lim47 := by
  subst ht
  have la : a.data.toList.length = a.size := by rw [Array.length_toList]; rfl
  have lb : b.data.toList.length = b.size := by rw [Array.length_toList]; rfl
  have h1 := fun n hn => List.all_eq_true.1 h n (DataW.weights_mem_each hj hd n hn)
  have e : DataW.weights Tryd.prog 34 (.agg [.lit (.string a.data.toList), .lit (.string b.data.toList)] : DataW H) = [a.data.toList.length, b.data.toList.length] := by
    unfold DataW.weights
    rw [Tryd.underlying34]
    rfl
  rw [e] at h1
  have h2 := h1 a.data.toList.length (by simp)
  have h3 := h1 b.data.toList.length (by simp)
  rw [decide_eq_true_eq] at h2 h3
  have := reachBytes_lt
  unfold lim47
  omega

set_option maxRecDepth 100000 in
theorem lifted (os : Os) (started : os.Started) (H : Type) (enc : TypeId × Value → H) :
    ReturnsInHanded {} Tryd.checked os 7 .any (fun w args => (Rows.nameComparesSpec.pre enc Tryd.prog Tryd.f7 Rows.nameComparesRow.domain false w args ∧ laidMetH Tryd.prog laidL w) ∧ sizedMet enc Tryd.prog Tryd.f7 (OpenSpec.ofChange Rows.nameComparesSpec) false w args)
      (Rows.nameComparesSpec.post enc Tryd.prog Tryd.f7 false true false false) := by
  refine wrap_sized (C := Tryd.checked) (X := fun w _ => laidMetH Tryd.prog laidL w) (fun _ _ _ hh h => h.of_heap hh) own started (by kernel_rfl) Tryd.func7
    (ChangeSpec.witness_shaped (enc := enc) (C := Tryd.checked) (os := os) (X := fun w _ => laidMetH Tryd.prog laidL w) false (World.doorLaid Tryd.prog 400 os) #[.agg #[.string ByteArray.empty, .string ByteArray.empty], .agg #[.string ByteArray.empty, .string ByteArray.empty], .agg #[.string ByteArray.empty, .string ByteArray.empty]] 8 rfl (World.shaped_of_RefB (by kernel_rfl) (by kernel_rfl)) (by kernel_rfl) (by kernel_rfl) (by kernel_rfl) (door_met os _)) ?_
  intro W base args ds gs before hval0 hW hsh hL hsz
  have hE := env_of_laid hL hsh
  have hval : ∀ (j : Nat) t v, Tryd.f7.params[j]? = some t → args[j]? = some v → Value.okWide Tryd.prog W .any base t v := hval0
  have hW' := hW
  obtain ⟨p, q, hA0, hV, rfl, hfz, hnd⟩ := hW
  have hA : DataW.TrodAll enc Tryd.prog W 0 (fun _ => true) true Tryd.f7.params.toList args.toList ds p := hA0
  rw [Tryd.params7] at hA hval
  rw [Tryd.params7] at hsz
  obtain ⟨v0, vs0, d0, ds0, p0, q0, hargs, rfl, rfl, h0, r0⟩ := trodAll_cons hA
  obtain ⟨v1, vs1, d1, ds1, p1, q1, rfl, rfl, rfl, h1, r1⟩ := trodAll_cons r0
  obtain ⟨v2, vs2, d2, ds2, p2, q2, rfl, rfl, rfl, h2, r2⟩ := trodAll_cons r1
  obtain ⟨rfl, rfl, rfl⟩ := trodAll_nil r2
  obtain rfl : args = #[v0, v1, v2] := by cases args; simp_all
  obtain ⟨rfl, rfl⟩ := trodVars_none hV
  obtain ⟨u0, x0, yu0, yx0, m0, rfl, rfl, rfl, hu0, hx0⟩ := Joins.open_agg2 Tryd.underlying34 (by kernel_rfl) (by kernel_rfl) (hval 0 34 v0 rfl rfl) h0
  obtain ⟨a0, ea0, rfl, wa0⟩ := DataW.trod_string Tryd.underlying9 hu0
  obtain ⟨b0, eb0, rfl, wb0⟩ := DataW.trod_string Tryd.underlying9 hx0
  obtain rfl : u0 = .string a0 := by simpa using ea0
  obtain rfl : x0 = .string b0 := by simpa using eb0
  obtain ⟨u1, x1, yu1, yx1, m1, rfl, rfl, rfl, hu1, hx1⟩ := Joins.open_agg2 Tryd.underlying34 (by kernel_rfl) (by kernel_rfl) (hval 1 34 v1 rfl rfl) h1
  obtain ⟨a1, ea1, rfl, wa1⟩ := DataW.trod_string Tryd.underlying9 hu1
  obtain ⟨b1, eb1, rfl, wb1⟩ := DataW.trod_string Tryd.underlying9 hx1
  obtain rfl : u1 = .string a1 := by simpa using ea1
  obtain rfl : x1 = .string b1 := by simpa using eb1
  obtain ⟨u2, x2, yu2, yx2, m2, rfl, rfl, rfl, hu2, hx2⟩ := Joins.open_agg2 Tryd.underlying34 (by kernel_rfl) (by kernel_rfl) (hval 2 34 v2 rfl rfl) h2
  obtain ⟨a2, ea2, rfl, wa2⟩ := DataW.trod_string Tryd.underlying9 hu2
  obtain ⟨b2, eb2, rfl, wb2⟩ := DataW.trod_string Tryd.underlying9 hx2
  obtain rfl : u2 = .string a2 := by simpa using ea2
  obtain rfl : x2 = .string b2 := by simpa using eb2
  have S0 := pair_sized hsz (j := 0) (t := 34) rfl rfl
  have S1 := pair_sized hsz (j := 1) (t := 34) rfl rfl
  have S2 := pair_sized hsz (j := 2) (t := 34) rfl rfl
  clear hA0 hval0 hsz
  refine (walk a0 b0 a1 b1 a2 b2 W S0.1 S0.2 S1.1 S1.2 S2.1 S2.2 hE).mono fun e W' ⟨he, bel⟩ => ?_
  subst he
  exact ⟨_, rfl, _, _, _, [], _, [], hW', trodAll_mk1 (shut_bool Tryd.underlying4 _), (trodAll_cons_mk (Joins.shut_agg2 (y0 := (.lit (.string a0.data.toList), [])) (y1 := (.lit (.string b0.data.toList), [])) Tryd.underlying34 (by kernel_rfl) (by kernel_rfl) (trod_str wa0) (trod_str wb0)) (trodAll_cons_mk (Joins.shut_agg2 (y0 := (.lit (.string a1.data.toList), [])) (y1 := (.lit (.string b1.data.toList), [])) Tryd.underlying34 (by kernel_rfl) (by kernel_rfl) (trod_str wa1) (trod_str wb1)) (trodAll_cons_mk (Joins.shut_agg2 (y0 := (.lit (.string a2.data.toList), [])) (y1 := (.lit (.string b2.data.toList), [])) Tryd.underlying34 (by kernel_rfl) (by kernel_rfl) (trod_str wa2) (trod_str wb2)) trodAll_mk0))), rfl, bel.frame _, fun h => by cases h⟩

theorem over : Rows.NameComparesSaid :=
  OpenClaim.holds_of_wide 7 Tryd.f7 rfl rfl rfl rfl rfl rfl rfl ⟨rfl, rfl, rfl, rfl, rfl⟩ rfl rfl rfl rfl rfl (by kernel_rfl) Tryd.func7 (by kernel_rfl)
    (of_decide_eq_true (by kernel_rfl)) (by unfold Func.isWrapper; first | (rw [if_pos (by decide +kernel)]; kernel_rfl) | (rw [if_neg (by decide +kernel)]; exact ⟨rfl, rfl⟩))
    (fun os started H enc _ => lifted os started H enc)

/-- THE STATEMENT: the tied card. -/
theorem proved : Rows.NameComparesCardSaid :=
  Claim7.holds_tied_plain_at .later [] Rows.nameComparesCard.laidKinds true Rows.nameComparesCard.stood.harness Rows.nameComparesCard.stood.looks
    over (fun _ h => by cases h) (by kernel_rfl) (fun _ h => by cases h) nameCompares_row_tie rfl ⟨rfl, rfl⟩ (by kernel_rfl) rfl
    (fun f fn hf hfn => by
      obtain rfl : f = 7 := Option.some.inj ((show Tryd.prog.funcNamed "vestry/vestrylaw08.NameCompares" = some 7 by kernel_rfl).symm.trans hf) |>.symm
      obtain rfl : fn = Tryd.f7 := (Option.some.inj (Tryd.func7.symm.trans hfn)).symm
      exact ⟨by kernel_rfl, fun j t ht => by
        rw [Tryd.params7] at ht
        have hm : t ∈ [34] := by have := Array.mem_of_getElem? ht; simpa using this
        have hall : ([34].all fun u => !Tryd.prog.wantsStandIn u) = true := by kernel_rfl
        exact (show Tryd.prog.wantsStandIn t = false by simpa using List.all_eq_true.1 hall t hm)⟩)
    (by kernel_rfl)
end Go.Proofs.YtihjmjhajjgjoaaDoor.nameCompares
