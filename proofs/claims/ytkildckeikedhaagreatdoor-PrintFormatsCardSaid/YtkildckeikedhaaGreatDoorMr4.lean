/-
  parse's types.
-/
import Derived.Test.YtkildckeikedhaaGreatDoorMr3
import Derived.Maps.RangeWalk
import Derived.Maps.OwnOps
import Derived.Test.YtkildckeikedhaaGreatDoorMr1
import Derived.Laws.OwnMore
import Derived.Deep.RegionLaw
import Derived.Lib.Hide
namespace Go.Proofs.YtkildckeikedhaaGreatDoor
open Go.ChangeShapes Go.WideShapes Go.ChangeAt Go.RowKit
set_option linter.unusedVariables false

def alv (a : AlB) : List Value := [.string (bstr a.1), .string (bstr a.2)]
def als (l : List AlB) : List Value := l.flatMap alv
theorem als_snoc (l : List AlB) (a : AlB) : als (l ++ [a]) = als l ++ alv a := by unfold als; rw [List.flatMap_append]; simp
theorem als_length (l : List AlB) : (als l).length = l.length * 2 := by
 induction l with
 | nil => rfl
 | cons t r ih => unfold als at ih ⊢; rw [List.flatMap_cons, List.length_append, ih]; simp [alv]; omega
def AlRow (base : Nat) (w : World) (v : Value) (l : List AlB) : Prop := w.ownsRow base 42 2 v l.length (als l)
theorem AlRow.form {base : Nat} {w : World} {v : Value} {l : List AlB} (h : AlRow base w v l) : ∃ q c, v = .slice q l.length c := by
 rcases h.2 with ⟨rfl, hn⟩ | ⟨g, cap, cur, rfl, _⟩
 ·exact ⟨none, 0, by rw [hn]⟩
 ·exact ⟨_, _, rfl⟩
theorem AlRow.kp {base pb : Nat} {w w' : World} {v : Value} {l : List AlB} (h : AlRow base w v l) (hk : Kp pb w w') (hb : pb < base) : AlRow base w' v l := by
 refine ⟨h.1, ?_⟩
 rcases h.2 with h | ⟨g, cap, cur, rfl, h0, h1, r⟩
 ·exact .inl h
 ·exact .inr ⟨g, cap, cur, rfl, h0, (hk.2.2.2.2 g (Array.getElem?_eq_some_iff.1 h1).1 (by omega)).trans h1, r⟩
theorem Kp.grown {pb : Nat} {W w w' : World} {row : Option Nat} (h : Kp pb W w) (hg : w.grownBy w' row) (hr : ∀ k, row = some k → W.heap.size ≤ k) : Kp pb W w' :=
 ⟨hg.os.trans h.1, hg.tape.trans h.2.1, hg.output.trans h.2.2.1, Nat.le_trans h.2.2.2.1 hg.size, fun k hk hn => (hg.block k (Nat.lt_of_lt_of_le hk h.2.2.2.1) (fun e => by have := hr k e.symm; omega)).trans (h.2.2.2.2 k hk hn)⟩
theorem Tryz.infoAl : (Tryz.prog.info? 42).map (fun i => (i.zero, i.size, i.bytes)) = some (some (.agg #[.string ByteArray.empty, .string ByteArray.empty]), 2, 32) := by kernel_rfl
theorem app_al {ops : Array Oper} {rest : List Oper} {o : Oper} {a : Act} {Q : Exit → Act → World → Prop} {w : World} (hgd : o.guard = none) (s x : Operand) (ho : o.op = .call { callee := .builtin .append, args := #[s, x], argTypes := #[43, 43] })
  {base n : Nat} {v : Value} {l : List AlB} {e : AlB} (hs : a.eval s = v) (hown : AlRow base w v l) (hx : a.eval x = .slice (some ⟨n, 0, none⟩) 1 1) (hc : Arr w 42 n [.string (bstr e.1), .string (bstr e.2)])
  (hlen : l.length + 1 ≤ 1000000) (hbase : base ≤ w.heap.size)
  (h : ∀ v' w', AlRow base w' v' (l ++ [e]) → w.grownBy w' v.ownBlock → (∀ k, v.ownBlock = some k → base ≤ k) → wpList Tryz.prog ops Q rest (a.put o.dst v') w') : wpList Tryz.prog ops Q (o :: rest) a w := by
 obtain ⟨i0, hi, hz0, hz1, hz2⟩ := info_parts Tryz.infoAl
 refine wpList_append_own_at w hgd s x 43 ho base 42 i0 _ 2 32 Tryz.underlying43 hi hz0 hz1 hz2 rfl (by decide) v l.length (als l) hs hown ⟨n, 0, none⟩ 1 1 (alv e) hx rfl ?_ ?_ (by unfold maxLen; omega) (by omega) hbase ?_
 ·intro j u hu
  have := hc.cell j
  rw [show ([.string (bstr e.1), .string (bstr e.2)] : List Value) = alv e from rfl, hu] at this
  cases j <;> simpa [Addr.add] using this
 ·intro u hu
  simp only [alv, List.mem_cons, List.not_mem_nil, or_false] at hu
  rcases hu with rfl | rfl <;> rfl
 ·intro v' w' r1 r2 _ _
  refine h v' w' ?_ r2 fun k hk => (hown.lt k hk).1
  unfold AlRow
  rw [als_snoc, List.length_append]
  exact r1
def tlF (ts : List Tok) (n : Nat) (acc : List AlB) (s : PS) : PR (List AlB) := if txt ts s.i = [124] then typesF ts n acc s.up else .ok acc s
theorem typesF_step (ts : List Tok) (n : Nat) (acc : List AlB) (s : PS) (h : acc.length ≠ 32) : typesF ts (n + 1) acc s = (allowedF ts s).then fun a s1 => tlF ts n (acc ++ [a]) s1 := by
 rw [typesF, if_neg h]; rfl
section
variable {W : World} {pb tb c : Nat} {ts : List Tok} {s : PS}
set_option maxRecDepth 100000 in
set_option maxHeartbeats 2000000 in
theorem types_any (ho : OkTs ts) (h : PP W pb tb c ts s) (hi : s.i < ts.length) : Calls Tryz.prog 102 #[.pointer (some ⟨pb, 0, none⟩)] W (QR pb tb c ts W (typesR ts s) fun l w' v => AlRow W.heap.size w' v l) := by
 have HN := hiD (allowed_any ho h hi)
 have HLT : Hid (pb < W.heap.size) := h.1.lt
 have HO := hiD ho
 have HH := hiD hi
 clear h hi ho
 go_enter Tryz.func102, Tryz.ntmps102
 go_wp2_with fail
 refine HN.out.mono ?_
 rintro r w1 (⟨⟨x1, x2⟩, s1, v, e1, rfl, rfl, p1, k1⟩ | ⟨k, i, e1, rfl, k1⟩)
 ·have HS1 : Hid (s1.i < ts.length) := (keeps_allowed HO.out s (x1, x2) s1 HH.out e1).1
  have HE1 : Hid (typesR ts s = tlF ts 32 [(x1, x2)] s1) := by
   show _ = _
   unfold typesR
   rw [typesF_step ts 32 [] s (by simp), e1]; rfl
  obtain ⟨a1, ha1⟩ : ∃ x, x = bstr x1 := ⟨_, rfl⟩
  obtain ⟨a2, ha2⟩ : ∃ x, x = bstr x2 := ⟨_, rfl⟩
  have hb2 : Below w1.heap.size w1 (w1.alloc (.cells #[.string a1, .string a2] 42)) := (Below.refl _ _).alloc (Nat.le_refl _) _
  have HP2 := hiD (p1.later hb2)
  have HK2 := hiD (k1.trans (Kp.of (pb := pb) hb2))
  have HR2 : Hid (AlRow W.heap.size (w1.alloc (.cells #[.string a1, .string a2] 42)) (.slice (some ⟨w1.heap.size, 0, none⟩) 1 1) [(x1, x2)]) := by
   have := World.ownsRow_lit (base := W.heap.size) (e := 42) (size := 2) w1 #[.string a1, .string a2] 1 k1.2.2.2.1 (by decide) rfl
   rw [ha1, ha2] at this ⊢
   exact this
  rw [← ha1, ← ha2]
  clear e1 p1 k1 hb2 HN ha1 ha2
  go_wp2_with fail
  go_loopw [3] (fun lv wr => ∃ (n : Nat) (acc : List AlB) (s2 : PS), acc.length + n = 33 ∧ 1 ≤ acc.length ∧ acc.length ≤ 32 ∧ Hid (AlRow W.heap.size wr lv acc) ∧ Hid (PP wr pb tb c ts s2) ∧ Hid (s2.i < ts.length) ∧ Hid (Kp pb W wr) ∧ Hid (typesR ts s = tlF ts n acc s2)) (fun lv _ => 33 - (match lv with | .slice _ n _ => n | _ => 0))
  case atStart => exact ⟨32, [(x1, x2)], s1, rfl, by simp, by simp, HR2.out, HP2.out, HS1.out, HK2.out, HE1.out⟩
  case round =>
   obtain ⟨n, acc, s2, hn, h1, h32, HR, HP, HS, HK, HE⟩ := hrel
   obtain ⟨q, cc, rfl⟩ := HR.out.form
   have HSK := hiD (skip_any HP.out HS.out ⟨#[124]⟩ [124] rfl)
   go_wp2_with fail
   refine HSK.out.mono ?_
   rintro r w3 ⟨d, hd, rfl, p3, k3⟩
   have HR3 := hiD (HR.out.kp k3 HLT.out)
   have HK3 := hiD (HK.out.trans k3)
   cases d with
   | true =>
    have ht := of_decide_eq_true hd.symm
    have HS3 : Hid (s2.up.i < ts.length) := HO.out.step (by rw [ht]; simp)
    have HP3 : Hid (PP w3 pb tb c ts s2.up) := p3
    have HE3 : Hid (typesR ts s = typesF ts n acc s2.up) := by
     show _ = _
     rw [HE.out]; exact if_pos ht
    clear hd p3 k3 HSK ht
    by_cases hl : acc.length < 32
    ·have hl1 : (acc.length : Int) < 32 := by omega
     obtain ⟨n, rfl⟩ : ∃ m, n = m + 1 := ⟨n - 1, by omega⟩
     have HAL := hiD (allowed_any HO.out HP3.out HS3.out)
     go_wp2_with fail
     refine (need_t 15).mono ?_
     rintro r w4 ⟨rfl, rfl⟩
     go_wp2_with fail
     refine HAL.out.mono ?_
     rintro r w5 (⟨⟨y1, y2⟩, s3, v, e3, rfl, rfl, p5, k5⟩ | ⟨k, i, e3, rfl, k5⟩)
     ·have HS5 : Hid (s3.i < ts.length) := (keeps_allowed HO.out _ (y1, y2) s3 HS3.out e3).1
      have HE5 : Hid (typesR ts s = tlF ts n (acc ++ [(y1, y2)]) s3) := by
       show _ = _
       rw [HE3.out, typesF_step ts n acc s2.up (by omega), e3]; rfl
      have hb6 : Below w5.heap.size w5 (w5.alloc (.cells #[.string (bstr y1), .string (bstr y2)] 42)) := (Below.refl _ _).alloc (Nat.le_refl _) _
      have HP6 := hiD (p5.later hb6)
      have HK6 := hiD ((HK3.out.trans k5).trans (Kp.of (pb := pb) hb6))
      have HR6 := hiD ((HR3.out.kp k5 HLT.out).kp (Kp.of (pb := pb) hb6) HLT.out)
      have HA6 : Hid (Arr (w5.alloc (.cells #[.string (bstr y1), .string (bstr y2)] 42)) 42 w5.heap.size [.string (bstr (y1, y2).1), .string (bstr (y1, y2).2)]) := Arr.new' _ _ _ _ rfl
      have HL6 : Hid (acc.length + 1 ≤ 1000000) := by show _ ≤ _; omega
      clear e3 p5 k5 hb6 HAL
      go_wp2_with (at_builtin; refine app_al (e := (y1, y2)) rfl _ _ rfl rfl HR6.out rfl HA6.out HL6.out HK6.out.2.2.2.1 ?_)
      intro v7 w7 r7 g7 o7
      have HK7 := hiD (HK6.out.grown g7 o7)
      have HP7 : Hid (PP w7 pb tb c ts s3) := HP6.out.below (B := W.heap.size) ((Below.refl _ _).grown g7 HK6.out.2.2.2.1 o7) HLT.out
      have HR7 := hiD r7
      obtain ⟨q7, c7, rfl⟩ := r7.form
      clear r7 g7 o7
      go_wp2_with fail
      go_roundw
      case rel => exact ⟨n, acc ++ [(y1, y2)], s3, by rw [List.length_append]; simp; omega, by rw [List.length_append]; simp, by rw [List.length_append]; simp; omega, HR7.out, HP7.out, HS5.out, HK7.out, HE5.out⟩
      case measure => simp; omega
     ·have HK5 := hiD (HK3.out.trans k5)
      have HE5 : Hid (typesR ts s = .bad k i) := by
       show _ = _
       rw [HE3.out, typesF_step ts n acc s2.up (by omega), e3]; rfl
      clear e3 k5 HAL
      go_wp2_with fail
      exact ⟨rfl, .inr ⟨k, i, HE5.out, rfl, HK5.out⟩⟩
    ·have hl1 : ¬ (acc.length : Int) < 32 := by omega
     have HE5 : Hid (typesR ts s = .bad 15 s2.up.i) := by
      show _ = _
      obtain ⟨m, rfl⟩ : ∃ m, n = m + 1 := ⟨n - 1, by omega⟩
      rw [HE3.out, typesF, if_pos (by omega)]
     go_wp2_with fail
     rw [show decide ((acc.length : Int) < 32) = false from decide_eq_false (by omega)]
     refine (need_f HP3.out HS3.out 15).mono ?_
     rintro r w4 ⟨rfl, b4⟩
     have HK5 := hiD (HK3.out.trans (Kp.of (pb := pb) b4))
     clear b4
     go_wp2_with fail
     exact ⟨rfl, .inr ⟨15, s2.up.i, HE5.out, rfl, HK5.out⟩⟩
   | false =>
    have HE3 : Hid (typesR ts s = .ok acc s2) := by
     show _ = _
     rw [HE.out]; exact if_neg (of_decide_eq_false hd.symm)
    have HP3 : Hid (PP w3 pb tb c ts s2) := p3
    clear hd p3 k3 HSK
    go_wp2_with fail
    go_ret
    exact .inl ⟨acc, s2, _, HE3.out, rfl, HR3.out, HP3.out, HK3.out⟩
 ·have HE2 : Hid (typesR ts s = .bad k i) := by
   show _ = _
   unfold typesR
   rw [typesF_step ts 32 [] s (by simp), e1]; rfl
  have HK1 := hiD k1
  clear e1 k1 HN
  go_wp2_with fail
  exact ⟨rfl, .inr ⟨k, i, HE2.out, rfl, HK1.out⟩⟩
end
end Go.Proofs.YtkildckeikedhaaGreatDoor
namespace Go.Proofs.YtkildckeikedhaaGreatDoor
open Go.ChangeShapes Go.WideShapes Go.ChangeAt Go.RowKit
open Go.Maps
set_option linter.unusedVariables false

theorem Tryz.lawS : Go.Maps.Keyed Tryz.prog 9 := Go.Maps.string_keyed Tryz.underlying9
theorem keyS_inv {key : Value} {kl : Lit} (h : keyOf Tryz.prog 9 key = some kl) : ∃ x : ByteArray, key = .string x ∧ kl = .string x.data.toList := by
  cases key <;> simp [keyOf, Tryz.underlying9, mapKey] at h
  exact ⟨_, rfl, h.2.symm⟩
theorem keyS_of (l : List UInt8) (h : l.length ≤ 1000) : keyOf Tryz.prog 9 (.string (bstr l)) = some (.string l) := by
  have := Go.WideMaps.keyOf_string_mk Tryz.underlying9 (s := bstr l) (by rw [bstr_size]; unfold maxLen; omega)
  rw [bstr_data] at this
  exact this
theorem wpList_insert_own {H : Type} {P : Program} (w : World) {ops : Array Oper} {rest : List Oper} {o : Oper} {a : Act} {Q : Exit → Act → World → Prop}
    (hg : o.guard = none) (m x v : Operand) (t : TypeId) (hop : o.op = Op.insert t m x v)
    (k e : TypeId) (K : Keyed P k) (ht : P.underlying t = some (.map k e)) (R : Value → Option (DataW H × List MemPlace)) (b n : Nat) (D : DataW H)
    (hm : a.eval m = .map (some b)) (hown : w.ownsMap P k R b n D) (hn : n < maxLen) (key val : Value) (kl : Lit) (hx : a.eval x = key) (hv : a.eval v = val) (hkey : keyOf P k key = some kl)
    (d : DataW H) (ps : List MemPlace) (hval : R val = some (d, ps))
    (hK : ∀ w', w'.ownsMap P k R b (n + 1) (D.put kl d) → w.grownBy w' (some b) → wpList P ops Q rest (a.put o.dst undef) w') :
    wpList P ops Q (o :: rest) a w := by
  refine wpList_plain hg fun K' hK' => ?_
  obtain ⟨w', hrun, r1, r2⟩ := hown.update K ht hn hkey hval
  unfold Oper.wp
  simp [execOp, hop, hm, hx, hv, hrun, Result.andThen]
  exact hK' _ _ (hK w' r1 r2)
def li (n : Int) : DataW Unit := .lit (.int .i64 n)
def opD : DataW Unit := (((DataW.map []).put (.string [43]) (li 3)).put (.string [38]) (li 4)).put (.string [45]) (li 5)
theorem opD_eq : opD = .map [(.string [38], li 4), (.string [43], li 3), (.string [45], li 5)] := rfl
theorem same_eq {a b : Lit} (h : a.sameKey b = true) : a = b := by
  refine Classical.byContradiction fun hn => ?_
  rw [sameKey_ne hn] at h
  cases h
theorem opD_has {kl : Lit} (h : Go.Maps.has opD kl = true) : kl = .string [38] ∨ kl = .string [43] ∨ kl = .string [45] := by
  rw [opD_eq, has_eq] at h
  simp only [List.any_cons, List.any_nil, Bool.or_false, Bool.or_eq_true] at h
  rcases h with h | h | h
  · exact .inl (same_eq h).symm
  · exact .inr (.inl (same_eq h).symm)
  · exact .inr (.inr (same_eq h).symm)
def opS (t : List UInt8) : List UInt8 := if opK t = 0 then [] else t
theorem opD_at {kl : Lit} (h : Go.Maps.has opD kl = true) : ∃ t n, kl = .string t ∧ opK t = n ∧ n ≠ 0 ∧ ∀ z, opD.atKey kl z = li n := by
  rcases opD_has h with rfl | rfl | rfl
  · exact ⟨[38], 4, rfl, rfl, by decide, fun z => rfl⟩
  · exact ⟨[43], 3, rfl, rfl, by decide, fun z => rfl⟩
  · exact ⟨[45], 5, rfl, rfl, by decide, fun z => rfl⟩
theorem opD_none {t : List UInt8} (h : ∀ kl, Go.Maps.has opD kl = true → kl ≠ .string t) : opK t = 0 := by
  unfold opK
  split
  · rename_i e; exact absurd rfl (e ▸ h (.string [43]) rfl)
  · split
    · rename_i e; exact absurd rfl (e ▸ h (.string [38]) rfl)
    · split
      · rename_i e; exact absurd rfl (e ▸ h (.string [45]) rfl)
      · rfl
theorem grown_of {w w' : World} (h : Below w.heap.size w w') : w.grownBy w' none := ⟨h.os, h.tape, h.output, h.size, fun i hi _ => h.block i hi⟩
section
variable {W : World} {pb tb c : Nat} {ts : List Tok} {s : PS}
set_option maxRecDepth 100000 in
set_option maxHeartbeats 2000000 in
theorem operator_any (h : PP W pb tb c ts s) (hi : s.i < ts.length) : Calls Tryz.prog 130 #[.pointer (some ⟨pb, 0, none⟩)] W fun e w' => e = .returned (.tuple #[.int .i64 (opK (txt ts s.i)), .string (bstr (opS (txt ts s.i)))]) ∧ Below W.heap.size W w' := by
  have HP := hiD h
  have HH := hiD hi
  have hmm := @run_makeMap Tryz.prog
  have HLT : Hid (pb < W.heap.size) := h.1.lt
  have HM0 : Hid ((W.alloc (.map #[] 0)).ownsMap Tryz.prog 9 (plainElem (H := Unit) Tryz.prog 3) W.heap.size 0 (.map [])) := World.ownsMap_made _ _ _ _
  have HB0 : Hid (Below W.heap.size W (W.alloc (.map #[] 0))) := (Below.refl _ _).alloc (Nat.le_refl _) _
  have hk43 := keyS_of [43] (by decide)
  have hk38 := keyS_of [38] (by decide)
  have hk45 := keyS_of [45] (by decide)
  have HK43 := hiD hk43
  have HK38 := hiD hk38
  have HK45 := hiD hk45
  clear hk43 hk38 hk45
  clear h hi
  go_enter Tryz.func130, Tryz.ntmps130
  go_upto_region 1 with (fail)
  go_wp2_with (first
    | (refine wpList_insert_own _ rfl _ _ _ 187 rfl 9 3 Tryz.lawS Tryz.underlying187 _ W.heap.size 0 _ rfl HM0.out (by decide) (.string ⟨#[43]⟩) (.int .i64 3) _ rfl rfl HK43.out (li 3) [] (plainElem_int Tryz.underlying3 (by decide)) ?_; intro w1 hm1 g1)
    | (refine wpList_insert_own _ rfl _ _ _ 187 rfl 9 3 Tryz.lawS Tryz.underlying187 _ W.heap.size 1 _ rfl hm1 (by decide) (.string ⟨#[38]⟩) (.int .i64 4) _ rfl rfl HK38.out (li 4) [] (plainElem_int Tryz.underlying3 (by decide)) ?_; intro w2 hm2 g2)
    | (refine wpList_insert_own _ rfl _ _ _ 187 rfl 9 3 Tryz.lawS Tryz.underlying187 _ W.heap.size 2 _ rfl hm2 (by decide) (.string ⟨#[45]⟩) (.int .i64 5) _ rfl rfl HK45.out (li 5) [] (plainElem_int Tryz.underlying3 (by decide)) ?_; intro w3 hm3 g3)
    | (at_range; refine wpList_range_own _ rfl _ 187 rfl 9 3 Tryz.lawS Tryz.underlying187 _ W.heap.size 3 opD rfl hm3 ?_; intro w4 hr4 g4 hs4))
  go_frame
  have HB4 : Hid (Below W.heap.size W w4) := by
    have b1 := HB0.out.grown g1 HB0.out.size (fun k hk => by cases hk; exact Nat.le_refl _)
    have b2 := b1.grown g2 b1.size (fun k hk => by cases hk; exact Nat.le_refl _)
    have b3 := b2.grown g3 b2.size (fun k hk => by cases hk; exact Nat.le_refl _)
    exact b3.grown g4 b3.size (fun k hk => by cases hk)
  have hsz : W.heap.size ≤ w3.heap.size := by
    have b1 := HB0.out.grown g1 HB0.out.size (fun k hk => by cases hk; exact Nat.le_refl _)
    have b2 := b1.grown g2 b1.size (fun k hk => by cases hk; exact Nat.le_refl _)
    have b3 := b2.grown g3 b2.size (fun k hk => by cases hk; exact Nat.le_refl _)
    exact b3.size
  have HSZ := hiD hsz
  have HR4 := hiD hr4
  clear hm1 hm2 hm3 g1 g2 g3 g4 hs4 hr4 hsz HM0 HB0
  go_loopw [5] (fun _ wr => ∃ (left : Lit → Bool) (cnt : Nat), Hid (wr.ranges Tryz.prog 9 (plainElem (H := Unit) Tryz.prog 3) W.heap.size w3.heap.size 3 opD left cnt) ∧ Hid (Below W.heap.size W wr) ∧ Hid ((∀ kl, left kl = true → Go.Maps.has opD kl = true) ∧ (∀ kl, Go.Maps.has opD kl = true → left kl = false → kl ≠ .string (txt ts s.i)))) (fun _ wr => wr.rangeLeft W.heap.size w3.heap.size)
  case atStart => exact ⟨_, _, HR4.out, HB4.out, fun _ h => h, fun kl h1 h2 => by rw [h1] at h2; cases h2⟩
  case round =>
    obtain ⟨left, cnt, HR, HB, HL⟩ := hrel
    go_wp2_with (at_next; refine wpList_next_ranges _ rfl _ rfl 9 Tryz.lawS _ Value.string (Value.int .i64) (fun key kl hk => by obtain ⟨x, rfl, _⟩ := keyS_inv hk; exact ⟨x, rfl⟩) (fun v y hv => by obtain ⟨c, rfl, _⟩ := plainElem_int_inv Tryz.underlying3 hv; exact ⟨c, rfl⟩) W.heap.size w3.heap.size 3 opD left cnt rfl HR.out ?_ ?_)
    · intro _ hl0
      have HO : Hid (opK (txt ts s.i) = 0) := opD_none fun kl hk => HL.out.2 kl hk (hl0 kl)
      have HE : Hid (bstr (opS (txt ts s.i)) = ⟨#[]⟩) := by show _ = _; unfold opS; rw [if_pos HO.out]; rfl
      clear hl0
      go_wp2_with fail
      refine bodyPost_ret (results_tmp2 rfl _ _ _) rfl ?_
      rw [HO.out, HE.out]
      exact ⟨rfl, HB.out⟩
    · intro x n kl y1 y2 w5 cnt5 hkey hlk hv hat hr5 hlt hg5 hs5 hen
      obtain ⟨x0, e0, hkl⟩ := keyS_inv hkey
      cases e0
      obtain ⟨t, m, ht, hm, hm0, hatm⟩ := opD_at (HL.out.1 kl hlk)
      obtain ⟨n0, en, hy, _⟩ := plainElem_int_inv Tryz.underlying3 hv
      cases en
      have hx : x.data.toList = t := by rw [hkl] at ht; exact Lit.string.inj ht
      have hnm : n = m := by
        have := (hat (li 0)).symm.trans (hatm (li 0))
        rw [(Prod.mk.inj hy).1] at this
        unfold li at this
        simpa using this
      have HB5 : Hid (Below W.heap.size W w5) := HB.out.grown hg5 HB.out.size (fun k hk => by cases hk; exact HSZ.out)
      have HP5 : Hid (PP w5 pb tb c ts s) := HP.out.below HB5.out HLT.out
      have HI := hiD (is_any HP5.out HH.out x t hx)
      have HX : Hid (x = bstr t) := by show _ = _; rw [← hx]; rfl
      have HN : Hid (n = opK t) := hnm.trans hm.symm
      have HM0 := hiD hm0
      have HMK := hiD hm
      have HR5 := hiD hr5
      have HLT5 := hiD hlt
      have HKL : Hid (kl = .string t) := ht
      clear hkey hlk hv hat hr5 hlt hg5 hs5 hkl ht hm hm0 hatm hy hx hnm
      obtain ⟨d, hd⟩ : ∃ d, d = decide (txt ts s.i = t) := ⟨_, rfl⟩
      have HD := hiD hd
      rw [← hd] at HI
      clear hd
      go_wp2_with fail
      refine HI.out.mono ?_
      rintro r w6 ⟨rfl, b6⟩
      have HB6 : Hid (Below W.heap.size W w6) := HB5.out.trans (b6.mono HB5.out.size)
      have HR6 := hiD (HR5.out.kept (grown_of b6) (by simp) (by simp))
      clear b6 HI
      cases d with
      | true =>
        have HT := hiD (of_decide_eq_true HD.out.symm)
        have HE : Hid (bstr (opS (txt ts s.i)) = x) := by show _ = _; unfold opS; rw [show txt ts s.i = t from HT.out, HMK.out, if_neg HM0.out, HX.out]
        go_wp2_with fail
        refine bodyPost_ret (results_tmp2 rfl _ _ _) rfl ?_
        rw [HE.out, HT.out, ← HN.out]
        exact ⟨rfl, HB6.out⟩
      | false =>
        have HT := hiD (of_decide_eq_false HD.out.symm)
        go_wp2_with fail
        go_roundw
        case rel =>
          refine ⟨_, cnt5, HR6.out, HB6.out, fun k h => HL.out.1 k (by simp only [Bool.and_eq_true] at h; exact h.1), fun k h1 h2 => ?_⟩
          cases h3 : left k with
          | false => exact HL.out.2 k h1 h3
          | true =>
            rw [h3, Bool.true_and] at h2
            have h4 : k = kl := same_eq (by simpa using h2)
            rw [h4, HKL.out]
            intro h5
            exact HT.out (Lit.string.inj h5).symm
        case measure => rw [HR6.out.left_eq, HR.out.left_eq]; exact HLT5.out
end
end Go.Proofs.YtkildckeikedhaaGreatDoor
namespace Go.Proofs.YtkildckeikedhaaGreatDoor
open Go.ChangeShapes Go.WideShapes Go.ChangeAt Go.RowKit
set_option linter.unusedVariables false

def VE (B : Nat) (e : Ex) (w : World) (v : Value) : Prop := RdE (Bt B w.heap.size) w e v
theorem VE.kp {B g : Nat} {e : Ex} {w w' : World} {v : Value} (h : VE B e w v) (hk : Kp g w w') (hg : g < B) : VE B e w' v :=
 (RdE.keep (fun b hb n => World.cell?_of_block (hk.2.2.2.2 b hb.2 (by have := hb.1; omega))) h).imp fun b hb => ⟨hb.1, Nat.lt_of_lt_of_le hb.2 hk.2.2.2.1⟩
theorem VE.low {B B' : Nat} {e : Ex} {w : World} {v : Value} (h : VE B e w v) (hb : B' ≤ B) : VE B' e w v := RdE.imp (fun b hb' => ⟨Nat.le_trans hb hb'.1, hb'.2⟩) h
theorem VE.later {B : Nat} {e : Ex} {w w' : World} {v : Value} (h : VE B e w v) (hb : Below w.heap.size w w') : VE B e w' v := (RdE.below h hb fun b hb => hb.2).imp fun b hb' => ⟨hb'.1, Nat.lt_of_lt_of_le hb'.2 hb.size⟩
theorem VE.leaf (B : Nat) (w : World) (k : Int) (a b : List UInt8) : VE B (.mk k a b []) w (.agg #[.int .i64 k, .string (bstr a), .string (bstr b), .slice none 0 0]) := RdE.of (e := .mk k a b []) (q := none) (c := 0) (Nat.le_refl _) (fun h => absurd h (Nat.lt_irrefl _))
theorem kp_set4 (w : World) (g : Nat) (x0 x1 x2 x3 : Value) : Kp g w ((((w.setCell ⟨g, 0, none⟩ x0).setCell ⟨g, 1, none⟩ x1).setCell ⟨g, 2, none⟩ x2).setCell ⟨g, 3, none⟩ x3) := ((((Kp.of (pb := g) (Below.refl _ _)).set 0 x0).set 1 x1).set 2 x2).set 3 x3
theorem PP.kp {W W' : World} {pb tb c g : Nat} {ts : List Tok} {s : PS} (h : PP W pb tb c ts s) (hk : Kp g W W') (hg : pb < g) (hs : g ≤ W.heap.size) : PP W' pb tb c ts s := h.below (hk.below (Nat.le_refl _) hs) hg
theorem Kp.andThen {pb g : Nat} {W W' W2 : World} (h : Kp pb W W') (hk : Kp g W' W2) (hg : W.heap.size ≤ g) : Kp pb W W2 :=
 ⟨hk.1.trans h.1, hk.2.1.trans h.2.1, hk.2.2.1.trans h.2.2.1, Nat.le_trans h.2.2.2.1 hk.2.2.2.1, fun k hk' hn => (hk.2.2.2.2 k (Nat.lt_of_lt_of_le hk' h.2.2.2.1) (by omega)).trans (h.2.2.2.2 k hk' hn)⟩
theorem stepw_calls {P : Program} {ops : Array Oper} {o : Oper} {a : Act} {w : World} {K : Act → World → Prop} {Q : Exit → Act → World → Prop} {E : Prop} {f : FuncId} {args : Array Value} {C : Ending → World → Prop}
  (hw : Region.wanted o (yielded ops a.tmps) = true) (hrun : (execOp a.eval o).run P w = .ok (.enter f args) w) (hc : Calls P f args w C) (hO : ∀ w', ¬ C .outgrown w') (hP : ∀ ch w', C (.panicked ch) w' → Q (.panic ch) a w')
  (hK : ∀ v w', C (.returned v) w' → K (a.put o.dst v) w') : if Region.wanted o (yielded ops a.tmps) = true then Oper.wp P o a w K Q else E := by
 rw [if_pos hw]
 unfold Oper.wp
 rw [hrun]
 simp only [Oper.upon]
 refine hc.mono fun e w' h => ?_
 cases e with
 | returned v => exact hK v w' h
 | panicked ch => exact hP ch w' h
 | outgrown => exact absurd h (hO w')
theorem QR.grown {α : Type} {pb tb c : Nat} {ts : List Tok} {w : World} {r : PR α} {val : α → World → Value → Prop} (w' : World) : ¬ QR pb tb c ts w r val .outgrown w' := by
 rintro (⟨_, _, _, _, h, _⟩ | ⟨_, _, _, h, _⟩) <;> cases h
theorem QR.ret {α : Type} {pb tb c : Nat} {ts : List Tok} {w : World} {r : PR α} {val : α → World → Value → Prop} {v : Value} {w' : World} (h : QR pb tb c ts w r val (.returned v) w') : ∃ x s', r = .ok x s' ∧ val x w' v ∧ PP w' pb tb c ts s' ∧ Kp pb w w' := by
 rcases h with ⟨x, s', _, h1, h, h2⟩ | ⟨_, _, _, h, _⟩
 ·cases h; exact ⟨x, s', h1, h2⟩
 ·cases h
theorem QR.pan {α : Type} {pb tb c : Nat} {ts : List Tok} {w : World} {r : PR α} {val : α → World → Value → Prop} {ch : List PanicEntry} {w' : World} (h : QR pb tb c ts w r val (.panicked ch) w') : ∃ k i, r = .bad k i ∧ ch = [{ v := flt k (offs ts i), recovered := false }] ∧ Kp pb w w' := by
 rcases h with ⟨_, _, _, _, h, _⟩ | ⟨k, i, h1, h, h2⟩
 ·cases h
 ·cases h; exact ⟨k, i, h1, rfl, h2⟩
def groupW (ts : List Tok) (U : Option (PS → PR Ex)) (s : PS) : PR Ex := match U with
 | none => .bad 7 s.i
 | some U => (U { s with i := s.i + 1, o := s.o + 1 }).then fun e s1 => (wantF ts [41] s1).then fun _ s2 => .ok e { s2 with o := s2.o - 1 }
theorem unitW_group {ts : List Tok} {U : Option (PS → PR Ex)} {s : PS} (h : txt ts s.i = [40]) : unitW ts U s = groupW ts U s := if_pos h
theorem unitW_leaf {ts : List Tok} {U : Option (PS → PR Ex)} {s : PS} (h : ¬ txt ts s.i = [40]) (hn : isName (bstr (txt ts s.i)) = true) (hl : s.l < 32) :
  unitW ts U s = if txt ts (s.i + 1) = [45, 62] then (nameF ts { s with i := s.i + 2, l := s.l + 1 }).then fun r s2 => .ok (.mk 2 (txt ts s.i) r []) s2
   else .ok (.mk 1 [] (txt ts s.i) []) { s with i := s.i + 1, l := s.l + 1 } := by
 unfold unitW
 rw [if_neg h, if_pos hn, if_pos hl]
theorem unitW_many {ts : List Tok} {U : Option (PS → PR Ex)} {s : PS} (h : ¬ txt ts s.i = [40]) (hn : isName (bstr (txt ts s.i)) = true) (hl : ¬ s.l < 32) : unitW ts U s = .bad 15 s.i := by
 unfold unitW
 rw [if_neg h, if_pos hn, if_neg hl]
theorem unitW_no {ts : List Tok} {U : Option (PS → PR Ex)} {s : PS} (h : ¬ txt ts s.i = [40]) (hn : isName (bstr (txt ts s.i)) = false) : unitW ts U s = .bad 6 s.i := by
 unfold unitW
 rw [if_neg h, if_neg (by rw [hn]; simp)]
section
variable {W : World} {pb tb c : Nat} {ts : List Tok} {s : PS}
set_option maxRecDepth 100000 in
set_option maxHeartbeats 2000000 in
theorem unit_any {U : Option (PS → PR Ex)} (ho : OkTs ts) (h : PP W pb tb c ts s) (hi : s.i < ts.length) (HG : txt ts s.i = [40] → ∀ W', PP W' pb tb c ts s → Calls Tryz.prog 134 #[.pointer (some ⟨pb, 0, none⟩)] W' (QR pb tb c ts W' (groupW ts U s) (VE W'.heap.size))) : Calls Tryz.prog 129 #[.pointer (some ⟨pb, 0, none⟩)] W (QR pb tb c ts W (unitW ts U s) (VE W.heap.size)) := by
 have hb0 : Below W.heap.size W (W.alloc (.cells #[.int .i64 0, .string ByteArray.empty, .string ByteArray.empty, .slice none 0 0] 46)) := (Below.refl _ _).alloc (Nat.le_refl _) _
 have HP0 := hiD (h.later hb0)
 have HK0 := hiD (Kp.of (pb := pb) hb0)
 have HA0 : Hid (Arr (W.alloc (.cells #[.int .i64 0, .string ByteArray.empty, .string ByteArray.empty, .slice none 0 0] 46)) 46 W.heap.size [.int .i64 0, .string ByteArray.empty, .string ByteArray.empty, .slice none 0 0]) := Arr.new' _ _ _ _ rfl
 have HIS := hiD (is_any HP0.out hi ⟨#[40]⟩ [40] rfl)
 have HLT : Hid (pb < W.heap.size) := h.1.lt
 have HH := hiD hi
 have HO := hiD ho
 have HG := hiD HG
 obtain ⟨d, hd⟩ : ∃ d, d = decide (txt ts s.i = [40]) := ⟨_, rfl⟩
 have HD := hiD hd
 rw [← hd] at HIS
 clear h hi hb0 ho hd
 go_enter Tryz.func129, Tryz.ntmps129
 go_wp2_with fail
 refine HIS.out.mono ?_
 rintro r w1 ⟨rfl, b1⟩
 have HP1 := hiD (HP0.out.later b1)
 have HK1 := hiD (HK0.out.trans (Kp.of (pb := pb) b1))
 have HA1 := hiD (HA0.out.later b1)
 clear b1 HIS
 cases d with
 | true =>
  have HT := hiD (of_decide_eq_true HD.out.symm)
  have HGC := hiD (HG.out HT.out w1 HP1.out)
  have HE := hiD (unitW_group (U := U) HT.out)
  go_wp2_with fail
  refine HGC.out.mono ?_
  rintro r w2 (⟨e, s2, v, e1, rfl, r2, p2, k2⟩ | ⟨k, i, e1, rfl, k2⟩)
  ·obtain ⟨mk, mv, mn, ms⟩ := e
   have HR2 : Hid (VE w1.heap.size (.mk mk mv mn ms) w2 v) := r2
   obtain ⟨q4, c4, rfl, _, _⟩ := RdE.form r2
   unfold exv at HR2 ⊢
   dsimp only [Ex.kind, Ex.via, Ex.nm, Ex.kids] at HR2 ⊢
   have HA2 := hiD (k2.arr HA1.out (by have := HLT.out; omega))
   have HP2 := hiD p2
   have HK2 := hiD (HK1.out.trans k2)
   have HE2 : Hid (unitW ts U s = .ok (.mk mk mv mn ms) s2) := HE.out.trans e1
   have HLE : Hid (W.heap.size < w1.heap.size) := HA1.out.lt
   have x0 := HA2.out.cell 0
   have x1 := HA2.out.cell 1
   have x2 := HA2.out.cell 2
   have x3 := HA2.out.cell 3
   have y0 := HA2.out.free 0
   have y1 := HA2.out.free 1
   have y2 := HA2.out.free 2
   have y3 := HA2.out.free 3
   simp only [List.getElem?_cons_zero, List.getElem?_cons_succ] at x0 x1 x2 x3
   clear e1 r2 p2 k2 HGC HG
   go_wp2_with fail
   have hk := kp_set4 w2 W.heap.size (.int .i64 mk) (.string (bstr mv)) (.string (bstr mn)) (.slice q4 ms.length c4)
   have hA := HA2.out.set4 (.int .i64 mk) (.string (bstr mv)) (.string (bstr mn)) (.slice q4 ms.length c4)
   exact bodyPost_ret (resE rfl hA rfl) rfl (.inl ⟨_, s2, _, HE2.out, rfl, ((HR2.out.kp hk HLE.out).low (Nat.le_of_lt HLE.out)), HP2.out.kp hk HLT.out HK2.out.2.2.2.1, HK2.out.andThen hk (Nat.le_refl _)⟩)
  ·have HK2 := hiD (HK1.out.trans k2)
   have HE2 : Hid (unitW ts U s = .bad k i) := HE.out.trans e1
   clear e1 k2 HGC HG
   go_wp2_with fail
   exact ⟨rfl, .inr ⟨k, i, HE2.out, rfl, HK2.out⟩⟩
 | false =>
  have HT := hiD (of_decide_eq_false HD.out.symm)
  have HNN := hiD (needName_any HP1.out HH.out)
  clear HG
  go_wp2_with fail
  refine HNN.out.mono ?_
  rintro r w2 ⟨b2, (⟨hn, rfl⟩ | ⟨hn, rfl⟩)⟩
  ·have HP2 := hiD (HP1.out.later b2)
   have HK2 := hiD (HK1.out.trans (Kp.of (pb := pb) b2))
   have HA2 := hiD (HA1.out.later b2)
   have HNM := hiD hn
   have a3 := HP2.out.1.cell 3
   have f3 := HP2.out.1.free 3
   simp only [List.getElem?_cons_zero, List.getElem?_cons_succ] at a3
   clear b2 HNN hn
   by_cases hlt : s.l < 32
   ·have hlt1 : (s.l : Int) < 32 := by omega
    have hz0 : (0 : Int) ≤ s.l := by omega
    have HLF := hiD (unitW_leaf (U := U) HT.out HNM.out hlt)
    have HP3 : Hid (PP (w2.setCell ⟨pb, 3, none⟩ (.int .i64 ((s.l : Int) + 1))) pb tb c ts { s with l := s.l + 1 }) := HP2.out.set (by simp)
    have HK3 := hiD (HK2.out.set 3 (.int .i64 ((s.l : Int) + 1)))
    have HA3 : Hid (Arr (w2.setCell ⟨pb, 3, none⟩ (.int .i64 ((s.l : Int) + 1))) 46 W.heap.size [.int .i64 0, .string ByteArray.empty, .string ByteArray.empty, .slice none 0 0]) := HA2.out.setCell (by have := HLT.out; simp only [ne_eq]; omega) _
    have HN3 := hiD (name_any HP3.out HH.out)
    have hnf : nameF ts { s with l := s.l + 1 } = .ok (txt ts s.i) ⟨s.i + 1, s.o, s.l + 1⟩ := if_pos HNM.out
    rw [hnf] at HN3
    clear hnf hlt
    go_wp2_with fail
    refine (need_t 15).mono ?_
    rintro r w3 ⟨rfl, rfl⟩
    go_wp2_with fail
    refine HN3.out.mono ?_
    rintro r w4 (⟨x, s4, v, e4, rfl, rfl, p4, k4⟩ | ⟨k, i, e4, _⟩)
    ·cases e4
     have HW4 : Hid (W.heap.size < w4.heap.size) := (k4.arr HA3.out (by have := HLT.out; omega)).lt
     have hb5 : Below w4.heap.size w4 (w4.alloc (.cells #[.int .i64 1, .string ⟨#[]⟩, .string (bstr (txt ts s.i)), .slice none 0 0] 46)) := (Below.refl _ _).alloc (Nat.le_refl _) _
     have HP5 := hiD (p4.later hb5)
     have HK4 := hiD (HK3.out.trans k4)
     have HK5 := hiD (HK4.out.trans (Kp.of (pb := pb) hb5))
     have HA5 := hiD ((k4.arr HA3.out (by have := HLT.out; omega)).later hb5)
     have HE5 : Hid (Arr (w4.alloc (.cells #[.int .i64 1, .string ⟨#[]⟩, .string (bstr (txt ts s.i)), .slice none 0 0] 46)) 46 w4.heap.size [.int .i64 1, .string ⟨#[]⟩, .string (bstr (txt ts s.i)), .slice none 0 0]) := Arr.new' _ _ _ _ rfl
     have HS5 : Hid (s.i + 1 < ts.length) := HO.out.step (name_ne HNM.out)
     have HSK := hiD (skip_any HP5.out HS5.out ⟨#[45, 62]⟩ [45, 62] rfl)
     clear p4 k4 HN3 a3 f3 hb5
     go_wp2_with fail
     refine HSK.out.mono ?_
     rintro r w6 ⟨d, hd, rfl, p6, k6⟩
     have HK6 := hiD (HK5.out.trans k6)
     have HA6 := hiD (k6.arr HA5.out (by have := HLT.out; omega))
     have HE6 := hiD (k6.arr HE5.out (by have := HLT.out; have := HW4.out; omega))
     cases d with
     | true =>
      have ht := of_decide_eq_true hd.symm
      have HP6 : Hid (PP w6 pb tb c ts ⟨s.i + 2, s.o, s.l + 1⟩) := p6
      have HS6 : Hid (s.i + 2 < ts.length) := HO.out.step (i := s.i + 1) (by rw [show txt ts (s.i + 1) = _ from ht]; simp)
      have HLT2 := hiD (HLF.out.trans (if_pos ht))
      clear p6 k6 HSK hd ht HP5 HK5 HA5 HE5 HP3 HK3 HA3
      go_upto_region 8 with (fail)
      refine wp_region_held_drew (S := fun _ => True) (by kernel_rfl) trivial (fun hHeld => ?_)
      try simp only [Act.put]
      have hb7 : Below w6.heap.size w6 w6.drew := (Below.refl _ _).drew
      have HP7 := hiD (HP6.out.later hb7)
      have HK7 := hiD (HK6.out.trans (Kp.of (pb := pb) hb7))
      have HA7 := hiD (HA6.out.later hb7)
      have HE7 := hiD (HE6.out.later hb7)
      clear hb7
      generalize w6.drew = w7 at HP7 HK7 HA7 HE7 ⊢
      have HN7 := hiD (name_any HP7.out HS6.out)
      refine wpAnyH_take (i := 0) (oi := ⟨some 29, _, _, _, _, _⟩) (v := .pointer (some ⟨w4.heap.size, 2, none⟩)) rfl (by kernel_rfl) (by kernel_rfl) (by kernel_rfl) (fun _ _ _ h => h) (.inl ⟨by rfl, fun w' hSw => ?_⟩) hHeld ?_
      focus (skip; clear hHeld; go_simp)
      try simp only [Act.put, pz0, pz1, pz2]
      refine wpAnyH_take (i := 2) (oi := ⟨some 31, _, _, _, _, _⟩) (v := .pointer (some ⟨pb, 0, none⟩)) rfl (by kernel_rfl) (by kernel_rfl) (by kernel_rfl) (fun _ _ _ h => h) (.inl ⟨by rfl, fun w' hSw => ?_⟩) hHeld ?_
      focus (skip; clear hHeld; go_simp)
      try simp only [Act.put, pz0, pz1, pz2]
      refine wpAnyH_ready (rs := [1, 3]) (by kernel_rfl) (by simp) ?_
      refine AllReadyH.cons (o := ⟨some 30, _, _, _, _, _⟩) rfl (fun K' hK' => ?_) (AllReadyH.cons (o := ⟨some 32, _, _, _, _, _⟩) rfl (fun K' hK' => ?_) AllReadyH.nil)
      ·have x0 := HE7.out.cell 0
       have y0 := HE7.out.free 0
       have x1 := HE7.out.cell 1
       have y1 := HE7.out.free 1
       have x2 := HE7.out.cell 2
       have y2 := HE7.out.free 2
       have x3 := HE7.out.cell 3
       have y3 := HE7.out.free 3
       simp only [List.getElem?_cons_zero, List.getElem?_cons_succ] at x0 x1 x2 x3
       go_simp
       clear x0 y0 x1 y1 x2 y2 x3 y3
       refine hK'.out _ _ trivial (fun _ => ?_)
       clear hK' K'
       try simp only [Act.put, pz0, pz1, pz2]
       refine wpAnyH_take (i := 4) (oi := ⟨some 33, _, _, _, _, _⟩) (v := .pointer (some ⟨w4.heap.size, 0, none⟩)) rfl (by kernel_rfl) (by kernel_rfl) (by kernel_rfl) (fun _ _ _ h => h) (.inl ⟨by rfl, fun w' hSw => ?_⟩) hHeld ?_
       focus (skip; clear hHeld; go_simp)
       try simp only [Act.put, pz0, pz1, pz2]
       refine wpAnyH_ready (rs := [3]) (by kernel_rfl) (by simp) ?_
       refine AllReadyH.cons (o := ⟨some 32, _, _, _, _, _⟩) rfl (fun K' hK' => ?_) AllReadyH.nil
       refine stepw_calls (by rfl) ?_ HN7.out (fun w => QR.grown w) ?_ ?_
       focus go_simp
       ·rintro ch w8 hpan
        obtain ⟨k, i, e8, rfl, k8⟩ := hpan.pan
        have HK8 := hiD (HK7.out.trans k8)
        have HE2 : Hid (unitW ts U s = .bad k i) := by
         show _ = _
         rw [HLT2.out, e8]; rfl
        clear e8 k8 hpan
        skip
        exact ⟨rfl, .inr ⟨k, i, HE2.out, rfl, HK8.out⟩⟩
       rintro v w8 hret
       obtain ⟨b, s8, e8, rfl, p8, k8⟩ := hret.ret
       have HP8 := hiD p8
       have HK8 := hiD (HK7.out.trans k8)
       have HA8 := hiD (k8.arr HA7.out (by have := HLT.out; omega))
       have HE8 := hiD (k8.arr HE7.out (by have := HLT.out; have := HW4.out; omega))
       have HE2 : Hid (unitW ts U s = .ok (.mk 2 (txt ts s.i) b []) s8) := by
        show _ = _
        rw [HLT2.out, e8]; rfl
       clear e8 p8 k8 hret
       refine hK'.out _ _ trivial (fun _ => ?_)
       clear hK' K'
       try simp only [Act.put, pz0, pz1, pz2]
       refine wpAnyH_ready (rs := [5]) (by kernel_rfl) (by simp) ?_
       refine AllReadyH.cons (o := ⟨none, _, _, _, _, _⟩) rfl (fun K' hK' => ?_) AllReadyH.nil
       obtain ⟨x0, y0, x1, y1, x2, y2, x3, y3⟩ := HE8.out.all4
       go_simp
       clear x0 y0 x1 y1 x2 y2 x3 y3
       refine hK'.out _ _ trivial (fun _ => ?_)
       clear hK' K'
       try simp only [Act.put, pz0, pz1, pz2]
       have HE9 : Hid (Arr (w8.setCell ⟨w4.heap.size, 0, none⟩ (.int .i64 2)) 46 w4.heap.size [.int .i64 2, .string ⟨#[]⟩, .string (bstr (txt ts s.i)), .slice none 0 0]) := HE8.out.set 0 (.int .i64 2)
       refine wpAnyH_take (i := 6) (oi := ⟨some 34, _, _, _, _, _⟩) (v := .pointer (some ⟨w4.heap.size, 1, none⟩)) rfl (by kernel_rfl) (by kernel_rfl) (by kernel_rfl) (fun _ _ _ h => h) (.inl ⟨by rfl, fun w' hSw => ?_⟩) hHeld ?_
       focus (skip; clear hHeld; go_simp)
       try simp only [Act.put, pz0, pz1, pz2]
       refine wpAnyH_ready (rs := [7]) (by kernel_rfl) (by simp) ?_
       refine AllReadyH.cons (o := ⟨none, _, _, _, _, _⟩) rfl (fun K' hK' => ?_) AllReadyH.nil
       obtain ⟨x0, y0, x1, y1, x2, y2, x3, y3⟩ := HE9.out.all4
       go_simp
       clear x0 y0 x1 y1 x2 y2 x3 y3
       refine hK'.out _ _ trivial (fun _ => ?_)
       clear hK' K'
       try simp only [Act.put, pz0, pz1, pz2]
       have HE10 : Hid (Arr ((w8.setCell ⟨w4.heap.size, 0, none⟩ (.int .i64 2)).setCell ⟨w4.heap.size, 1, none⟩ (.string (bstr (txt ts s.i)))) 46 w4.heap.size [.int .i64 2, .string (bstr (txt ts s.i)), .string (bstr (txt ts s.i)), .slice none 0 0]) := HE9.out.set 1 (.string (bstr (txt ts s.i)))
       refine wpAnyH_take (i := 8) (oi := ⟨some 35, _, _, _, _, _⟩) (v := .pointer (some ⟨w4.heap.size, 2, none⟩)) rfl (by kernel_rfl) (by kernel_rfl) (by kernel_rfl) (fun _ _ _ h => h) (.inl ⟨by rfl, fun w' hSw => ?_⟩) hHeld ?_
       focus (skip; clear hHeld; go_simp)
       try simp only [Act.put, pz0, pz1, pz2]
       refine wpAnyH_ready (rs := [9]) (by kernel_rfl) (by simp) ?_
       refine AllReadyH.cons (o := ⟨none, _, _, _, _, _⟩) rfl (fun K' hK' => ?_) AllReadyH.nil
       obtain ⟨x0, y0, x1, y1, x2, y2, x3, y3⟩ := HE10.out.all4
       go_simp
       clear x0 y0 x1 y1 x2 y2 x3 y3
       refine hK'.out _ _ trivial (fun _ => ?_)
       clear hK' K'
       try simp only [Act.put, pz0, pz1, pz2]
       have HE11 : Hid (Arr (((w8.setCell ⟨w4.heap.size, 0, none⟩ (.int .i64 2)).setCell ⟨w4.heap.size, 1, none⟩ (.string (bstr (txt ts s.i)))).setCell ⟨w4.heap.size, 2, none⟩ (.string (bstr b))) 46 w4.heap.size [.int .i64 2, .string (bstr (txt ts s.i)), .string (bstr b), .slice none 0 0]) := HE10.out.set 2 (.string (bstr b))
       refine wpAnyH_done (by kernel_rfl) ?_ _
       have hk := (((Kp.of (pb := w4.heap.size) (Below.refl w8.heap.size w8)).set 0 (.int .i64 2)).set 1 (.string (bstr (txt ts s.i)))).set 2 (.string (bstr b))
       have HP11 := hiD (HP8.out.kp hk (Nat.lt_of_lt_of_le HLT.out HK4.out.2.2.2.1) (Nat.le_trans (Nat.le_succ _) (show w4.heap.size + 1 ≤ w8.heap.size from HE8.out.lt)))
       have HK11 := hiD (HK8.out.andThen hk HK4.out.2.2.2.1)
       have HA11 := hiD (hk.arr HA8.out (by have := HW4.out; omega))
       clear hk HE9 HE10
       generalize ((w8.setCell ⟨w4.heap.size, 0, none⟩ (.int .i64 2)).setCell ⟨w4.heap.size, 1, none⟩ (.string (bstr (txt ts s.i)))).setCell ⟨w4.heap.size, 2, none⟩ (.string (bstr b)) = w11 at HE11 HP11 HK11 HA11 ⊢
       obtain ⟨x0, y0, x1, y1, x2, y2, x3, y3⟩ := HE11.out.all4
       obtain ⟨p0, q0, p1, q1, p2, q2, p3, q3⟩ := HA11.out.all4
       go_wp2_with fail
       have hk := kp_set4 w11 W.heap.size (.int .i64 2) (.string (bstr (txt ts s.i))) (.string (bstr b)) (.slice none 0 0)
       have hA := HA11.out.set4 (.int .i64 2) (.string (bstr (txt ts s.i))) (.string (bstr b)) (.slice none 0 0)
       exact bodyPost_ret (resE rfl hA rfl) rfl (.inl ⟨_, _, _, HE2.out, rfl, VE.leaf _ _ 2 (txt ts s.i) b, HP11.out.kp hk HLT.out HK11.out.2.2.2.1, HK11.out.andThen hk (Nat.le_refl _)⟩)
      ·refine stepw_calls (by rfl) ?_ HN7.out (fun w => QR.grown w) ?_ ?_
       focus go_simp
       ·rintro ch w8 hpan
        obtain ⟨k, i, e8, rfl, k8⟩ := hpan.pan
        have HK8 := hiD (HK7.out.trans k8)
        have HE2 : Hid (unitW ts U s = .bad k i) := by
         show _ = _
         rw [HLT2.out, e8]; rfl
        clear e8 k8 hpan
        skip
        exact ⟨rfl, .inr ⟨k, i, HE2.out, rfl, HK8.out⟩⟩
       rintro v w8 hret
       obtain ⟨b, s8, e8, rfl, p8, k8⟩ := hret.ret
       have HP8 := hiD p8
       have HK8 := hiD (HK7.out.trans k8)
       have HA8 := hiD (k8.arr HA7.out (by have := HLT.out; omega))
       have HE8 := hiD (k8.arr HE7.out (by have := HLT.out; have := HW4.out; omega))
       have HE2 : Hid (unitW ts U s = .ok (.mk 2 (txt ts s.i) b []) s8) := by
        show _ = _
        rw [HLT2.out, e8]; rfl
       clear e8 p8 k8 hret
       refine hK'.out _ _ trivial (fun _ => ?_)
       clear hK' K'
       try simp only [Act.put, pz0, pz1, pz2]
       refine wpAnyH_ready (rs := [1]) (by kernel_rfl) (by simp) ?_
       refine AllReadyH.cons (o := ⟨some 30, _, _, _, _, _⟩) rfl (fun K' hK' => ?_) AllReadyH.nil
       obtain ⟨x0, y0, x1, y1, x2, y2, x3, y3⟩ := HE8.out.all4
       go_simp
       clear x0 y0 x1 y1 x2 y2 x3 y3
       refine hK'.out _ _ trivial (fun _ => ?_)
       clear hK' K'
       try simp only [Act.put, pz0, pz1, pz2]
       refine wpAnyH_take (i := 4) (oi := ⟨some 33, _, _, _, _, _⟩) (v := .pointer (some ⟨w4.heap.size, 0, none⟩)) rfl (by kernel_rfl) (by kernel_rfl) (by kernel_rfl) (fun _ _ _ h => h) (.inl ⟨by rfl, fun w' hSw => ?_⟩) hHeld ?_
       focus (skip; clear hHeld; go_simp)
       try simp only [Act.put, pz0, pz1, pz2]
       refine wpAnyH_ready (rs := [5]) (by kernel_rfl) (by simp) ?_
       refine AllReadyH.cons (o := ⟨none, _, _, _, _, _⟩) rfl (fun K' hK' => ?_) AllReadyH.nil
       obtain ⟨x0, y0, x1, y1, x2, y2, x3, y3⟩ := HE8.out.all4
       go_simp
       clear x0 y0 x1 y1 x2 y2 x3 y3
       refine hK'.out _ _ trivial (fun _ => ?_)
       clear hK' K'
       try simp only [Act.put, pz0, pz1, pz2]
       have HE9 : Hid (Arr (w8.setCell ⟨w4.heap.size, 0, none⟩ (.int .i64 2)) 46 w4.heap.size [.int .i64 2, .string ⟨#[]⟩, .string (bstr (txt ts s.i)), .slice none 0 0]) := HE8.out.set 0 (.int .i64 2)
       refine wpAnyH_take (i := 6) (oi := ⟨some 34, _, _, _, _, _⟩) (v := .pointer (some ⟨w4.heap.size, 1, none⟩)) rfl (by kernel_rfl) (by kernel_rfl) (by kernel_rfl) (fun _ _ _ h => h) (.inl ⟨by rfl, fun w' hSw => ?_⟩) hHeld ?_
       focus (skip; clear hHeld; go_simp)
       try simp only [Act.put, pz0, pz1, pz2]
       refine wpAnyH_ready (rs := [7]) (by kernel_rfl) (by simp) ?_
       refine AllReadyH.cons (o := ⟨none, _, _, _, _, _⟩) rfl (fun K' hK' => ?_) AllReadyH.nil
       obtain ⟨x0, y0, x1, y1, x2, y2, x3, y3⟩ := HE9.out.all4
       go_simp
       clear x0 y0 x1 y1 x2 y2 x3 y3
       refine hK'.out _ _ trivial (fun _ => ?_)
       clear hK' K'
       try simp only [Act.put, pz0, pz1, pz2]
       have HE10 : Hid (Arr ((w8.setCell ⟨w4.heap.size, 0, none⟩ (.int .i64 2)).setCell ⟨w4.heap.size, 1, none⟩ (.string (bstr (txt ts s.i)))) 46 w4.heap.size [.int .i64 2, .string (bstr (txt ts s.i)), .string (bstr (txt ts s.i)), .slice none 0 0]) := HE9.out.set 1 (.string (bstr (txt ts s.i)))
       refine wpAnyH_take (i := 8) (oi := ⟨some 35, _, _, _, _, _⟩) (v := .pointer (some ⟨w4.heap.size, 2, none⟩)) rfl (by kernel_rfl) (by kernel_rfl) (by kernel_rfl) (fun _ _ _ h => h) (.inl ⟨by rfl, fun w' hSw => ?_⟩) hHeld ?_
       focus (skip; clear hHeld; go_simp)
       try simp only [Act.put, pz0, pz1, pz2]
       refine wpAnyH_ready (rs := [9]) (by kernel_rfl) (by simp) ?_
       refine AllReadyH.cons (o := ⟨none, _, _, _, _, _⟩) rfl (fun K' hK' => ?_) AllReadyH.nil
       obtain ⟨x0, y0, x1, y1, x2, y2, x3, y3⟩ := HE10.out.all4
       go_simp
       clear x0 y0 x1 y1 x2 y2 x3 y3
       refine hK'.out _ _ trivial (fun _ => ?_)
       clear hK' K'
       try simp only [Act.put, pz0, pz1, pz2]
       have HE11 : Hid (Arr (((w8.setCell ⟨w4.heap.size, 0, none⟩ (.int .i64 2)).setCell ⟨w4.heap.size, 1, none⟩ (.string (bstr (txt ts s.i)))).setCell ⟨w4.heap.size, 2, none⟩ (.string (bstr b))) 46 w4.heap.size [.int .i64 2, .string (bstr (txt ts s.i)), .string (bstr b), .slice none 0 0]) := HE10.out.set 2 (.string (bstr b))
       refine wpAnyH_done (by kernel_rfl) ?_ _
       have hk := (((Kp.of (pb := w4.heap.size) (Below.refl w8.heap.size w8)).set 0 (.int .i64 2)).set 1 (.string (bstr (txt ts s.i)))).set 2 (.string (bstr b))
       have HP11 := hiD (HP8.out.kp hk (Nat.lt_of_lt_of_le HLT.out HK4.out.2.2.2.1) (Nat.le_trans (Nat.le_succ _) (show w4.heap.size + 1 ≤ w8.heap.size from HE8.out.lt)))
       have HK11 := hiD (HK8.out.andThen hk HK4.out.2.2.2.1)
       have HA11 := hiD (hk.arr HA8.out (by have := HW4.out; omega))
       clear hk HE9 HE10
       generalize ((w8.setCell ⟨w4.heap.size, 0, none⟩ (.int .i64 2)).setCell ⟨w4.heap.size, 1, none⟩ (.string (bstr (txt ts s.i)))).setCell ⟨w4.heap.size, 2, none⟩ (.string (bstr b)) = w11 at HE11 HP11 HK11 HA11 ⊢
       obtain ⟨x0, y0, x1, y1, x2, y2, x3, y3⟩ := HE11.out.all4
       obtain ⟨p0, q0, p1, q1, p2, q2, p3, q3⟩ := HA11.out.all4
       go_wp2_with fail
       have hk := kp_set4 w11 W.heap.size (.int .i64 2) (.string (bstr (txt ts s.i))) (.string (bstr b)) (.slice none 0 0)
       have hA := HA11.out.set4 (.int .i64 2) (.string (bstr (txt ts s.i))) (.string (bstr b)) (.slice none 0 0)
       exact bodyPost_ret (resE rfl hA rfl) rfl (.inl ⟨_, _, _, HE2.out, rfl, VE.leaf _ _ 2 (txt ts s.i) b, HP11.out.kp hk HLT.out HK11.out.2.2.2.1, HK11.out.andThen hk (Nat.le_refl _)⟩)
     | false =>
      have HP6 : Hid (PP w6 pb tb c ts ⟨s.i + 1, s.o, s.l + 1⟩) := p6
      have HLT2 := hiD (HLF.out.trans (if_neg (of_decide_eq_false hd.symm)))
      clear p6 k6 HSK hd HP5 HK5 HA5 HE5 HP3 HK3 HA3
      obtain ⟨x0, y0, x1, y1, x2, y2, x3, y3⟩ := HE6.out.all4
      obtain ⟨p0, q0, p1, q1, p2, q2, p3, q3⟩ := HA6.out.all4
      go_wp2_with fail
      have hk := kp_set4 w6 W.heap.size (.int .i64 1) (.string ⟨#[]⟩) (.string (bstr (txt ts s.i))) (.slice none 0 0)
      have hA := HA6.out.set4 (.int .i64 1) (.string ⟨#[]⟩) (.string (bstr (txt ts s.i))) (.slice none 0 0)
      exact bodyPost_ret (resE rfl hA rfl) rfl (.inl ⟨_, _, _, HLT2.out, rfl, VE.leaf _ _ 1 [] (txt ts s.i), HP6.out.kp hk HLT.out HK6.out.2.2.2.1, HK6.out.andThen hk (Nat.le_refl _)⟩)
    ·cases e4
   ·have hlt1 : ¬ (s.l : Int) < 32 := by omega
    have HLF := hiD (unitW_many (U := U) HT.out HNM.out hlt)
    go_wp2_with fail
    rw [show decide ((s.l : Int) < 32) = false from decide_eq_false (by omega)]
    refine (need_f HP2.out HH.out 15).mono ?_
    rintro r w4 ⟨rfl, b4⟩
    have HK5 := hiD (HK2.out.trans (Kp.of (pb := pb) b4))
    clear b4
    go_wp2_with fail
    exact ⟨rfl, .inr ⟨15, s.i, HLF.out, rfl, HK5.out⟩⟩
  ·have HK2 := hiD (HK1.out.trans (Kp.of (pb := pb) b2))
   have HLF := hiD (unitW_no (U := U) HT.out hn)
   clear b2 HNN hn
   go_wp2_with fail
   exact ⟨rfl, .inr ⟨6, s.i, HLF.out, rfl, HK2.out⟩⟩
end
structure Kd (α : Type) where
  sty : TypeId
  ty : TypeId
  z : Value
  size : Nat
  bytes : Nat
  und : Tryz.prog.underlying sty = some (.slice ty)
  info : ∃ i, Tryz.prog.info? ty = some i ∧ i.zero = some z ∧ i.size = size ∧ i.bytes = bytes
  zs : z.cells.size = size
  pos : 0 < size
  small : bytes ≤ 1000
  rd : (Nat → Prop) → World → α → List Value → Prop
  len : ∀ {P w x cs}, rd P w x cs → cs.length = size
  ones : ∀ {P w x cs}, rd P w x cs → ∀ u ∈ cs, u.oneCell' = true
  keep : ∀ {P w w' x cs}, (∀ b, P b → ∀ n, w'.cell? ⟨b, n, none⟩ = w.cell? ⟨b, n, none⟩) → rd P w x cs → rd P w' x cs
  imp : ∀ {P Q w x cs}, (∀ b, P b → Q b) → rd P w x cs → rd Q w x cs
def CellsK {α : Type} (K : Kd α) (P : Nat → Prop) (w : World) : List α → List Value → Prop
  | [], cs => cs = []
  | x :: r, cs => ∃ a b, cs = a ++ b ∧ K.rd P w x a ∧ CellsK K P w r b
variable {α : Type} {K : Kd α}
theorem CellsK.keep {P : Nat → Prop} {w w' : World} (hk : ∀ b, P b → ∀ n, w'.cell? ⟨b, n, none⟩ = w.cell? ⟨b, n, none⟩) : ∀ {xs : List α} {cs : List Value}, CellsK K P w xs cs → CellsK K P w' xs cs
  | [], _, h => h
  | x :: r, _, ⟨a, b, e, h1, h2⟩ => ⟨a, b, e, K.keep hk h1, CellsK.keep hk h2⟩
theorem CellsK.imp {P Q : Nat → Prop} {w : World} (hPQ : ∀ b, P b → Q b) : ∀ {xs : List α} {cs : List Value}, CellsK K P w xs cs → CellsK K Q w xs cs
  | [], _, h => h
  | x :: r, _, ⟨a, b, e, h1, h2⟩ => ⟨a, b, e, K.imp hPQ h1, CellsK.imp hPQ h2⟩
theorem CellsK.snoc {P : Nat → Prop} {w : World} {x : α} {c : List Value} (hx : K.rd P w x c) : ∀ {xs : List α} {cs : List Value}, CellsK K P w xs cs → CellsK K P w (xs ++ [x]) (cs ++ c)
  | [], _, h => by
    obtain rfl : _ = [] := h
    exact ⟨c, [], by simp, hx, rfl⟩
  | y :: r, _, ⟨a, b, e, h1, h2⟩ => ⟨a, b ++ c, by rw [e, List.append_assoc], h1, CellsK.snoc hx h2⟩
def SubX (base : Nat) (X : Nat → Prop) (w : World) (v : Value) : Nat → Prop := fun b => base ≤ b ∧ b < w.heap.size ∧ some b ≠ v.ownBlock ∧ ¬ X b
def PRow (K : Kd α) (base : Nat) (X : Nat → Prop) (w : World) (v : Value) (xs : List α) : Prop := ∃ cs, w.ownsRow base K.ty K.size v xs.length cs ∧ CellsK K (SubX base X w v) w xs cs ∧ ∀ b, v.ownBlock = some b → ¬ X b
variable {base : Nat} {X : Nat → Prop} {w w' : World} {v : Value} {xs : List α}
theorem PRow.nil (K : Kd α) (base : Nat) (X : Nat → Prop) (w : World) : PRow K base X w (.slice none 0 0) [] := ⟨[], World.ownsRow_nil _ _ _ _, rfl, fun b h => by cases h⟩
theorem PRow.form (h : PRow K base X w v xs) : ∃ q c, v = .slice q xs.length c := by
  obtain ⟨cs, h1, _⟩ := h
  rcases h1.2 with ⟨h, hn⟩ | ⟨g, cap, cur, hv, _⟩
  · exact ⟨none, 0, by rw [hn]; exact h⟩
  · exact ⟨_, _, hv⟩
theorem PRow.turn (h : PRow K base X w v xs) (hs : w.heap.size ≤ w'.heap.size) (hk : ∀ b, base ≤ b → b < w.heap.size → ¬ X b → w'.heap[b]? = w.heap[b]?) : PRow K base X w' v xs := by
  obtain ⟨cs, h1, h2, h3⟩ := h
  refine ⟨cs, ⟨h1.1, ?_⟩, (h2.keep fun b hb n => World.cell?_of_block (hk b hb.1 hb.2.1 hb.2.2.2)).imp fun b hb => ⟨hb.1, Nat.lt_of_lt_of_le hb.2.1 hs, hb.2.2⟩, h3⟩
  rcases h1.2 with h | ⟨g, cap, cur, rfl, h0, hg, r⟩
  · exact .inl h
  · exact .inr ⟨g, cap, cur, rfl, h0, (hk g h0 (Array.getElem?_eq_some_iff.1 hg).1 (h3 g rfl)).trans hg, r⟩
theorem PRow.later (h : PRow K base X w v xs) (hb : Below w.heap.size w w') : PRow K base X w' v xs := h.turn hb.size fun b _ hl _ => hb.block b hl
theorem PRow.box (h : PRow K base X w v xs) {g : Nat} (hg : g < base ∨ X g) (i : Nat) (u : Value) : PRow K base X (w.setCell ⟨g, i, none⟩ u) v xs :=
  h.turn (by simp [World.setCell]) fun b h1 _ h2 => Below.heap_setCell w ⟨g, i, none⟩ u b (fun e => by have e' : b = g := e; subst e'; rcases hg with hg | hg; omega; exact h2 hg)
theorem PRow.wk (h : PRow K base X w v xs) {Y : Nat → Prop} (hY : ∀ b, base ≤ b → b < w.heap.size → Y b → X b) : PRow K base Y w v xs := by
  obtain ⟨cs, h1, h2, h3⟩ := h
  refine ⟨cs, h1, h2.imp fun b hb => ⟨hb.1, hb.2.1, hb.2.2.1, fun h => hb.2.2.2 (hY b hb.1 hb.2.1 h)⟩, fun b hb h => h3 b hb (hY b (h1.lt b hb).1 (h1.lt b hb).2 h)⟩
theorem PRow.low (h : PRow K base X w v xs) {b0 : Nat} (hb : b0 ≤ base) : PRow K b0 (fun b => X b ∨ b < base) w v xs := by
  obtain ⟨cs, h1, h2, h3⟩ := h
  refine ⟨cs, ⟨h1.1, ?_⟩, h2.imp fun b hb' => ⟨Nat.le_trans hb hb'.1, hb'.2.1, hb'.2.2.1, fun h => h.elim hb'.2.2.2 (fun h => absurd hb'.1 (by omega))⟩, fun b hb' h => h.elim (h3 b hb') (fun h => absurd (h1.lt b hb').1 (by omega))⟩
  rcases h1.2 with h | ⟨g, cap, cur, rfl, h0, r⟩
  · exact .inl h
  · exact .inr ⟨g, cap, cur, rfl, Nat.le_trans hb h0, r⟩
theorem PRow.lit {x : α} {cs : List Value} (hb : base ≤ w.heap.size) (hX : ∀ b, X b → b < w.heap.size) (hr : K.rd (fun b => base ≤ b ∧ b < w.heap.size ∧ ¬ X b) w x cs) : PRow K base X (w.alloc (.cells cs.toArray K.ty)) (.slice (some ⟨w.heap.size, 0, none⟩) 1 1) [x] := by
  have h1 := World.ownsRow_lit (base := base) (e := K.ty) (size := K.size) w cs.toArray 1 hb (by decide) (by simp [K.len hr])
  refine ⟨cs, h1, ⟨cs, [], by simp, ?_, rfl⟩, fun b hb' h => by cases hb'; exact absurd (hX _ h) (Nat.lt_irrefl _)⟩
  refine K.imp (fun b hb' => ⟨hb'.1, by simp; omega, fun e => by cases e; exact absurd hb'.2.1 (Nat.lt_irrefl _), hb'.2.2⟩) (K.keep (fun b hb' n => World.cell?_of_block (Below.heap_alloc w _ b hb'.2.1)) hr)
theorem PRow.app_run (h : PRow K base X w v xs) {n : Nat} {x : α} {cs : List Value} (hc : Arr w K.ty n cs) (hr : K.rd (SubX base X w v) w x cs) (hlen : xs.length + 1 ≤ 200000) (hbase : base ≤ w.heap.size) (hX : ∀ b, X b → b < w.heap.size) (ty : TypeId) :
    ∃ v' w', (Builtin.append_ #[K.sty, K.sty] ty #[v, .slice (some ⟨n, 0, none⟩) 1 1]).run Tryz.prog w = .ok v' w' ∧ PRow K base X w' v' (xs ++ [x]) ∧ w.grownBy w' v.ownBlock ∧ ∀ k, v.ownBlock = some k → base ≤ k ∧ ¬ X k := by
  obtain ⟨i0, hi, hz0, hz1, hz2⟩ := K.info
  obtain ⟨es, h1, h2, h3⟩ := h
  have hsm := K.small
  obtain ⟨v', w', hrun, r1, r2, _, r4⟩ := run_append_own_at (P := Tryz.prog) w base K.sty ty K.ty i0 K.z K.size K.bytes K.und hi hz0 hz1 hz2 K.zs K.pos v xs.length es h1 ⟨n, 0, none⟩ 1 1 cs (by rw [K.len hr, Nat.one_mul])
    (fun j u hu => by
      have := hc.cell j
      rw [hu] at this
      cases j <;> simpa [Addr.add] using this) (K.ones hr) (by unfold maxLen; omega) (Nat.le_trans (Nat.mul_le_mul hlen hsm) (by decide)) hbase
  refine ⟨v', w', hrun, ⟨es ++ cs, by rw [List.length_append]; exact r1, ?_, ?_⟩, r2, fun k hk => ⟨(h1.lt k hk).1, h3 k hk⟩⟩
  · have hk : ∀ b, SubX base X w v b → ∀ m, w'.cell? ⟨b, m, none⟩ = w.cell? ⟨b, m, none⟩ := fun b hb m => World.cell?_of_block (r2.block b hb.2.1 hb.2.2.1)
    have hS : ∀ b, SubX base X w v b → SubX base X w' v' b := fun b hb => ⟨hb.1, Nat.lt_of_lt_of_le hb.2.1 r2.size, by
      rcases r4 with r4 | r4
      · rw [r4]; exact hb.2.2.1
      · rw [r4]; intro e; have := Option.some.inj e; have := hb.2.1; omega, hb.2.2.2⟩
    exact CellsK.snoc (K.imp hS (K.keep hk hr)) ((h2.keep hk).imp hS)
  · intro b hb
    rcases r4 with r4 | r4
    · exact h3 b (r4 ▸ hb)
    · rw [r4] at hb; cases hb; exact fun h => absurd (hX _ h) (Nat.lt_irrefl _)
theorem app_row {ops : Array Oper} {rest : List Oper} {o : Oper} {a : Act} {Q : Exit → Act → World → Prop} (hgd : o.guard = none) (s y : Operand) (ho : o.op = .call { callee := .builtin .append, args := #[s, y], argTypes := #[K.sty, K.sty] })
    {n : Nat} {x : α} {cs : List Value} (hs : a.eval s = v) (h : PRow K base X w v xs) (hx : a.eval y = .slice (some ⟨n, 0, none⟩) 1 1) (hc : Arr w K.ty n cs) (hr : K.rd (SubX base X w v) w x cs) (hlen : xs.length + 1 ≤ 200000) (hbase : base ≤ w.heap.size) (hX : ∀ b, X b → b < w.heap.size)
    (hK : ∀ v' w', PRow K base X w' v' (xs ++ [x]) → w.grownBy w' v.ownBlock → (∀ k, v.ownBlock = some k → base ≤ k ∧ ¬ X k) → wpList Tryz.prog ops Q rest (a.put o.dst v') w') : wpList Tryz.prog ops Q (o :: rest) a w := by
  refine wpList_plain hgd fun K' hK' => ?_
  obtain ⟨v', w', hrun, r1, r2, r3⟩ := h.app_run hc hr hlen hbase hX o.type
  unfold Oper.wp execOp
  simp only [ho, resolve, invoke, builtin, Sem.run_bind, Sem.run_pure, Result.andThen_ok, List.map_toArray, List.map_cons, List.map_nil, hs, hx, hrun]
  exact hK' _ _ (hK v' w' r1 r2 r3)
theorem step_row {ops : Array Oper} {o : Oper} {a : Act} {K' : Act → World → Prop} {Q : Exit → Act → World → Prop} {E : Prop} (hgd : o.guard = none) (s y : Operand) (ho : o.op = .call { callee := .builtin .append, args := #[s, y], argTypes := #[K.sty, K.sty] })
    {n : Nat} {x : α} {cs : List Value} (hs : a.eval s = v) (h : PRow K base X w v xs) (hx : a.eval y = .slice (some ⟨n, 0, none⟩) 1 1) (hc : Arr w K.ty n cs) (hr : K.rd (SubX base X w v) w x cs) (hlen : xs.length + 1 ≤ 200000) (hbase : base ≤ w.heap.size) (hX : ∀ b, X b → b < w.heap.size)
    (hK : ∀ v' w', PRow K base X w' v' (xs ++ [x]) → w.grownBy w' v.ownBlock → (∀ k, v.ownBlock = some k → base ≤ k ∧ ¬ X k) → K' (a.put o.dst v') w') : if Region.wanted o (yielded ops a.tmps) = true then Oper.wp Tryz.prog o a w K' Q else E := by
  have hw : Region.wanted o (yielded ops a.tmps) = true := by simp [Region.wanted, hgd]
  rw [if_pos hw]
  obtain ⟨v', w', hrun, r1, r2, r3⟩ := h.app_run hc hr hlen hbase hX o.type
  unfold Oper.wp execOp
  simp only [ho, resolve, invoke, builtin, Sem.run_bind, Sem.run_pure, Result.andThen_ok, List.map_toArray, List.map_cons, List.map_nil, hs, hx, hrun, Oper.upon]
  exact hK v' w' r1 r2 r3
theorem PRow.cells {q : Option Addr} {n c : Nat} (h : PRow K base X w (.slice q n c) xs) : n = xs.length ∧ xs.length ≤ c ∧ (0 < xs.length → ∃ g, q = some ⟨g, 0, none⟩ ∧ base ≤ g ∧ g < w.heap.size ∧ ¬ X g ∧ ∃ cs, CellsK K (fun b => base ≤ b ∧ b < w.heap.size ∧ b ≠ g ∧ ¬ X b) w xs cs ∧ ∀ j u, cs[j]? = some u → w.cell? ⟨g, j, none⟩ = some u) := by
  obtain ⟨cs, h1, h2, h3⟩ := h
  rcases h1.2 with ⟨hv, hn⟩ | ⟨g, cap, cur, hv, h0, hg, hcap, _, hcz, htk⟩
  · simp only [Value.slice.injEq] at hv
    obtain ⟨rfl, rfl, rfl⟩ := hv
    exact ⟨hn.symm, by omega, fun h => by omega⟩
  · simp only [Value.slice.injEq] at hv
    obtain ⟨rfl, rfl, rfl⟩ := hv
    have hgl := (Array.getElem?_eq_some_iff.1 hg).1
    refine ⟨rfl, hcap, fun _ => ⟨g, rfl, h0, hgl, h3 g rfl, cs, h2.imp fun b hb => ⟨hb.1, hb.2.1, fun e => hb.2.2.1 (by rw [e]; rfl), hb.2.2.2⟩, fun j u hj => ?_⟩⟩
    have hjl : j < cs.length := (List.getElem?_eq_some_iff.1 hj).1
    rw [cell_of_row w g _ cur _ (0, 0) hg, ← Array.getElem?_toList]
    rw [← htk, List.getElem?_take, if_pos (by rw [h1.1] at hjl; exact hjl)] at hj
    exact hj

/-! ### expressions -/
def rdEx (P : Nat → Prop) (w : World) (e : Ex) (cs : List Value) : Prop := ∃ v0 v1 v2 v3, cs = [v0, v1, v2, v3] ∧ RdE P w e (.agg #[v0, v1, v2, v3])
def kdEx : Kd Ex where
  sty := 44
  ty := 46
  z := .agg #[.int .i64 0, .string ByteArray.empty, .string ByteArray.empty, .slice none 0 0]
  size := 4
  bytes := 64
  und := Tryz.underlying44
  info := info_parts Tryz.infoEx
  zs := rfl
  pos := by decide
  small := by decide
  rd := rdEx
  len := fun ⟨_, _, _, _, h, _⟩ => by rw [h]; rfl
  ones := fun {P w x cs} ⟨v0, v1, v2, v3, h, h1⟩ u hu => by
    obtain ⟨q, c, h2, _⟩ := h1.form
    unfold exv at h2
    simp only [Value.agg.injEq, Array.mk.injEq, List.cons.injEq, and_true] at h2
    obtain ⟨rfl, rfl, rfl, rfl⟩ := h2
    rw [h] at hu
    simp only [List.mem_cons, List.not_mem_nil, or_false] at hu
    rcases hu with rfl | rfl | rfl | rfl <;> rfl
  keep := fun hk ⟨v0, v1, v2, v3, h, h1⟩ => ⟨v0, v1, v2, v3, h, h1.keep hk⟩
  imp := fun hi ⟨v0, v1, v2, v3, h, h1⟩ => ⟨v0, v1, v2, v3, h, h1.imp hi⟩
theorem rdL_of {P : Nat → Prop} {w : World} {b : Nat} : ∀ {ks : List Ex} {cs : List Value} {o : Nat}, CellsK kdEx P w ks cs → (∀ j u, cs[j]? = some u → w.cell? ⟨b, o + j, none⟩ = some u) → RdL P w ks b o
  | [], _, _, _, _ => by unfold RdL; trivial
  | e :: r, _, o, ⟨a, d, rfl, ⟨v0, v1, v2, v3, h, h1⟩, h2⟩, hc => by
    subst h
    unfold RdL
    refine ⟨⟨v0, v1, v2, v3, hc 0 v0 rfl, hc 1 v1 rfl, hc 2 v2 rfl, hc 3 v3 rfl, h1⟩, rdL_of h2 fun j u hj => ?_⟩
    rw [show o + 4 + j = o + (j + 4) by omega]
    exact hc (j + 4) u hj
theorem PRow.rdE {q : Option Addr} {n c : Nat} {ks : List Ex} (h : PRow kdEx base X w (.slice q n c) ks) (k : Int) (via nm : List UInt8) : RdE (Bt base w.heap.size) w (.mk k via nm ks) (.agg #[.int .i64 k, .string (bstr via), .string (bstr nm), .slice q n c]) := by
  obtain ⟨rfl, hc, hk⟩ := h.cells
  unfold RdE
  refine ⟨q, c, rfl, hc, fun h0 => ?_⟩
  obtain ⟨g, rfl, h1, h2, _, cs, h3, h4⟩ := hk h0
  refine ⟨g, 0, rfl, ⟨h1, h2⟩, (rdL_of h3 fun j u hj => ?_).imp fun b hb => ⟨hb.1, hb.2.1⟩⟩
  rw [Nat.zero_add]
  exact h4 j u hj
theorem groupW_some (ts : List Tok) (U : PS → PR Ex) (s : PS) : groupW ts (some U) s = (U ⟨s.i + 1, s.o + 1, s.l⟩).then fun e s1 => (wantF ts [41] s1).then fun _ s2 => .ok e ⟨s2.i, s2.o - 1, s2.l⟩ := rfl
section
variable {W : World} {pb tb c : Nat} {ts : List Tok} {s : PS}
set_option maxRecDepth 100000 in
set_option maxHeartbeats 2000000 in
theorem group_many (h : PP W pb tb c ts s) (hi : s.i < ts.length) (ho : ¬ s.o < 14) : Calls Tryz.prog 134 #[.pointer (some ⟨pb, 0, none⟩)] W (QR pb tb c ts W (groupW ts none s) (VE W.heap.size)) := by
 have hb0 : Below W.heap.size W (W.alloc (.cells #[.int .i64 0, .string ⟨#[]⟩, .string ⟨#[]⟩, .slice none 0 0] 46)) := (Below.refl _ _).alloc (Nat.le_refl _) _
 have HP0 := hiD (h.later hb0)
 have HK0 := hiD (Kp.of (pb := pb) hb0)
 have HH := hiD hi
 have hlt1 : ¬ (s.o : Int) < 14 := by omega
 have a2 := HP0.out.1.cell 2
 simp only [List.getElem?_cons_zero, List.getElem?_cons_succ] at a2
 clear h hi hb0 ho
 go_enter Tryz.func134, Tryz.ntmps134
 go_wp2_with fail
 refine (need_f HP0.out HH.out 7).mono ?_
 rintro r w4 ⟨rfl, b4⟩
 have HK5 := hiD (HK0.out.trans (Kp.of (pb := pb) b4))
 clear b4
 go_wp2_with fail
 exact ⟨rfl, .inr ⟨7, s.i, rfl, rfl, HK5.out⟩⟩
set_option maxRecDepth 100000 in
set_option maxHeartbeats 2000000 in
theorem group_any {U : PS → PR Ex} (ho : OkTs ts) (h : PP W pb tb c ts s) (hi : s.i < ts.length) (ht : txt ts s.i = [40]) (hso : s.o < 14) (hk : Keeps ts U) (HU : ∀ W', PP W' pb tb c ts ⟨s.i + 1, s.o + 1, s.l⟩ → Calls Tryz.prog 117 #[.pointer (some ⟨pb, 0, none⟩)] W' (QR pb tb c ts W' (U ⟨s.i + 1, s.o + 1, s.l⟩) (VE W'.heap.size))) : Calls Tryz.prog 134 #[.pointer (some ⟨pb, 0, none⟩)] W (QR pb tb c ts W (groupW ts (some U) s) (VE W.heap.size)) := by
 have hb0 : Below W.heap.size W (W.alloc (.cells #[.int .i64 0, .string ⟨#[]⟩, .string ⟨#[]⟩, .slice none 0 0] 46)) := (Below.refl _ _).alloc (Nat.le_refl _) _
 have HP0 := hiD (h.later hb0)
 have HK0 := hiD (Kp.of (pb := pb) hb0)
 have HA0 : Hid (Arr (W.alloc (.cells #[.int .i64 0, .string ⟨#[]⟩, .string ⟨#[]⟩, .slice none 0 0] 46)) 46 W.heap.size [.int .i64 0, .string ⟨#[]⟩, .string ⟨#[]⟩, .slice none 0 0]) := Arr.new' _ _ _ _ rfl
 have HLT : Hid (pb < W.heap.size) := h.1.lt
 have HH := hiD hi
 have HO := hiD ho
 have HU := hiD HU
 have HKP := hiD hk
 have hlt1 : (s.o : Int) < 14 := by omega
 have hz0 : (0 : Int) ≤ s.o := by omega
 have a2 := HP0.out.1.cell 2
 have f2 := HP0.out.1.free 2
 simp only [List.getElem?_cons_zero, List.getElem?_cons_succ] at a2
 have HP1 : Hid (PP ((W.alloc (.cells #[.int .i64 0, .string ⟨#[]⟩, .string ⟨#[]⟩, .slice none 0 0] 46)).setCell ⟨pb, 2, none⟩ (.int .i64 ((s.o : Int) + 1))) pb tb c ts ⟨s.i, s.o + 1, s.l⟩) := HP0.out.set (by simp)
 have HK1 := hiD (HK0.out.set 2 (.int .i64 ((s.o : Int) + 1)))
 have HA1 : Hid (Arr ((W.alloc (.cells #[.int .i64 0, .string ⟨#[]⟩, .string ⟨#[]⟩, .slice none 0 0] 46)).setCell ⟨pb, 2, none⟩ (.int .i64 ((s.o : Int) + 1))) 46 W.heap.size [.int .i64 0, .string ⟨#[]⟩, .string ⟨#[]⟩, .slice none 0 0]) := HA0.out.setCell (by have := HLT.out; simp only [ne_eq]; omega) _
 have HWA := hiD (want_any HP1.out HH.out ⟨#[40]⟩ [40] rfl)
 have hwf : wantF ts [40] ⟨s.i, s.o + 1, s.l⟩ = .ok () ⟨s.i + 1, s.o + 1, s.l⟩ := if_pos ht
 rw [hwf] at HWA
 have HS1 : Hid (s.i + 1 < ts.length) := ho.step (by rw [ht]; simp)
 clear h hi hb0 hso ht ho hk hwf
 go_enter Tryz.func134, Tryz.ntmps134
 go_wp2_with fail
 refine (need_t 7).mono ?_
 rintro r w3 ⟨rfl, rfl⟩
 go_wp2_with fail
 refine HWA.out.mono ?_
 rintro r w4 (⟨x, s4, v, e4, rfl, _, p4, k4⟩ | ⟨k, i, e4, _⟩)
 ·cases e4
  have HP4 := hiD p4
  have HK4 := hiD (HK1.out.trans k4)
  have HA4 := hiD (k4.arr HA1.out (by have := HLT.out; omega))
  have HUC := hiD (HU.out w4 HP4.out)
  clear p4 k4 HWA HP0 HK0 HA0 a2 f2
  go_wp2_with fail
  refine HUC.out.mono ?_
  rintro r w5 (⟨e, s5, v, e5, rfl, r5, p5, k5⟩ | ⟨k, i, e5, rfl, k5⟩)
  ·obtain ⟨i5, o5, l5⟩ := s5
   obtain ⟨h5, hoo, _⟩ := HKP.out _ _ _ HS1.out e5
   obtain rfl : o5 = s.o + 1 := hoo
   obtain ⟨mk, mv, mn, ms⟩ := e
   have HR5 : Hid (VE w4.heap.size (.mk mk mv mn ms) w5 v) := r5
   obtain ⟨q4, c4, rfl, _, _⟩ := RdE.form r5
   unfold exv at HR5 ⊢
   dsimp only [Ex.kind, Ex.via, Ex.nm, Ex.kids] at HR5 ⊢
   have HB6 : Hid (Below w5.heap.size w5 (w5.alloc (.cells #[.int .i64 mk, .string (bstr mv), .string (bstr mn), .slice q4 ms.length c4] 46))) := (Below.refl _ _).alloc (Nat.le_refl _) _
   have HP6 := hiD (p5.later HB6.out)
   have HK6 := hiD ((HK4.out.trans k5).trans (Kp.of (pb := pb) HB6.out))
   have HA6 := hiD ((k5.arr HA4.out (by have := HLT.out; omega)).later HB6.out)
   have HR6 := hiD (HR5.out.later HB6.out)
   have HE6 : Hid (Arr (w5.alloc (.cells #[.int .i64 mk, .string (bstr mv), .string (bstr mn), .slice q4 ms.length c4] 46)) 46 w5.heap.size [.int .i64 mk, .string (bstr mv), .string (bstr mn), .slice q4 ms.length c4]) := Arr.new' _ _ _ _ rfl
   have HH5 : Hid (i5 < ts.length) := h5
   have HWB := hiD (want_any HP6.out HH5.out ⟨#[41]⟩ [41] rfl)
   have HLE : Hid (W.heap.size < w4.heap.size ∧ w4.heap.size ≤ w5.heap.size) := ⟨HA4.out.lt, k5.2.2.2.1⟩
   have HE5 := hiD e5
   clear e5 r5 p5 k5 HUC h5 HU HR5
   go_wp2_with fail
   refine HWB.out.mono ?_
   rintro r w7 (⟨x, s7, v, e7, rfl, _, p7, k7⟩ | ⟨k, i, e7, rfl, k7⟩)
   ·obtain rfl := want_some e7
    have HP7 : Hid (PP w7 pb tb c ts ⟨i5 + 1, s.o + 1, l5⟩) := p7
    have HK7 := hiD (HK6.out.trans k7)
    have HA7 := hiD (k7.arr HA6.out (by have := HLT.out; omega))
    have HE7 := hiD (k7.arr HE6.out (by have := HLT.out; have := HLE.out; omega))
    have HR7 := hiD (HR6.out.kp k7 (by have := HLT.out; have := HLE.out; omega))
    have a2 := HP7.out.1.cell 2
    have f2 := HP7.out.1.free 2
    simp only [List.getElem?_cons_zero, List.getElem?_cons_succ] at a2
    have a2 : w7.cell? ⟨pb, 2, none⟩ = some (.int .i64 ((s.o : Int) + 1)) := by rw [a2]; simp
    have hss : (s.o : Int) + 1 - 1 = s.o := by omega
    have HP8 : Hid (PP (w7.setCell ⟨pb, 2, none⟩ (.int .i64 (s.o : Int))) pb tb c ts ⟨i5 + 1, s.o, l5⟩) := HP7.out.set (by simp)
    have HK8 := hiD (HK7.out.set 2 (.int .i64 (s.o : Int)))
    have HA8 : Hid (Arr (w7.setCell ⟨pb, 2, none⟩ (.int .i64 (s.o : Int))) 46 W.heap.size [.int .i64 0, .string ⟨#[]⟩, .string ⟨#[]⟩, .slice none 0 0]) := HA7.out.setCell (by have := HLT.out; simp only [ne_eq]; omega) _
    have HE8 : Hid (Arr (w7.setCell ⟨pb, 2, none⟩ (.int .i64 (s.o : Int))) 46 w5.heap.size [.int .i64 mk, .string (bstr mv), .string (bstr mn), .slice q4 ms.length c4]) := HE7.out.setCell (by have := HLT.out; have := HLE.out; simp only [ne_eq]; omega) _
    have HR8 := hiD (HR7.out.kp ((Kp.of (pb := pb) (Below.refl w7.heap.size w7)).set 2 (.int .i64 (s.o : Int))) (by have := HLT.out; have := HLE.out; omega))
    have HE2 : Hid (groupW ts (some U) s = .ok (.mk mk mv mn ms) ⟨i5 + 1, s.o, l5⟩) := by
     show _ = _
     rw [groupW_some]
     rw [HE5.out, PR.then_ok, e7, PR.then_ok]
     rfl
    clear e7 p7 k7 HWB
    go_upto_region 7 with (fail)
    clear a2 f2 hss
    generalize w7.setCell ⟨pb, 2, none⟩ (.int .i64 (s.o : Int)) = w8 at HP8 HK8 HA8 HE8 HR8 ⊢
    obtain ⟨x0, y0, x1, y1, x2, y2, x3, y3⟩ := HE8.out.all4
    obtain ⟨p0, q0, p1, q1, p2, q2, p3, q3⟩ := HA8.out.all4
    go_wp2_with fail
    have hk := kp_set4 w8 W.heap.size (.int .i64 mk) (.string (bstr mv)) (.string (bstr mn)) (.slice q4 ms.length c4)
    have hA := HA8.out.set4 (.int .i64 mk) (.string (bstr mv)) (.string (bstr mn)) (.slice q4 ms.length c4)
    exact bodyPost_ret (resE rfl hA rfl) rfl (.inl ⟨_, _, _, HE2.out, rfl, ((HR8.out.kp hk HLE.out.1).low (Nat.le_of_lt HLE.out.1)), HP8.out.kp hk HLT.out HK8.out.2.2.2.1, HK8.out.andThen hk (Nat.le_refl _)⟩)
   ·have HK7 := hiD (HK6.out.trans k7)
    have HE2 : Hid (groupW ts (some U) s = .bad k i) := by
     show _ = _
     rw [groupW_some]
     rw [HE5.out, PR.then_ok, e7]; rfl
    clear e7 k7 HWB
    go_wp2_with fail
    exact ⟨rfl, .inr ⟨k, i, HE2.out, rfl, HK7.out⟩⟩
  ·have HK5 := hiD (HK4.out.trans k5)
   have HE2 : Hid (groupW ts (some U) s = .bad k i) := by
    show _ = _
    rw [groupW_some]
    rw [e5]; rfl
   clear e5 k5 HUC
   go_wp2_with fail
   exact ⟨rfl, .inr ⟨k, i, HE2.out, rfl, HK5.out⟩⟩
 ·cases e4
end
end Go.Proofs.YtkildckeikedhaaGreatDoor
