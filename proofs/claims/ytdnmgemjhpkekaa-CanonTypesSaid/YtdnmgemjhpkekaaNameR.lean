/-
  vestryref08: small, digit, Reserved, Is, IsID.
-/
import Derived.Test.YtdnmgemjhpkekaaNameB
namespace Go.Proofs.Ytdnmgemjhpkekaa
open Go.ChangeShapes Go.WideShapes Go.ChangeAt Go.RowKit
set_option linter.unusedVariables false

theorem word_ne {s w : ByteArray} {l : List UInt8} (hw : w.data.toList = l) (h : ¬ s = w) : ¬ s.toList = l := by
  intro e
  rw [toList_data, ← hw] at e
  exact h (bytes_inj e)
theorem word_nb {s : ByteArray} {l : List UInt8} (h : ¬ s.toList = l) : (s.toList == l) = false := by rw [beq_eq_false_iff_ne]; exact h
theorem word_eq {s w : ByteArray} {l : List UInt8} (hw : w.data.toList = l) (h : s = w) : s.toList = l := by rw [h, toList_data, hw]
theorem word_eb {s : ByteArray} {l : List UInt8} (h : s.toList = l) : (s.toList == l) = true := by rw [h]; simp

theorem hasN (c : UInt8) : hasB false ⟨#[95]⟩ c = (smallB c || digitB c || decide (c.toNat = 95)) := by
  have h : ∀ n : Fin 256, (hasB false ⟨#[95]⟩ (UInt8.ofNat n.val) == (smallB (UInt8.ofNat n.val) || digitB (UInt8.ofNat n.val) || decide ((UInt8.ofNat n.val).toNat = 95))) = true := by decide +kernel
  have hc : UInt8.ofNat c.toNat = c := UInt8.ofNat_toNat
  have := h ⟨c.toNat, c.toNat_lt⟩
  simp only [hc] at this
  exact beq_iff_eq.1 this
theorem hasI (c : UInt8) : hasB true ⟨#[95, 45, 46, 47, 61]⟩ c = (smallB c || digitB c || decide ((65 ≤ c.toNat ∧ c.toNat ≤ 90) ∨ c.toNat = 95 ∨ c.toNat = 45 ∨ c.toNat = 46 ∨ c.toNat = 47 ∨ c.toNat = 61)) := by
  have h : ∀ n : Fin 256, (hasB true ⟨#[95, 45, 46, 47, 61]⟩ (UInt8.ofNat n.val) == (smallB (UInt8.ofNat n.val) || digitB (UInt8.ofNat n.val) || decide ((65 ≤ (UInt8.ofNat n.val).toNat ∧ (UInt8.ofNat n.val).toNat ≤ 90) ∨ (UInt8.ofNat n.val).toNat = 95 ∨ (UInt8.ofNat n.val).toNat = 45 ∨ (UInt8.ofNat n.val).toNat = 46 ∨ (UInt8.ofNat n.val).toNat = 47 ∨ (UInt8.ofNat n.val).toNat = 61))) = true := by decide +kernel
  have hc : UInt8.ofNat c.toNat = c := UInt8.ofNat_toNat
  have := h ⟨c.toNat, c.toNat_lt⟩
  simp only [hc] at this
  exact beq_iff_eq.1 this

theorem cons_f {cap : Bool} {signs s : ByteArray} {most k : Nat} (hk : k < s.size) (h : hasB cap signs s[k] = false) : consB cap signs most s.data.toList = false := by
  have hsl : s.data.toList.length = s.size := by rw [Array.length_toList]; rfl
  refine decide_eq_false (fun h' => ?_)
  have h1 := h'.2.2 s[k] (by
    have e : s[k] = s.data.toList[k]'(by omega) := rfl
    rw [e]; exact List.getElem_mem _)
  rw [h] at h1; cases h1
theorem cons_t {cap : Bool} {signs s : ByteArray} {most : Nat} (h1 : 1 ≤ s.size) (h2 : s.size ≤ most) (h : ∀ j, (hj : j < s.size) → hasB cap signs s[j] = true) : consB cap signs most s.data.toList = true := by
  have hsl : s.data.toList.length = s.size := by rw [Array.length_toList]; rfl
  refine decide_eq_true ⟨by omega, by omega, fun c hc => ?_⟩
  obtain ⟨j, hj, rfl⟩ := List.getElem_of_mem hc
  exact h j (by omega)

theorem isName_f1 {s : ByteArray} (h : consB false ⟨#[95]⟩ 64 s.data.toList = false) : isName s = false := by unfold isName; rw [h]; rfl
theorem isName_f2 {s : ByteArray} (h : smallB (s.data.toList.getD 0 0) = false) : isName s = false := by unfold isName; rw [h]; simp
theorem isName_f3 {s : ByteArray} (h : resB s = true) : isName s = false := by unfold isName; rw [h]; simp
theorem isName_t {s : ByteArray} (h1 : consB false ⟨#[95]⟩ 64 s.data.toList = true) (h2 : smallB (s.data.toList.getD 0 0) = true) (h3 : resB s = false) : isName s = true := by unfold isName; rw [h1, h2, h3]; rfl

/-- The place of the first byte c; the length where there is none. -/
def fnd (l : List UInt8) (c : UInt8) : Nat := l.findIdx (· == c)
end Go.Proofs.Ytdnmgemjhpkekaa
