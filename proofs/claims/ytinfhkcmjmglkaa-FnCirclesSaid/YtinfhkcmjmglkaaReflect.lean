/- The contracts of slices.Clone, slices.Reverse and of both reflections. -/
import Derived.Test.YtinfhkcmjmglkaaRotate
import Derived.WalkSpells
import Derived.RegionTactic
import Derived.BigRegion
namespace Go.Proofs.Ytinfhkcmjmglkaa
open Go.RowKit
set_option linter.unusedVariables false
set_option linter.unusedSimpArgs false
set_option maxRecDepth 100000

def revTo (xs : List Int) (k : Nat) : List Int := (List.range xs.length).map fun j => if j < k ∨ xs.length - k ≤ j then xs.getD (xs.length - 1 - j) 0 else xs.getD j 0
@[simp] theorem revTo_length (xs : List Int) (k : Nat) : (revTo xs k).length = xs.length := by simp [revTo]
theorem revTo_get (xs : List Int) (k j : Nat) (hj : j < xs.length) : (revTo xs k)[j]? = some (if j < k ∨ xs.length - k ≤ j then xs.getD (xs.length - 1 - j) 0 else xs.getD j 0) := by
  simp [revTo, hj]
theorem revTo_zero (xs : List Int) : revTo xs 0 = xs := by
  apply List.ext_getElem?
  intro j
  by_cases hj : j < xs.length
  · rw [revTo_get xs 0 j hj, if_neg (by omega), List.getElem?_eq_getElem hj]; simp [List.getD, List.getElem?_eq_getElem hj]
  · rw [List.getElem?_eq_none (by simp; omega), List.getElem?_eq_none (by omega)]
theorem revTo_end (xs : List Int) (k : Nat) (h : xs.length ≤ 2 * k + 1) : revTo xs k = xs.reverse := by
  apply List.ext_getElem?
  intro j
  by_cases hj : j < xs.length
  · rw [revTo_get xs k j hj, List.getElem?_reverse hj, List.getElem?_eq_getElem (show xs.length - 1 - j < xs.length by omega)]
    congr 1
    split
    · simp [List.getD, List.getElem?_eq_getElem (show xs.length - 1 - j < xs.length by omega)]
    · have e : xs.length - 1 - j = j := by omega
      simp [List.getD, List.getElem?_eq_getElem hj, e]
  · rw [List.getElem?_eq_none (by simp; omega), List.getElem?_eq_none (by simp; omega)]
theorem revTo_step (xs : List Int) (k : Nat) (h : k < xs.length - 1 - k) :
    ((ints (revTo xs k)).set k (.int .i64 (xs.getD (xs.length - 1 - k) 0))).set (xs.length - 1 - k) (.int .i64 (xs.getD k 0)) = ints (revTo xs (k + 1)) := by
  apply List.ext_getElem?
  intro j
  by_cases hj : j < xs.length
  · rw [ints_get?, revTo_get xs (k + 1) j hj]
    by_cases e1 : xs.length - 1 - k = j
    · subst e1
      rw [List.getElem?_set_self (by simp; omega)]
      rw [if_pos (by omega), show xs.length - 1 - (xs.length - 1 - k) = k from by omega]; rfl
    · rw [List.getElem?_set_ne e1]
      by_cases e2 : k = j
      · subst e2
        rw [List.getElem?_set_self (by simp; omega), if_pos (by omega)]; rfl
      · rw [List.getElem?_set_ne e2, ints_get?, revTo_get xs k j hj]
        by_cases h3 : j < k ∨ xs.length - k ≤ j
        · rw [if_pos h3, if_pos (by omega)]
        · rw [if_neg h3, if_neg (by omega)]
  · rw [List.getElem?_eq_none (by simp; omega), List.getElem?_eq_none (by simp; omega)]
theorem revTo_mid (xs : List Int) (k : Nat) (h : k < xs.length - 1 - k) : (revTo xs k)[k]? = some (xs.getD k 0) ∧ (revTo xs k)[xs.length - 1 - k]? = some (xs.getD (xs.length - 1 - k) 0) := by
  rw [revTo_get xs k k (by omega), revTo_get xs k _ (by omega), if_neg (by omega), if_neg (by omega)]
  exact ⟨rfl, rfl⟩


def refl (xs : List Int) : List Int := norm xs.reverse
theorem refl_length (xs : List Int) : (refl xs).length = xs.length := by unfold refl; rw [norm_length]; simp
theorem wf_reverse {xs : List Int} (h : Wf xs) : Wf xs.reverse := fun y hy => h y (by simpa using hy)
end Go.Proofs.Ytinfhkcmjmglkaa
