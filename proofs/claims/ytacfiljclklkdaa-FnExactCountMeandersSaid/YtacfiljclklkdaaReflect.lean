/- The contracts of slices.Clone, slices.Reverse and of both reflections. -/
import Derived.Test.YtacfiljclklkdaaRotate
import Derived.WalkSpells
import Derived.RegionTactic
import Derived.BigRegion
namespace Go.Proofs.Ytacfiljclklkdaa
open Go.RowKit
set_option linter.unusedVariables false
set_option linter.unusedSimpArgs false
set_option maxRecDepth 100000

theorem clone_any (A : Option Addr) (n c : Nat) (xs : List Int) (w : World) (hr : Rd w A n xs) (hn : n ≤ 16777216) :
    Calls Try.prog 148 #[.slice A n c] w fun e w' => ∃ v, e = .returned v ∧ Own w' w.heap.size v xs ∧ Below w.heap.size w w' := by
  rcases A with _ | a
  · have hn0 : n = 0 := by
      rcases Nat.eq_zero_or_pos n with h | h
      · exact h
      · obtain ⟨a, e, _⟩ := hr.2 h; cases e
    subst hn0
    obtain rfl : xs = [] := List.eq_nil_of_length_eq_zero hr.1
    clear hr
    have hnil : ∀ W : World, (binOp .eql 22 (.slice none 0 c) (.slice none 0 0)).run Try.prog W = .ok (.bool true) W := fun W => by rw [Lib.run_eql_slice_nil W _ _ _ _ _ _ _ Try.underlying22]; rfl
    go_enter Try.func148, Try.ntmps148
    go_wp2
    go_ret
    exact ⟨_, rfl, Own.nil_ _ _, Below.refl _ _⟩
  · have HR := Lib.hid (hr.below (below_alloc w (.cells #[] 2)))
    have HO : Hid (Own (w.alloc (.cells #[] 2)) w.heap.size (.slice (some ⟨w.heap.size, 0, none⟩) 0 0) []) := Lib.hid (World.ownsRow_lit w #[] 0 (Nat.le_refl _) (by decide) rfl)
    clear hr
    have hnil : ∀ W : World, (binOp .eql 22 (.slice (some a) n c) (.slice none 0 0)).run Try.prog W = .ok (.bool false) W := fun W => by rw [Lib.run_eql_slice_nil W _ _ _ _ _ _ _ Try.underlying22]; rfl
    go_enter Try.func148, Try.ntmps148
    go_wp2_with (at_builtin; refine append_rd _ rfl (.tmp 5) (.tmp 6) rfl w.heap.size (.slice (some ⟨w.heap.size, 0, none⟩) 0 0) [] xs rfl HO.out (some a) n c rfl HR.out (by simp; omega) (by simp) ?_; intro v1 w1 ho1 hg1 hat1)
    go_ret
    exact ⟨_, rfl, by simpa using ho1, ((Below.refl _ _).alloc (Nat.le_refl _) _).grown hg1 (by simp) (by simp [Value.ownBlock])⟩

def revTo (xs : List Int) (k : Nat) : List Int := (List.range xs.length).map fun j => if j < k ∨ xs.length - k ≤ j then xs.getD (xs.length - 1 - j) 0 else xs.getD j 0
@[simp] theorem revTo_length (xs : List Int) (k : Nat) : (revTo xs k).length = xs.length := by simp [revTo]
theorem revTo_get (xs : List Int) (k j : Nat) (hj : j < xs.length) : (revTo xs k)[j]? = some (if j < k ∨ xs.length - k ≤ j then xs.getD (xs.length - 1 - j) 0 else xs.getD j 0) := by
  simp [revTo, hj]
theorem revTo_zero (xs : List Int) : revTo xs 0 = xs := by
  apply List.ext_getElem?
  intro j
  by_cases hj : j < xs.length
  · rw [revTo_get xs 0 j hj, if_neg (by omega), List.getElem?_eq_getElem hj]; simp [List.getD, List.getElem?_eq_getElem hj]
  · rw [List.getElem?_eq_none (by simp; omega), List.getElem?_eq_none (by omega)]
theorem revTo_end (xs : List Int) (k : Nat) (h : xs.length ≤ 2 * k + 1) : revTo xs k = xs.reverse := by
  apply List.ext_getElem?
  intro j
  by_cases hj : j < xs.length
  · rw [revTo_get xs k j hj, List.getElem?_reverse hj, List.getElem?_eq_getElem (show xs.length - 1 - j < xs.length by omega)]
    congr 1
    split
    · simp [List.getD, List.getElem?_eq_getElem (show xs.length - 1 - j < xs.length by omega)]
    · have e : xs.length - 1 - j = j := by omega
      simp [List.getD, List.getElem?_eq_getElem hj, e]
  · rw [List.getElem?_eq_none (by simp; omega), List.getElem?_eq_none (by simp; omega)]
theorem revTo_step (xs : List Int) (k : Nat) (h : k < xs.length - 1 - k) :
    ((ints (revTo xs k)).set k (.int .i64 (xs.getD (xs.length - 1 - k) 0))).set (xs.length - 1 - k) (.int .i64 (xs.getD k 0)) = ints (revTo xs (k + 1)) := by
  apply List.ext_getElem?
  intro j
  by_cases hj : j < xs.length
  · rw [ints_get?, revTo_get xs (k + 1) j hj]
    by_cases e1 : xs.length - 1 - k = j
    · subst e1
      rw [List.getElem?_set_self (by simp; omega)]
      rw [if_pos (by omega), show xs.length - 1 - (xs.length - 1 - k) = k from by omega]; rfl
    · rw [List.getElem?_set_ne e1]
      by_cases e2 : k = j
      · subst e2
        rw [List.getElem?_set_self (by simp; omega), if_pos (by omega)]; rfl
      · rw [List.getElem?_set_ne e2, ints_get?, revTo_get xs k j hj]
        by_cases h3 : j < k ∨ xs.length - k ≤ j
        · rw [if_pos h3, if_pos (by omega)]
        · rw [if_neg h3, if_neg (by omega)]
  · rw [List.getElem?_eq_none (by simp; omega), List.getElem?_eq_none (by simp; omega)]
theorem revTo_mid (xs : List Int) (k : Nat) (h : k < xs.length - 1 - k) : (revTo xs k)[k]? = some (xs.getD k 0) ∧ (revTo xs k)[xs.length - 1 - k]? = some (xs.getD (xs.length - 1 - k) 0) := by
  rw [revTo_get xs k k (by omega), revTo_get xs k _ (by omega), if_neg (by omega), if_neg (by omega)]
  exact ⟨rfl, rfl⟩


def refl (xs : List Int) : List Int := norm xs.reverse
theorem refl_length (xs : List Int) : (refl xs).length = xs.length := by unfold refl; rw [norm_length]; simp
theorem wf_reverse {xs : List Int} (h : Wf xs) : Wf xs.reverse := fun y hy => h y (by simpa using hy)
end Go.Proofs.Ytacfiljclklkdaa
