/- Plain facts on blocks. -/
import Derived.Test.YtinfhkcmjmglkaaPure5
namespace Go.Proofs.Ytinfhkcmjmglkaa
set_option linter.unusedVariables false
set_option linter.unusedSimpArgs false
set_option maxRecDepth 100000

/-- the numbers from s on, below e -/
def segm (xs : List Int) (s e : Nat) : List Int := (xs.drop s).take (e - s)
theorem segm_len (xs : List Int) (s e : Nat) (h : e ≤ xs.length) : (segm xs s e).length = e - s := by simp [segm]; omega
theorem segm_mem (xs : List Int) (s e : Nat) (y : Int) (h : y ∈ segm xs s e) : y ∈ xs := List.mem_of_mem_drop (List.mem_of_mem_take h)
/-- the blocks among the first k numbers, and where the next one begins -/
def blkTo (xs : List Int) : Nat → List (List Int) × Nat
  | 0 => ([], 0)
  | k + 1 => if 2 * diff xs (k + 1) = k + 1 then ((blkTo xs k).1 ++ [norm (segm xs (blkTo xs k).2 (k + 1))], k + 1) else blkTo xs k
theorem blkTo_yes (xs : List Int) (k : Nat) (h : 2 * diff xs (k + 1) = k + 1) : blkTo xs (k + 1) = ((blkTo xs k).1 ++ [norm (segm xs (blkTo xs k).2 (k + 1))], k + 1) := by rw [blkTo, if_pos h]
theorem blkTo_no (xs : List Int) (k : Nat) (h : ¬ 2 * diff xs (k + 1) = k + 1) : blkTo xs (k + 1) = blkTo xs k := by rw [blkTo, if_neg h]
theorem blkTo_bd (xs : List Int) (k : Nat) : (blkTo xs k).2 ≤ k ∧ (blkTo xs k).1.length ≤ k := by
  induction k with
  | zero => simp [blkTo]
  | succ k ih =>
    unfold blkTo
    split
    · simp; omega
    · omega
theorem blkTo_rows (xs : List Int) (k : Nat) : ∀ r ∈ (blkTo xs k).1, r.length ≤ xs.length := by
  induction k with
  | zero => simp [blkTo]
  | succ k ih =>
    unfold blkTo
    split
    · intro r hr
      simp only [List.mem_append, List.mem_singleton] at hr
      rcases hr with hr | rfl
      · exact ih r hr
      · rw [norm_length]; simp [segm]; omega
    · exact ih
def blocks (xs : List Int) : List (List Int) := (blkTo xs xs.length).1
/-- the chords met among the first k numbers, as marks -/
def metMarks (xs : List Int) (n k : Nat) : List Bool := (List.range n).map fun j => decide (j < diff xs k)
@[simp] theorem metMarks_length (xs : List Int) (n k : Nat) : (metMarks xs n k).length = n := by simp [metMarks]
theorem metMarks_get (xs : List Int) (n k j : Nat) (h : j < n) : (metMarks xs n k)[j]? = some (decide (j < diff xs k)) := by simp [metMarks, h]
theorem metMarks_zero (xs : List Int) (n : Nat) : metMarks xs n 0 = List.replicate n false := by
  apply List.ext_getElem?
  intro j
  by_cases h : j < n
  · rw [metMarks_get _ _ _ _ h, diff_zero]; simp [h]
  · simp [metMarks, h]
theorem metMarks_same (xs : List Int) (n k : Nat) (h : diff xs (k + 1) = diff xs k) : metMarks xs n (k + 1) = metMarks xs n k := by unfold metMarks; rw [h]
theorem metMarks_new (xs : List Int) (n k : Nat) (h : diff xs (k + 1) = diff xs k + 1) : (metMarks xs n k).set (diff xs k) true = metMarks xs n (k + 1) := by
  apply List.ext_getElem?
  intro j
  by_cases hj : j < n
  · rw [List.getElem?_set, metMarks_get _ _ _ _ hj, metMarks_get _ _ _ _ hj, h]
    by_cases e : diff xs k = j
    · subst e; simp [hj]
    · rw [if_neg e]; congr 1; rw [decide_eq_decide]; omega
  · rw [List.getElem?_eq_none (by simp; omega), List.getElem?_eq_none (by simp; omega)]
end Go.Proofs.Ytinfhkcmjmglkaa
