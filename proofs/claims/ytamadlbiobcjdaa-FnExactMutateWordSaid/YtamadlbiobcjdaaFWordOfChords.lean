/- WordOfChords: the program's and the model's contract. -/
import Derived.Test.YtamadlbiobcjdaaKeep
import Derived.Test.YtamadlbiobcjdaaBorder
namespace Go.Proofs.Ytamadlbiobcjdaa
open Go.RowKit
set_option linter.unusedVariables false
set_option linter.unusedSimpArgs false
set_option maxRecDepth 100000

/-- the first k of a list are chords of m, ascending -/
def okTo (m : Nat) (ys : List Int) : Nat → Bool
  | 0 => true
  | k + 1 => okTo m ys k && (inB (ys[k]?.getD 0) 0 ((m : Int) - 1) && (decide (k = 0) || decide (ys[k - 1]?.getD 0 < ys[k]?.getD 0)))
theorem okTo_step (m : Nat) (ys : List Int) (k : Nat) (h : okTo m ys k = true) :
    (inB (ys[k]?.getD 0) 0 ((m : Int) - 1) = false → okTo m ys (k + 1) = false) ∧
    (inB (ys[k]?.getD 0) 0 ((m : Int) - 1) = true → k = 0 → okTo m ys (k + 1) = true) ∧
    (inB (ys[k]?.getD 0) 0 ((m : Int) - 1) = true → k ≠ 0 → ys[k]?.getD 0 ≤ ys[k - 1]?.getD 0 → okTo m ys (k + 1) = false) ∧
    (inB (ys[k]?.getD 0) 0 ((m : Int) - 1) = true → k ≠ 0 → ¬ ys[k]?.getD 0 ≤ ys[k - 1]?.getD 0 → okTo m ys (k + 1) = true) := by
  refine ⟨fun h1 => ?_, fun h1 h2 => ?_, fun h1 h2 h3 => ?_, fun h1 h2 h3 => ?_⟩
  · simp [okTo, h1]
  · subst h2; simp [okTo, h1]
  · simp [okTo, h1, h2]; intro _; omega
  · simp [okTo, h1, h2, h]; omega
theorem okTo_mono (m : Nat) (ys : List Int) (k : Nat) (h : okTo m ys k = false) : ∀ j, k ≤ j → okTo m ys j = false := by
  intro j hj
  induction j with
  | zero => obtain rfl : k = 0 := by omega
            exact h
  | succ j ih =>
    by_cases e : k = j + 1
    · subst e; exact h
    · simp [okTo, ih (by omega)]
def someOf (xs ys : List Int) : List Int := norm (xs.filter fun x => decide (x ∈ ys))
def wordOfChords (xs ys : List Int) : List Int × Int :=
  if isWord xs then (if okTo (xs.length / 2) ys ys.length then (someOf xs ys, 0) else ([], 2)) else ([], 1)
theorem wordOfChords_no {xs ys : List Int} (h : isWord xs = false) : wordOfChords xs ys = ([], 1) := by unfold wordOfChords; rw [h]; rfl
theorem wordOfChords_bad {xs ys : List Int} (h : isWord xs = true) (h2 : okTo (xs.length / 2) ys ys.length = false) : wordOfChords xs ys = ([], 2) := by unfold wordOfChords; rw [h, h2]; rfl
theorem wordOfChords_yes {xs ys : List Int} (h : isWord xs = true) (h2 : okTo (xs.length / 2) ys ys.length = true) : wordOfChords xs ys = (someOf xs ys, 0) := by unfold wordOfChords; rw [h, h2]; rfl
theorem someOf_len (xs ys : List Int) : (someOf xs ys).length ≤ xs.length := by unfold someOf; rw [norm_length]; exact List.length_filter_le _ _
theorem wordOfChords_len (xs ys : List Int) (h : xs.length ≤ 1048576) : (wordOfChords xs ys).1.length ≤ 1048576 := by
  unfold wordOfChords
  have := someOf_len xs ys
  split
  · split
    · simp only; omega
    · simp
  · simp
theorem in_yes (a b c : Int) (w : World) (h : inB a b c = true) : Calls Try.prog 51 #[.int .i64 a, .int .i64 b, .int .i64 c] w fun e w' => e = .returned (.bool true) ∧ w' = w :=
  (in_any a b c w).mono fun _ _ ⟨h1, h2⟩ => ⟨by rw [h1, h], h2.symm⟩
theorem in_not (a b c : Int) (w : World) (h : inB a b c = false) : Calls Try.prog 51 #[.int .i64 a, .int .i64 b, .int .i64 c] w fun e w' => e = .returned (.bool false) ∧ w' = w :=
  (in_any a b c w).mono fun _ _ ⟨h1, h2⟩ => ⟨by rw [h1, h], h2.symm⟩


/-- the marks of the first k chords of a list -/
def keepMarks (m : Nat) (ys : List Int) (k : Nat) : List Bool := (List.range m).map fun j : Nat => decide ((j : Int) ∈ ys.take k)
@[simp] theorem keepMarks_length (m : Nat) (ys : List Int) (k : Nat) : (keepMarks m ys k).length = m := by simp [keepMarks]
theorem keepMarks_get (m : Nat) (ys : List Int) (k j : Nat) (h : j < m) : (keepMarks m ys k)[j]? = some (decide ((j : Int) ∈ ys.take k)) := by simp [keepMarks, h]
theorem keepMarks_zero (m : Nat) (ys : List Int) : keepMarks m ys 0 = List.replicate m false := by
  apply List.ext_getElem?
  intro j
  by_cases h : j < m
  · rw [keepMarks_get _ _ _ _ h]; simp [h]
  · simp [keepMarks, h]
theorem keepMarks_step (m : Nat) (ys : List Int) (k j : Nat) (hk : k < ys.length) (hj : ys[k]?.getD 0 = (j : Int)) : (keepMarks m ys k).set j true = keepMarks m ys (k + 1) := by
  apply List.ext_getElem?
  intro i
  by_cases hi : i < m
  · rw [List.getElem?_set, keepMarks_get _ _ _ _ hi, keepMarks_get _ _ _ _ hi, take_next ys k hk, hj]
    by_cases e : j = i
    · subst e; simp [hi]
    · rw [if_neg e]
      congr 1
      rw [decide_eq_decide]
      simp only [List.mem_append, List.mem_singleton]
      constructor
      · exact Or.inl
      · rintro (h | h)
        · exact h
        · omega
  · rw [List.getElem?_eq_none (by simp; omega), List.getElem?_eq_none (by simp; omega)]


end Go.Proofs.Ytamadlbiobcjdaa
