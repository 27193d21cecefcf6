/- RotateWord: the program's and the model's contract. -/
import Derived.Test.YtbfliocnfdpnnaaRotate
namespace Go.Proofs.Ytbfliocnfdpnnaa
open Go.RowKit
set_option linter.unusedVariables false
set_option linter.unusedSimpArgs false
set_option maxRecDepth 100000

def rotateWord (xs : List Int) (k : Int) : List Int × Int :=
  if codeOf xs k xs.length = 0 then (rot xs k.toNat, 0) else ([], codeOf xs k xs.length)
theorem rot_length (xs : List Int) (k : Nat) : (rot xs k).length = xs.length := by
  unfold rot; rw [norm_length]; simp; omega
theorem rotateWord_len (xs : List Int) (k : Int) (h : xs.length ≤ 1048576) : (rotateWord xs k).1.length ≤ 1048576 := by
  unfold rotateWord; split
  · rw [rot_length]; exact h
  · simp
theorem wf_perm {xs ys : List Int} (h : Wf xs) (hs : ∀ y ∈ ys, y ∈ xs) : Wf ys := fun y hy => h y (hs y hy)
theorem doubled (xs : List Int) (n k : Nat) (hl : xs.length = n) (hk : k ≤ n) : ((xs ++ xs).drop k).take n = xs.drop k ++ xs.take k := by
  rw [List.drop_append_of_le_length (by omega), List.take_append, List.take_of_length_le (by rw [List.length_drop]; omega), List.length_drop, hl]
  congr 2; omega

end Go.Proofs.Ytbfliocnfdpnnaa
