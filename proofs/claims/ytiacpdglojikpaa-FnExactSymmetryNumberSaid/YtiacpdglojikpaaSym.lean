/- How many rotations of a word are the word. -/
import Derived.Test.YtiacpdglojikpaaWrap
import Derived.Test.YtiacpdglojikpaaFRotateWord
namespace Go.Proofs.Ytiacpdglojikpaa
open Go.RowKit
set_option linter.unusedVariables false
set_option linter.unusedSimpArgs false
set_option maxRecDepth 100000

def symTo (xs : List Int) : Nat → Int
  | 0 => 0
  | k + 1 => if rot xs k = xs then symTo xs k + 1 else symTo xs k
theorem symTo_bd (xs : List Int) (k : Nat) : 0 ≤ symTo xs k ∧ symTo xs k ≤ k := by
  induction k with
  | zero => simp [symTo]
  | succ k ih => unfold symTo; split <;> omega
def symCount (xs : List Int) : Int := if xs.length = 0 then 1 else symTo xs xs.length
theorem symCount_zero {xs : List Int} (h : xs.length = 0) : symCount xs = 1 := by unfold symCount; rw [if_pos h]
theorem symCount_some {xs : List Int} (h : xs.length ≠ 0) : symCount xs = symTo xs xs.length := by unfold symCount; rw [if_neg h]
end Go.Proofs.Ytiacpdglojikpaa
