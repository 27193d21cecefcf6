/- The contract of the program's wordKeeping, whatever the closure; the model's l01Delete. -/
import Derived.Test.YtacfiljclklkdaaSmall
import Derived.Test.YtacfiljclklkdaaConcat
namespace Go.Proofs.Ytacfiljclklkdaa
open Go.RowKit
set_option linter.unusedVariables false
set_option linter.unusedSimpArgs false
set_option maxRecDepth 100000

theorem filter_next (f : Int → Bool) (xs : List Int) (k : Nat) (h : k < xs.length) :
    (f (xs[k]?.getD 0) = true → (xs.take (k + 1)).filter f = (xs.take k).filter f ++ [xs[k]?.getD 0]) ∧ (f (xs[k]?.getD 0) = false → (xs.take (k + 1)).filter f = (xs.take k).filter f) := by
  rw [take_next xs k h, List.filter_append]
  exact ⟨fun e => by simp [e], fun e => by simp [e]⟩
theorem wf_filter {xs : List Int} (f : Int → Bool) (h : Wf xs) : Wf (xs.filter f) := fun y hy => h y (List.mem_filter.1 hy).1

end Go.Proofs.Ytacfiljclklkdaa
