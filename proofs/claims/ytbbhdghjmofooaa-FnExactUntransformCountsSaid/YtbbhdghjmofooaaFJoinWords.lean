/- JoinWords: the program's and the model's contract. -/
import Derived.Test.YtbbhdghjmofooaaSmall
import Derived.Test.YtbbhdghjmofooaaConcat
import Derived.Test.YtbbhdghjmofooaaRotate
import Derived.StillTailTactics
import Derived.Laws.CopyOwn
namespace Go.Proofs.Ytbbhdghjmofooaa
open Go.RowKit
set_option linter.unusedVariables false
set_option linter.unusedSimpArgs false
set_option maxRecDepth 100000

def joined (xs ys : List Int) : List Int := xs ++ ys.map fun y => y + (xs.length : Int) / 2
theorem joined_length (xs ys : List Int) : (joined xs ys).length = xs.length + ys.length := by simp [joined]
/-- the first list, and of the second one the first k numbers raised -/
def joinTo (xs ys : List Int) (k : Nat) : List Int := xs ++ ((ys.take k).map fun y => y + (xs.length : Int) / 2) ++ ys.drop k
theorem joinTo_length (xs ys : List Int) (k : Nat) (h : k ≤ ys.length) : (joinTo xs ys k).length = xs.length + ys.length := by
  simp [joinTo]; omega
theorem joinTo_end (xs ys : List Int) : joinTo xs ys ys.length = joined xs ys := by simp [joinTo, joined]
theorem joinTo_zero (xs ys : List Int) : joinTo xs ys 0 = xs ++ ys := by simp [joinTo]
theorem joinTo_at (xs ys : List Int) (k : Nat) (h : k < ys.length) : (joinTo xs ys k)[xs.length + k]? = some (ys[k]?.getD 0) := by
  unfold joinTo
  rw [List.getElem?_append_right (by simp; omega)]
  simp [List.getElem?_eq_getElem h, show min k ys.length = k from by omega]
theorem joinTo_step (xs ys : List Int) (k : Nat) (h : k < ys.length) :
    (ints (joinTo xs ys k)).set (xs.length + k) (.int .i64 (ys[k]?.getD 0 + (xs.length : Int) / 2)) = ints (joinTo xs ys (k + 1)) := by
  unfold joinTo
  rw [take_next ys k h, List.drop_eq_getElem_cons h]
  simp only [ints, List.map_append, List.map_cons, List.map_nil, List.append_assoc]
  rw [List.set_append_right _ _ (by simp), List.set_append_right _ _ (by simp; omega)]
  simp [show min k ys.length = k from by omega]

end Go.Proofs.Ytbbhdghjmofooaa
