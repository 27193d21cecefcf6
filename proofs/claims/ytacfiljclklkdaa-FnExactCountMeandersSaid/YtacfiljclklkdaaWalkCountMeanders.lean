/- The walk through the law CountMeanders. -/
import Derived.Test.YtacfiljclklkdaaMeanImpl
import Derived.Test.YtacfiljclklkdaaSeg
import Derived.Test.YtacfiljclklkdaaRow
namespace Go.Proofs.Ytacfiljclklkdaa
open Go.ChangeShapes Go.WideShapes Go.ChangeAt Go.RowKit
set_option linter.unusedVariables false
set_option linter.unusedSimpArgs false
set_option maxRecDepth 100000

set_option maxHeartbeats 4000000 in
theorem lawCountMeanders_any (k : Int) (w : World) (hik : -9223372036854775808 ≤ k ∧ k ≤ 9223372036854775807) :
    Calls Try.prog 13 #[.int .i64 k] w fun e w' => e = .returned (.bool true) ∧ Below w.heap.size w w' := by
  have HB : Hid (Below w.heap.size w w) := Lib.hid (Below.refl _ _)
  go_enter Try.func13, Try.ntmps13
  have hne0 : (((countMeanders k).1) != ((countMeanders k).1)) = false := by simp
  have hne1 : (((countMeanders k).2) != ((countMeanders k).2)) = false := by simp
  go_wp2_with fail
  refine ((specCountMeanders_any k _ hik).seg).mono ?_
  rintro e w1 ⟨rfl, hF1⟩
  have hz1 := hF1.size
  replace HB := Lib.hid (below_fr HB.out hF1 (by omega) (by omega))
  clear hF1
  go_wp2_with fail
  refine ((implCountMeanders_any k _ hik).seg).mono ?_
  rintro e w2 ⟨rfl, hF2⟩
  have hz2 := hF2.size
  replace HB := Lib.hid (below_fr HB.out hF2 (by omega) (by omega))
  clear hF2
  go_wp2_with fail
  go_ret
  exact ⟨rfl, HB.out⟩
end Go.Proofs.Ytacfiljclklkdaa
