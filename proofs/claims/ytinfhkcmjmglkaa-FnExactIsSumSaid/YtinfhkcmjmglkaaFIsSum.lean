/- IsSum: the contracts of the model's and of the program's function. -/
import Derived.Test.YtinfhkcmjmglkaaSumIs
namespace Go.Proofs.Ytinfhkcmjmglkaa
open Go.RowKit
set_option linter.unusedVariables false
set_option linter.unusedSimpArgs false
set_option maxRecDepth 100000

theorem specIsSum_any (p : Int) (A : Option Addr) (n c : Nat) (ts : Tms) (w : World) (hr : RdT w A n ts) (hwf : WfT ts) (hN : need ts ≤ 1048576) (hp : -9223372036854775808 ≤ p ∧ p ≤ 9223372036854775807) :
    Told 75 #[.agg #[.int .i64 p, .slice A n c]] w (.bool (isSum p ts)) := by
  unfold Told
  have HR := Lib.hid (hr.below (below_alloc w (.cells #[.int .i64 p, .slice A n c] 55)))
  have HWF := Lib.hid hwf
  clear hr hwf
  go_enter Try.func75, Try.ntmps75
  go_wp2_with fail
  refine (l03Is_any _ _ _ _ ts _ HR.out HWF.out hN hp).mono ?_
  rintro e w1 ⟨rfl, hb1⟩
  go_wp2_with fail
  go_ret
  exact ⟨rfl, (below_alloc _ _).trans (hb1.mono (by simp))⟩
theorem implIsSum_any (p : Int) (A : Option Addr) (n c : Nat) (ts : Tms) (w : World) (hr : RdT w A n ts) (hwf : WfT ts) (hN : need ts ≤ 1048576) (hp : -9223372036854775808 ≤ p ∧ p ≤ 9223372036854775807) :
    Told 77 #[.agg #[.int .i64 p, .slice A n c]] w (.bool (isSum p ts)) := isSumI_any p A n c ts w hr hwf hN hp
end Go.Proofs.Ytinfhkcmjmglkaa
