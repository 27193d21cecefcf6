/- The contracts of the model's l01Own, l01Rotate. -/
import Derived.Test.YtacfiljclklkdaaConcat
import Derived.Test.YtacfiljclklkdaaSmall
import Derived.Test.YtacfiljclklkdaaPlaces
import Derived.Deep.RegionWith
import Derived.Deep.RegionLaw
namespace Go.Proofs.Ytacfiljclklkdaa
open Go.RowKit
set_option linter.unusedVariables false
set_option linter.unusedSimpArgs false
set_option maxRecDepth 100000

theorem own_any (A : Option Addr) (n c : Nat) (xs : List Int) (w : World) (hr : Rd w A n xs) (hn : n ≤ 16777216) :
    Calls Try.prog 46 #[.slice A n c] w fun e w' => ∃ v, e = .returned v ∧ Own w' w.heap.size v xs ∧ Below w.heap.size w w' := by
  have HR := Lib.hid (hr.below (below_alloc w (.cells #[] 2)))
  have HO : Hid (Own (w.alloc (.cells #[] 2)) w.heap.size (.slice (some ⟨w.heap.size, 0, none⟩) 0 0) []) := Lib.hid (World.ownsRow_lit w #[] 0 (Nat.le_refl _) (by decide) rfl)
  clear hr
  go_enter Try.func46, Try.ntmps46
  go_wp2_with (at_builtin; refine append_rd _ rfl (.tmp 3) (.tmp 4) rfl w.heap.size (.slice (some ⟨w.heap.size, 0, none⟩) 0 0) [] xs rfl HO.out A n c rfl HR.out (by simp; omega) (by simp) ?_; intro v1 w1 ho1 hg1 hat1)
  go_ret
  exact ⟨_, rfl, by simpa using ho1, ((Below.refl _ _).alloc (Nat.le_refl _) _).grown hg1 (by simp) (by simp [Value.ownBlock])⟩

def rot (xs : List Int) (k : Nat) : List Int := norm (xs.drop k ++ xs.take k)
end Go.Proofs.Ytacfiljclklkdaa
