/- A frame in which no block turns. -/
import Derived.Test.YtacfiljclklkdaaRows3
import Derived.Deep.RegionHeld3
import Derived.Deep.Cut
namespace Go.Proofs.Ytacfiljclklkdaa
open Go.RowKit
set_option linter.unusedVariables false
theorem below_of_frz {w w' : World} (h : Fr 0 0 w w') : Below w.heap.size w w' := ⟨h.os, h.tape, h.output, h.size, fun k hk => h.block k hk (by omega)⟩
theorem frz_drew (w : World) : Fr 0 0 w w.drew := ⟨rfl, rfl, rfl, Nat.le_refl _, fun _ _ _ => rfl⟩
theorem frz_refl (w : World) : Fr 0 0 w w := ⟨rfl, rfl, rfl, Nat.le_refl _, fun _ _ _ => rfl⟩
theorem frz_trans {a b c : World} (h : Fr 0 0 a b) (h2 : Fr 0 0 b c) : Fr 0 0 a c :=
  fr_of_below ((below_of_frz h).trans ((below_of_frz h2).mono h.size))
end Go.Proofs.Ytacfiljclklkdaa
