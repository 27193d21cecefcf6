/- The contracts of the model's l01Own, l01Rotate. -/
import Derived.Test.YtbbhdghjmofooaaConcat
import Derived.Test.YtbbhdghjmofooaaSmall
import Derived.Test.YtbbhdghjmofooaaPlaces
import Derived.Deep.RegionWith
import Derived.Deep.RegionLaw
namespace Go.Proofs.Ytbbhdghjmofooaa
open Go.RowKit
set_option linter.unusedVariables false
set_option linter.unusedSimpArgs false
set_option maxRecDepth 100000

def rot (xs : List Int) (k : Nat) : List Int := norm (xs.drop k ++ xs.take k)
end Go.Proofs.Ytbbhdghjmofooaa
