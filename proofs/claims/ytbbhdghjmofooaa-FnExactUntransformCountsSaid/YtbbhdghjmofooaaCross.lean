/- The contract of the program's doCross. -/
import Derived.Test.YtbbhdghjmofooaaPlaces
namespace Go.Proofs.Ytbbhdghjmofooaa
open Go.RowKit
set_option linter.unusedVariables false
set_option linter.unusedSimpArgs false
set_option maxRecDepth 100000

end Go.Proofs.Ytbbhdghjmofooaa
