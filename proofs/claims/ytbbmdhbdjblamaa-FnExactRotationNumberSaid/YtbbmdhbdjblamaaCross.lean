/- The contract of the program's doCross. -/
import Derived.Test.YtbbmdhbdjblamaaPlaces
namespace Go.Proofs.Ytbbmdhbdjblamaa
open Go.RowKit
set_option linter.unusedVariables false
set_option linter.unusedSimpArgs false
set_option maxRecDepth 100000

end Go.Proofs.Ytbbmdhbdjblamaa
