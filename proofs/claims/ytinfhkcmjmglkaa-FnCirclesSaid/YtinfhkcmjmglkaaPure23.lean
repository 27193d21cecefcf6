/- Plain: circles and ranks of words of six chords, run by the kernel: another part. -/
import Derived.Test.YtinfhkcmjmglkaaPure21
namespace Go.Proofs.Ytinfhkcmjmglkaa
set_option linter.unusedVariables false
set_option linter.unusedSimpArgs false
set_option maxRecDepth 100000

theorem circ6_0121 : allK (circOkK 6 12) 6 8 [0, 1, 2, 1] 3 = true := by decide +kernel
theorem circ6_0122 : allK (circOkK 6 12) 6 8 [0, 1, 2, 2] 3 = true := by decide +kernel
theorem circ6_01230 : allK (circOkK 6 12) 6 7 [0, 1, 2, 3, 0] 4 = true := by decide +kernel
theorem circ6_01231 : allK (circOkK 6 12) 6 7 [0, 1, 2, 3, 1] 4 = true := by decide +kernel
theorem circ6_01232 : allK (circOkK 6 12) 6 7 [0, 1, 2, 3, 2] 4 = true := by decide +kernel
theorem circ6_01233 : allK (circOkK 6 12) 6 7 [0, 1, 2, 3, 3] 4 = true := by decide +kernel
end Go.Proofs.Ytinfhkcmjmglkaa
