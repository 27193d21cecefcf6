/- What a claim asks of the whole program, found once (each takes 7 GB and 50 s: in one declaration with a claim's other facts the kernel outgrows its memory). -/
import Derived.Test.YtiedekdghdgocaaDoorRow
namespace Go.Proofs.YtiedekdghdgocaaDoor
set_option maxRecDepth 100000
theorem whole_heard : Tryd.pinned.checked.prog.stopsHeard = true := by kernel_rfl
theorem whole_enter : Tryd.pinned.checked.prog.mayEnter = true := by kernel_rfl
theorem whole_lifted : Tryd.pinned.checked.prog.liftsFinal = false := by kernel_rfl
theorem whole_make : Tryd.pinned.checked.prog.make = some .cut := by kernel_rfl
end Go.Proofs.YtiedekdghdgocaaDoor
