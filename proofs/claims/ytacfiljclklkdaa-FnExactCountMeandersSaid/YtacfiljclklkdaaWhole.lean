/- What a claim asks of the whole program, found once (each takes 7 GB and 50 s: in one declaration with a claim's other facts the kernel outgrows its memory). -/
import Derived.Test.YtacfiljclklkdaaRow
namespace Go.Proofs.Ytacfiljclklkdaa
set_option maxRecDepth 100000
theorem whole_heard : Try.pinned.checked.prog.stopsHeard = true := by kernel_rfl
theorem whole_enter : Try.pinned.checked.prog.mayEnter = true := by kernel_rfl
theorem whole_lifted : Try.pinned.checked.prog.liftsFinal = false := by kernel_rfl
theorem whole_make : Try.pinned.checked.prog.make = some .cut := by kernel_rfl
end Go.Proofs.Ytacfiljclklkdaa
