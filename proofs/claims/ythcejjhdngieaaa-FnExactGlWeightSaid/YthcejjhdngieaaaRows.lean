/-
  No cell of these rows narrows 'for every input' (looked for: loops, veiled, ifaces, maps, wideKeys, modest, calm, conditions, laid).
  DERIVED. THE GIVEN ROWS OF THIS SEAT. 10 by the template 'for every input the law returns true; each argument reads behind the call as it read before'; 0 by the template 'total and deterministic' (their statements: YthcejjhdngieaaaTotals.lean).
  GIVEN WITH THE SEED: the statements are not yours to turn. If you find one false, say at which input.
  Laid BY PROGRAM, IN A SANDBOX (cutbox-rows.mjs): the forced cells as the released guide's own fill.sh prints them over the translation b8aa5a107bf63cb5… (all of the seat's roots in one cut). By AI agents, Wed Nov 11 2026. No macro, syntax, notation, axiom, sorry.
-/
import Derived.Test.YthcejjhdngieaaaChecked
import GoSem.Claim
import GoSem.ClaimJoined
import GoSem.ClaimMapViews
import Derived.JoinedTies
import Derived.KernelRfl
namespace Go.Proofs.Ythcejjhdngieaaa
/- THE CELL 'sum', in the pinned program and in every row, IS THE sha256 OF THE DUMP (.gsa) THAT YthcejjhdngieaaaProg.lean LOADS. Nothing in Lean hashes anything: it is a label: what it is worth is what the hold of that sum in a sandbox is worth. -/
noncomputable def Try.pinned : Pinned := { name := "ythcejjhdngieaaa", sum := "b8aa5a107bf63cb54ecfb330787b07e764681f72856d089c283b79e05d2bbd24", checked := Try.checked }
namespace Rows
def none {H : Type} : Left H := { results := [], args := [] }

/-- 'laws.FnExactGlWeight': WHATEVER THE INPUT: true; the input reads as it did. -/
def fnExactGlWeightSpec : ChangeSpec := { name := "fnExactGlWeight", fn := fun _ => fun
  | [d] => { results := [.lit (.bool true)], args := [d] }
  | _ => none }
def fnExactGlWeightRow : OpenClaim := { program := "ythcejjhdngieaaa", sum := "b8aa5a107bf63cb54ecfb330787b07e764681f72856d089c283b79e05d2bbd24", func := "loop.example/g01303/laws.FnExactGlWeight", spec := "fnExactGlWeight", inPlace := ["(*sync.WaitGroup).Add", "internal/race.ReleaseMerge", "internal/race.Disable", "internal/race.Enable", "internal/synctest.IsInBubble", "internal/synctest.Associate[sync.WaitGroup]", "sync.fatal", "sync/atomic.OrUint64", "sync/atomic.AddUint64", "internal/race.Read", "sync/atomic.LoadUint64", "sync/atomic.StoreUint64", "internal/synctest.Disassociate[sync.WaitGroup]", "sync.runtime_Semrelease", "(*sync.WaitGroup).Done", "(*sync.WaitGroup).Wait", "internal/race.Acquire", "internal/synctest.IsAssociated[sync.WaitGroup]", "sync/atomic.CompareAndSwapUint64", "internal/race.Write", "sync.runtime_SemacquireWaitGroup"], unfollowed := true, recurses := true, plainKeys := false, leaving := true, apart := false }
def FnExactGlWeightSaid : Prop := fnExactGlWeightRow.holds Try.pinned (OpenSpec.ofChange fnExactGlWeightSpec)

/-- ITS FALSE NEIGHBOUR: 'it returns false'. Refute it at one input. -/
def fnExactGlWeightWrong : ChangeSpec := { name := "fnExactGlWeight", fn := fun _ => fun
  | [d] => { results := [.lit (.bool false)], args := [d] }
  | _ => none }
def FnExactGlWeightWrongFalsely : Prop := fnExactGlWeightRow.holds Try.pinned (OpenSpec.ofChange fnExactGlWeightWrong)

/-- 'laws.FnExactSoWeight': WHATEVER THE INPUT: true; the input reads as it did. -/
def fnExactSoWeightSpec : ChangeSpec := { name := "fnExactSoWeight", fn := fun _ => fun
  | [d] => { results := [.lit (.bool true)], args := [d] }
  | _ => none }
def fnExactSoWeightRow : OpenClaim := { program := "ythcejjhdngieaaa", sum := "b8aa5a107bf63cb54ecfb330787b07e764681f72856d089c283b79e05d2bbd24", func := "loop.example/g01303/laws.FnExactSoWeight", spec := "fnExactSoWeight", inPlace := ["(*sync.WaitGroup).Add", "internal/race.ReleaseMerge", "internal/race.Disable", "internal/race.Enable", "internal/synctest.IsInBubble", "internal/synctest.Associate[sync.WaitGroup]", "sync.fatal", "sync/atomic.OrUint64", "sync/atomic.AddUint64", "internal/race.Read", "sync/atomic.LoadUint64", "sync/atomic.StoreUint64", "internal/synctest.Disassociate[sync.WaitGroup]", "sync.runtime_Semrelease", "(*sync.WaitGroup).Done", "(*sync.WaitGroup).Wait", "internal/race.Acquire", "internal/synctest.IsAssociated[sync.WaitGroup]", "sync/atomic.CompareAndSwapUint64", "internal/race.Write", "sync.runtime_SemacquireWaitGroup"], unfollowed := true, recurses := true, plainKeys := false, leaving := true, apart := false }
def FnExactSoWeightSaid : Prop := fnExactSoWeightRow.holds Try.pinned (OpenSpec.ofChange fnExactSoWeightSpec)

/-- ITS FALSE NEIGHBOUR: 'it returns false'. Refute it at one input. -/
def fnExactSoWeightWrong : ChangeSpec := { name := "fnExactSoWeight", fn := fun _ => fun
  | [d] => { results := [.lit (.bool false)], args := [d] }
  | _ => none }
def FnExactSoWeightWrongFalsely : Prop := fnExactSoWeightRow.holds Try.pinned (OpenSpec.ofChange fnExactSoWeightWrong)

/-- 'laws.FnExactFreeWeight': WHATEVER THE INPUT: true; the input reads as it did. -/
def fnExactFreeWeightSpec : ChangeSpec := { name := "fnExactFreeWeight", fn := fun _ => fun
  | [d] => { results := [.lit (.bool true)], args := [d] }
  | _ => none }
def fnExactFreeWeightRow : OpenClaim := { program := "ythcejjhdngieaaa", sum := "b8aa5a107bf63cb54ecfb330787b07e764681f72856d089c283b79e05d2bbd24", func := "loop.example/g01303/laws.FnExactFreeWeight", spec := "fnExactFreeWeight", inPlace := ["(*sync.WaitGroup).Add", "internal/race.ReleaseMerge", "internal/race.Disable", "internal/race.Enable", "internal/synctest.IsInBubble", "internal/synctest.Associate[sync.WaitGroup]", "sync.fatal", "sync/atomic.OrUint64", "sync/atomic.AddUint64", "internal/race.Read", "sync/atomic.LoadUint64", "sync/atomic.StoreUint64", "internal/synctest.Disassociate[sync.WaitGroup]", "sync.runtime_Semrelease", "(*sync.WaitGroup).Done", "(*sync.WaitGroup).Wait", "internal/race.Acquire", "internal/synctest.IsAssociated[sync.WaitGroup]", "sync/atomic.CompareAndSwapUint64", "internal/race.Write", "sync.runtime_SemacquireWaitGroup"], unfollowed := true, recurses := true, plainKeys := false, leaving := true, apart := false }
def FnExactFreeWeightSaid : Prop := fnExactFreeWeightRow.holds Try.pinned (OpenSpec.ofChange fnExactFreeWeightSpec)

/-- ITS FALSE NEIGHBOUR: 'it returns false'. Refute it at one input. -/
def fnExactFreeWeightWrong : ChangeSpec := { name := "fnExactFreeWeight", fn := fun _ => fun
  | [d] => { results := [.lit (.bool false)], args := [d] }
  | _ => none }
def FnExactFreeWeightWrongFalsely : Prop := fnExactFreeWeightRow.holds Try.pinned (OpenSpec.ofChange fnExactFreeWeightWrong)

/-- 'laws.FnExactWeightOfKind': WHATEVER THE INPUT: true; the input reads as it did. -/
def fnExactWeightOfKindSpec : ChangeSpec := { name := "fnExactWeightOfKind", fn := fun _ => fun
  | [d1, d2] => { results := [.lit (.bool true)], args := [d1, d2] }
  | _ => none }
def fnExactWeightOfKindRow : OpenClaim := { program := "ythcejjhdngieaaa", sum := "b8aa5a107bf63cb54ecfb330787b07e764681f72856d089c283b79e05d2bbd24", func := "loop.example/g01303/laws.FnExactWeightOfKind", spec := "fnExactWeightOfKind", inPlace := ["(*sync.WaitGroup).Add", "internal/race.ReleaseMerge", "internal/race.Disable", "internal/race.Enable", "internal/synctest.IsInBubble", "internal/synctest.Associate[sync.WaitGroup]", "sync.fatal", "sync/atomic.OrUint64", "sync/atomic.AddUint64", "internal/race.Read", "sync/atomic.LoadUint64", "sync/atomic.StoreUint64", "internal/synctest.Disassociate[sync.WaitGroup]", "sync.runtime_Semrelease", "(*sync.WaitGroup).Done", "(*sync.WaitGroup).Wait", "internal/race.Acquire", "internal/synctest.IsAssociated[sync.WaitGroup]", "sync/atomic.CompareAndSwapUint64", "internal/race.Write", "sync.runtime_SemacquireWaitGroup"], unfollowed := true, recurses := true, plainKeys := false, leaving := true, apart := false }
def FnExactWeightOfKindSaid : Prop := fnExactWeightOfKindRow.holds Try.pinned (OpenSpec.ofChange fnExactWeightOfKindSpec)

/-- ITS FALSE NEIGHBOUR: 'it returns false'. Refute it at one input. -/
def fnExactWeightOfKindWrong : ChangeSpec := { name := "fnExactWeightOfKind", fn := fun _ => fun
  | [d1, d2] => { results := [.lit (.bool false)], args := [d1, d2] }
  | _ => none }
def FnExactWeightOfKindWrongFalsely : Prop := fnExactWeightOfKindRow.holds Try.pinned (OpenSpec.ofChange fnExactWeightOfKindWrong)

/-- 'laws.FnExactTwistNumbers': WHATEVER THE INPUT: true; the input reads as it did. -/
def fnExactTwistNumbersSpec : ChangeSpec := { name := "fnExactTwistNumbers", fn := fun _ => fun
  | [d] => { results := [.lit (.bool true)], args := [d] }
  | _ => none }
def fnExactTwistNumbersRow : OpenClaim := { program := "ythcejjhdngieaaa", sum := "b8aa5a107bf63cb54ecfb330787b07e764681f72856d089c283b79e05d2bbd24", func := "loop.example/g01303/laws.FnExactTwistNumbers", spec := "fnExactTwistNumbers", inPlace := ["(*sync.WaitGroup).Add", "internal/race.ReleaseMerge", "internal/race.Disable", "internal/race.Enable", "internal/synctest.IsInBubble", "internal/synctest.Associate[sync.WaitGroup]", "sync.fatal", "sync/atomic.OrUint64", "sync/atomic.AddUint64", "internal/race.Read", "sync/atomic.LoadUint64", "sync/atomic.StoreUint64", "internal/synctest.Disassociate[sync.WaitGroup]", "sync.runtime_Semrelease", "(*sync.WaitGroup).Done", "(*sync.WaitGroup).Wait", "internal/race.Acquire", "internal/synctest.IsAssociated[sync.WaitGroup]", "sync/atomic.CompareAndSwapUint64", "internal/race.Write", "sync.runtime_SemacquireWaitGroup"], unfollowed := true, recurses := true, plainKeys := false, leaving := true, apart := false }
def FnExactTwistNumbersSaid : Prop := fnExactTwistNumbersRow.holds Try.pinned (OpenSpec.ofChange fnExactTwistNumbersSpec)

/-- ITS FALSE NEIGHBOUR: 'it returns false'. Refute it at one input. -/
def fnExactTwistNumbersWrong : ChangeSpec := { name := "fnExactTwistNumbers", fn := fun _ => fun
  | [d] => { results := [.lit (.bool false)], args := [d] }
  | _ => none }
def FnExactTwistNumbersWrongFalsely : Prop := fnExactTwistNumbersRow.holds Try.pinned (OpenSpec.ofChange fnExactTwistNumbersWrong)

/-- 'laws.FnExactRelationRows': WHATEVER THE INPUT: true; the input reads as it did. -/
def fnExactRelationRowsSpec : ChangeSpec := { name := "fnExactRelationRows", fn := fun _ => fun
  | [d1, d2] => { results := [.lit (.bool true)], args := [d1, d2] }
  | _ => none }
def fnExactRelationRowsRow : OpenClaim := { program := "ythcejjhdngieaaa", sum := "b8aa5a107bf63cb54ecfb330787b07e764681f72856d089c283b79e05d2bbd24", func := "loop.example/g01303/laws.FnExactRelationRows", spec := "fnExactRelationRows", unfollowed := true, recurses := true, plainKeys := false, leaving := true, apart := false }
def FnExactRelationRowsSaid : Prop := fnExactRelationRowsRow.holds Try.pinned (OpenSpec.ofChange fnExactRelationRowsSpec)

/-- ITS FALSE NEIGHBOUR: 'it returns false'. Refute it at one input. -/
def fnExactRelationRowsWrong : ChangeSpec := { name := "fnExactRelationRows", fn := fun _ => fun
  | [d1, d2] => { results := [.lit (.bool false)], args := [d1, d2] }
  | _ => none }
def FnExactRelationRowsWrongFalsely : Prop := fnExactRelationRowsRow.holds Try.pinned (OpenSpec.ofChange fnExactRelationRowsWrong)

/-- 'laws.FnExactFreeRelationRows': WHATEVER THE INPUT: true; the input reads as it did. -/
def fnExactFreeRelationRowsSpec : ChangeSpec := { name := "fnExactFreeRelationRows", fn := fun _ => fun
  | [d1, d2] => { results := [.lit (.bool true)], args := [d1, d2] }
  | _ => none }
def fnExactFreeRelationRowsRow : OpenClaim := { program := "ythcejjhdngieaaa", sum := "b8aa5a107bf63cb54ecfb330787b07e764681f72856d089c283b79e05d2bbd24", func := "loop.example/g01303/laws.FnExactFreeRelationRows", spec := "fnExactFreeRelationRows", unfollowed := true, recurses := true, plainKeys := false, leaving := true, apart := false }
def FnExactFreeRelationRowsSaid : Prop := fnExactFreeRelationRowsRow.holds Try.pinned (OpenSpec.ofChange fnExactFreeRelationRowsSpec)

/-- ITS FALSE NEIGHBOUR: 'it returns false'. Refute it at one input. -/
def fnExactFreeRelationRowsWrong : ChangeSpec := { name := "fnExactFreeRelationRows", fn := fun _ => fun
  | [d1, d2] => { results := [.lit (.bool false)], args := [d1, d2] }
  | _ => none }
def FnExactFreeRelationRowsWrongFalsely : Prop := fnExactFreeRelationRowsRow.holds Try.pinned (OpenSpec.ofChange fnExactFreeRelationRowsWrong)

/-- 'laws.FnExactDiagramRow': WHATEVER THE INPUT: true; the input reads as it did. -/
def fnExactDiagramRowSpec : ChangeSpec := { name := "fnExactDiagramRow", fn := fun _ => fun
  | [d1, d2] => { results := [.lit (.bool true)], args := [d1, d2] }
  | _ => none }
def fnExactDiagramRowRow : OpenClaim := { program := "ythcejjhdngieaaa", sum := "b8aa5a107bf63cb54ecfb330787b07e764681f72856d089c283b79e05d2bbd24", func := "loop.example/g01303/laws.FnExactDiagramRow", spec := "fnExactDiagramRow", unfollowed := true, recurses := true, plainKeys := false, leaving := true, apart := false }
def FnExactDiagramRowSaid : Prop := fnExactDiagramRowRow.holds Try.pinned (OpenSpec.ofChange fnExactDiagramRowSpec)

/-- ITS FALSE NEIGHBOUR: 'it returns false'. Refute it at one input. -/
def fnExactDiagramRowWrong : ChangeSpec := { name := "fnExactDiagramRow", fn := fun _ => fun
  | [d1, d2] => { results := [.lit (.bool false)], args := [d1, d2] }
  | _ => none }
def FnExactDiagramRowWrongFalsely : Prop := fnExactDiagramRowRow.holds Try.pinned (OpenSpec.ofChange fnExactDiagramRowWrong)

/-- 'laws.FnExactValueOfWeight': WHATEVER THE INPUT: true; the input reads as it did. -/
def fnExactValueOfWeightSpec : ChangeSpec := { name := "fnExactValueOfWeight", fn := fun _ => fun
  | [d1, d2, d3] => { results := [.lit (.bool true)], args := [d1, d2, d3] }
  | _ => none }
def fnExactValueOfWeightRow : OpenClaim := { program := "ythcejjhdngieaaa", sum := "b8aa5a107bf63cb54ecfb330787b07e764681f72856d089c283b79e05d2bbd24", func := "loop.example/g01303/laws.FnExactValueOfWeight", spec := "fnExactValueOfWeight", unfollowed := true, recurses := true, plainKeys := false, leaving := true, apart := false }
def FnExactValueOfWeightSaid : Prop := fnExactValueOfWeightRow.holds Try.pinned (OpenSpec.ofChange fnExactValueOfWeightSpec)

/-- ITS FALSE NEIGHBOUR: 'it returns false'. Refute it at one input. -/
def fnExactValueOfWeightWrong : ChangeSpec := { name := "fnExactValueOfWeight", fn := fun _ => fun
  | [d1, d2, d3] => { results := [.lit (.bool false)], args := [d1, d2, d3] }
  | _ => none }
def FnExactValueOfWeightWrongFalsely : Prop := fnExactValueOfWeightRow.holds Try.pinned (OpenSpec.ofChange fnExactValueOfWeightWrong)

/-- 'laws.FnExactIsWeightSystem': WHATEVER THE INPUT: true; the input reads as it did. -/
def fnExactIsWeightSystemSpec : ChangeSpec := { name := "fnExactIsWeightSystem", fn := fun _ => fun
  | [d1, d2, d3] => { results := [.lit (.bool true)], args := [d1, d2, d3] }
  | _ => none }
def fnExactIsWeightSystemRow : OpenClaim := { program := "ythcejjhdngieaaa", sum := "b8aa5a107bf63cb54ecfb330787b07e764681f72856d089c283b79e05d2bbd24", func := "loop.example/g01303/laws.FnExactIsWeightSystem", spec := "fnExactIsWeightSystem", unfollowed := true, recurses := true, plainKeys := false, leaving := true, apart := false }
def FnExactIsWeightSystemSaid : Prop := fnExactIsWeightSystemRow.holds Try.pinned (OpenSpec.ofChange fnExactIsWeightSystemSpec)

/-- ITS FALSE NEIGHBOUR: 'it returns false'. Refute it at one input. -/
def fnExactIsWeightSystemWrong : ChangeSpec := { name := "fnExactIsWeightSystem", fn := fun _ => fun
  | [d1, d2, d3] => { results := [.lit (.bool false)], args := [d1, d2, d3] }
  | _ => none }
def FnExactIsWeightSystemWrongFalsely : Prop := fnExactIsWeightSystemRow.holds Try.pinned (OpenSpec.ofChange fnExactIsWeightSystemWrong)

/- THE SECOND FORM. 'bulk': how many values and letters a reading holds, each counted each time it is reached (what is shared counts as often as it is met; a slice's spare places count too). A statement '..UptoSaid' is the law's where the arguments, and the package variables that the reading takes, are together of bulk at most 1048576: NARROWER than '..Said'. Prove '..Said' where nothing that the law and all that it calls make is longer than what came in: it says more and counts as full. Else prove '..UptoSaid'. A law counts once. -/
mutual
def uptoBulk {H : Type} : DataW H → Nat
  | .lit (.string bytes) => bytes.length + 1
  | .lit _ => 1
  | .nil => 1
  | .ptr d => uptoBulk d + 1
  | .slice elems spare => uptoBulkAll elems + uptoBulkAll spare + 1
  | .agg parts => uptoBulkAll parts + 1
  | .iface _ d => uptoBulk d + 1
  | .map entries => uptoBulkEntries entries + 1
  | .held _ => 1
def uptoBulkAll {H : Type} : List (DataW H) → Nat
  | [] => 0
  | d :: r => uptoBulk d + uptoBulkAll r
def uptoBulkEntries {H : Type} : List (Lit × DataW H) → Nat
  | [] => 0
  | x :: r => uptoBulkEntry x + uptoBulkEntries r
def uptoBulkEntry {H : Type} : Lit × DataW H → Nat
  | (.string bytes, d) => bytes.length + uptoBulk d + 1
  | (_, d) => uptoBulk d + 1
 end
def uptoSmall : (H : Type) → List (DataW H) → Bool := fun _ ds => decide (uptoBulkAll ds ≤ 1048576)
def OpenSpec.upto (s : _root_.Go.ChangeSpec) : _root_.Go.OpenSpec := { _root_.Go.OpenSpec.ofChange s with cond := some uptoSmall }

/-- 'laws.FnExactGlWeight', WHERE WHAT IT READS IS OF BULK AT MOST 1048576: true; the input reads as it did. -/
def fnExactGlWeightUptoRow : OpenClaim := { program := "ythcejjhdngieaaa", sum := "b8aa5a107bf63cb54ecfb330787b07e764681f72856d089c283b79e05d2bbd24", func := "loop.example/g01303/laws.FnExactGlWeight", spec := "fnExactGlWeight", inPlace := ["(*sync.WaitGroup).Add", "internal/race.ReleaseMerge", "internal/race.Disable", "internal/race.Enable", "internal/synctest.IsInBubble", "internal/synctest.Associate[sync.WaitGroup]", "sync.fatal", "sync/atomic.OrUint64", "sync/atomic.AddUint64", "internal/race.Read", "sync/atomic.LoadUint64", "sync/atomic.StoreUint64", "internal/synctest.Disassociate[sync.WaitGroup]", "sync.runtime_Semrelease", "(*sync.WaitGroup).Done", "(*sync.WaitGroup).Wait", "internal/race.Acquire", "internal/synctest.IsAssociated[sync.WaitGroup]", "sync/atomic.CompareAndSwapUint64", "internal/race.Write", "sync.runtime_SemacquireWaitGroup"], unfollowed := true, recurses := true, plainKeys := false, leaving := true, apart := false, narrowed := true }
def FnExactGlWeightUptoSaid : Prop := fnExactGlWeightUptoRow.holds Try.pinned (OpenSpec.upto fnExactGlWeightSpec)

/-- 'laws.FnExactSoWeight', WHERE WHAT IT READS IS OF BULK AT MOST 1048576: true; the input reads as it did. -/
def fnExactSoWeightUptoRow : OpenClaim := { program := "ythcejjhdngieaaa", sum := "b8aa5a107bf63cb54ecfb330787b07e764681f72856d089c283b79e05d2bbd24", func := "loop.example/g01303/laws.FnExactSoWeight", spec := "fnExactSoWeight", inPlace := ["(*sync.WaitGroup).Add", "internal/race.ReleaseMerge", "internal/race.Disable", "internal/race.Enable", "internal/synctest.IsInBubble", "internal/synctest.Associate[sync.WaitGroup]", "sync.fatal", "sync/atomic.OrUint64", "sync/atomic.AddUint64", "internal/race.Read", "sync/atomic.LoadUint64", "sync/atomic.StoreUint64", "internal/synctest.Disassociate[sync.WaitGroup]", "sync.runtime_Semrelease", "(*sync.WaitGroup).Done", "(*sync.WaitGroup).Wait", "internal/race.Acquire", "internal/synctest.IsAssociated[sync.WaitGroup]", "sync/atomic.CompareAndSwapUint64", "internal/race.Write", "sync.runtime_SemacquireWaitGroup"], unfollowed := true, recurses := true, plainKeys := false, leaving := true, apart := false, narrowed := true }
def FnExactSoWeightUptoSaid : Prop := fnExactSoWeightUptoRow.holds Try.pinned (OpenSpec.upto fnExactSoWeightSpec)

/-- 'laws.FnExactFreeWeight', WHERE WHAT IT READS IS OF BULK AT MOST 1048576: true; the input reads as it did. -/
def fnExactFreeWeightUptoRow : OpenClaim := { program := "ythcejjhdngieaaa", sum := "b8aa5a107bf63cb54ecfb330787b07e764681f72856d089c283b79e05d2bbd24", func := "loop.example/g01303/laws.FnExactFreeWeight", spec := "fnExactFreeWeight", inPlace := ["(*sync.WaitGroup).Add", "internal/race.ReleaseMerge", "internal/race.Disable", "internal/race.Enable", "internal/synctest.IsInBubble", "internal/synctest.Associate[sync.WaitGroup]", "sync.fatal", "sync/atomic.OrUint64", "sync/atomic.AddUint64", "internal/race.Read", "sync/atomic.LoadUint64", "sync/atomic.StoreUint64", "internal/synctest.Disassociate[sync.WaitGroup]", "sync.runtime_Semrelease", "(*sync.WaitGroup).Done", "(*sync.WaitGroup).Wait", "internal/race.Acquire", "internal/synctest.IsAssociated[sync.WaitGroup]", "sync/atomic.CompareAndSwapUint64", "internal/race.Write", "sync.runtime_SemacquireWaitGroup"], unfollowed := true, recurses := true, plainKeys := false, leaving := true, apart := false, narrowed := true }
def FnExactFreeWeightUptoSaid : Prop := fnExactFreeWeightUptoRow.holds Try.pinned (OpenSpec.upto fnExactFreeWeightSpec)

/-- 'laws.FnExactWeightOfKind', WHERE WHAT IT READS IS OF BULK AT MOST 1048576: true; the input reads as it did. -/
def fnExactWeightOfKindUptoRow : OpenClaim := { program := "ythcejjhdngieaaa", sum := "b8aa5a107bf63cb54ecfb330787b07e764681f72856d089c283b79e05d2bbd24", func := "loop.example/g01303/laws.FnExactWeightOfKind", spec := "fnExactWeightOfKind", inPlace := ["(*sync.WaitGroup).Add", "internal/race.ReleaseMerge", "internal/race.Disable", "internal/race.Enable", "internal/synctest.IsInBubble", "internal/synctest.Associate[sync.WaitGroup]", "sync.fatal", "sync/atomic.OrUint64", "sync/atomic.AddUint64", "internal/race.Read", "sync/atomic.LoadUint64", "sync/atomic.StoreUint64", "internal/synctest.Disassociate[sync.WaitGroup]", "sync.runtime_Semrelease", "(*sync.WaitGroup).Done", "(*sync.WaitGroup).Wait", "internal/race.Acquire", "internal/synctest.IsAssociated[sync.WaitGroup]", "sync/atomic.CompareAndSwapUint64", "internal/race.Write", "sync.runtime_SemacquireWaitGroup"], unfollowed := true, recurses := true, plainKeys := false, leaving := true, apart := false, narrowed := true }
def FnExactWeightOfKindUptoSaid : Prop := fnExactWeightOfKindUptoRow.holds Try.pinned (OpenSpec.upto fnExactWeightOfKindSpec)

/-- 'laws.FnExactTwistNumbers', WHERE WHAT IT READS IS OF BULK AT MOST 1048576: true; the input reads as it did. -/
def fnExactTwistNumbersUptoRow : OpenClaim := { program := "ythcejjhdngieaaa", sum := "b8aa5a107bf63cb54ecfb330787b07e764681f72856d089c283b79e05d2bbd24", func := "loop.example/g01303/laws.FnExactTwistNumbers", spec := "fnExactTwistNumbers", inPlace := ["(*sync.WaitGroup).Add", "internal/race.ReleaseMerge", "internal/race.Disable", "internal/race.Enable", "internal/synctest.IsInBubble", "internal/synctest.Associate[sync.WaitGroup]", "sync.fatal", "sync/atomic.OrUint64", "sync/atomic.AddUint64", "internal/race.Read", "sync/atomic.LoadUint64", "sync/atomic.StoreUint64", "internal/synctest.Disassociate[sync.WaitGroup]", "sync.runtime_Semrelease", "(*sync.WaitGroup).Done", "(*sync.WaitGroup).Wait", "internal/race.Acquire", "internal/synctest.IsAssociated[sync.WaitGroup]", "sync/atomic.CompareAndSwapUint64", "internal/race.Write", "sync.runtime_SemacquireWaitGroup"], unfollowed := true, recurses := true, plainKeys := false, leaving := true, apart := false, narrowed := true }
def FnExactTwistNumbersUptoSaid : Prop := fnExactTwistNumbersUptoRow.holds Try.pinned (OpenSpec.upto fnExactTwistNumbersSpec)

/-- 'laws.FnExactRelationRows', WHERE WHAT IT READS IS OF BULK AT MOST 1048576: true; the input reads as it did. -/
def fnExactRelationRowsUptoRow : OpenClaim := { program := "ythcejjhdngieaaa", sum := "b8aa5a107bf63cb54ecfb330787b07e764681f72856d089c283b79e05d2bbd24", func := "loop.example/g01303/laws.FnExactRelationRows", spec := "fnExactRelationRows", unfollowed := true, recurses := true, plainKeys := false, leaving := true, apart := false, narrowed := true }
def FnExactRelationRowsUptoSaid : Prop := fnExactRelationRowsUptoRow.holds Try.pinned (OpenSpec.upto fnExactRelationRowsSpec)

/-- 'laws.FnExactFreeRelationRows', WHERE WHAT IT READS IS OF BULK AT MOST 1048576: true; the input reads as it did. -/
def fnExactFreeRelationRowsUptoRow : OpenClaim := { program := "ythcejjhdngieaaa", sum := "b8aa5a107bf63cb54ecfb330787b07e764681f72856d089c283b79e05d2bbd24", func := "loop.example/g01303/laws.FnExactFreeRelationRows", spec := "fnExactFreeRelationRows", unfollowed := true, recurses := true, plainKeys := false, leaving := true, apart := false, narrowed := true }
def FnExactFreeRelationRowsUptoSaid : Prop := fnExactFreeRelationRowsUptoRow.holds Try.pinned (OpenSpec.upto fnExactFreeRelationRowsSpec)

/-- 'laws.FnExactDiagramRow', WHERE WHAT IT READS IS OF BULK AT MOST 1048576: true; the input reads as it did. -/
def fnExactDiagramRowUptoRow : OpenClaim := { program := "ythcejjhdngieaaa", sum := "b8aa5a107bf63cb54ecfb330787b07e764681f72856d089c283b79e05d2bbd24", func := "loop.example/g01303/laws.FnExactDiagramRow", spec := "fnExactDiagramRow", unfollowed := true, recurses := true, plainKeys := false, leaving := true, apart := false, narrowed := true }
def FnExactDiagramRowUptoSaid : Prop := fnExactDiagramRowUptoRow.holds Try.pinned (OpenSpec.upto fnExactDiagramRowSpec)

/-- 'laws.FnExactValueOfWeight', WHERE WHAT IT READS IS OF BULK AT MOST 1048576: true; the input reads as it did. -/
def fnExactValueOfWeightUptoRow : OpenClaim := { program := "ythcejjhdngieaaa", sum := "b8aa5a107bf63cb54ecfb330787b07e764681f72856d089c283b79e05d2bbd24", func := "loop.example/g01303/laws.FnExactValueOfWeight", spec := "fnExactValueOfWeight", unfollowed := true, recurses := true, plainKeys := false, leaving := true, apart := false, narrowed := true }
def FnExactValueOfWeightUptoSaid : Prop := fnExactValueOfWeightUptoRow.holds Try.pinned (OpenSpec.upto fnExactValueOfWeightSpec)

/-- 'laws.FnExactIsWeightSystem', WHERE WHAT IT READS IS OF BULK AT MOST 1048576: true; the input reads as it did. -/
def fnExactIsWeightSystemUptoRow : OpenClaim := { program := "ythcejjhdngieaaa", sum := "b8aa5a107bf63cb54ecfb330787b07e764681f72856d089c283b79e05d2bbd24", func := "loop.example/g01303/laws.FnExactIsWeightSystem", spec := "fnExactIsWeightSystem", unfollowed := true, recurses := true, plainKeys := false, leaving := true, apart := false, narrowed := true }
def FnExactIsWeightSystemUptoSaid : Prop := fnExactIsWeightSystemUptoRow.holds Try.pinned (OpenSpec.upto fnExactIsWeightSystemSpec)

end Rows
end Go.Proofs.Ythcejjhdngieaaa
