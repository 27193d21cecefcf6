/-
  No cell of these rows narrows 'for every input' (looked for: loops, veiled, ifaces, maps, wideKeys, modest, calm, conditions, laid).
  DERIVED. THE GIVEN ROWS OF THIS SEAT. 7 by the template 'for every input the law returns true; each argument reads behind the call as it read before'; 0 by the template 'total and deterministic' (their statements: YtdeefgmjlcdpfaaTotals.lean).
  GIVEN WITH THE SEED: the statements are not yours to turn. If you find one false, say at which input.
  Laid BY PROGRAM, IN A SANDBOX (cutbox-rows.mjs): the forced cells as the released guide's own fill.sh prints them over the translation bf76336784207830… (all of the seat's roots in one cut). By AI agents, Wed Nov 11 2026. No macro, syntax, notation, axiom, sorry.
-/
import Derived.Test.YtdeefgmjlcdpfaaChecked
import GoSem.Claim
import GoSem.ClaimJoined
import GoSem.ClaimMapViews
import Derived.JoinedTies
import Derived.KernelRfl
namespace Go.Proofs.Ytdeefgmjlcdpfaa
/- THE CELL 'sum', in the pinned program and in every row, IS THE sha256 OF THE DUMP (.gsa) THAT YtdeefgmjlcdpfaaProg.lean LOADS. Nothing in Lean hashes anything: it is a label: what it is worth is what the hold of that sum in a sandbox is worth. -/
noncomputable def Try.pinned : Pinned := { name := "ytdeefgmjlcdpfaa", sum := "bf7633678420783093a893b70229d46f03b1d05c41b1fffae9c60ff9d27c9b05", checked := Try.checked }
namespace Rows
def none {H : Type} : Left H := { results := [], args := [] }

/-- 'laws.FnExactMultiplyPolynomials': WHATEVER THE INPUT: true; the input reads as it did. -/
def fnExactMultiplyPolynomialsSpec : ChangeSpec := { name := "fnExactMultiplyPolynomials", fn := fun _ => fun
  | [d1, d2] => { results := [.lit (.bool true)], args := [d1, d2] }
  | _ => none }
def fnExactMultiplyPolynomialsRow : OpenClaim := { program := "ytdeefgmjlcdpfaa", sum := "bf7633678420783093a893b70229d46f03b1d05c41b1fffae9c60ff9d27c9b05", func := "loop.example/g01303/laws.FnExactMultiplyPolynomials", spec := "fnExactMultiplyPolynomials", unfollowed := true, recurses := true, plainKeys := false, leaving := true, apart := false }
def FnExactMultiplyPolynomialsSaid : Prop := fnExactMultiplyPolynomialsRow.holds Try.pinned (OpenSpec.ofChange fnExactMultiplyPolynomialsSpec)

/-- ITS FALSE NEIGHBOUR: 'it returns false'. Refute it at one input. -/
def fnExactMultiplyPolynomialsWrong : ChangeSpec := { name := "fnExactMultiplyPolynomials", fn := fun _ => fun
  | [d1, d2] => { results := [.lit (.bool false)], args := [d1, d2] }
  | _ => none }
def FnExactMultiplyPolynomialsWrongFalsely : Prop := fnExactMultiplyPolynomialsRow.holds Try.pinned (OpenSpec.ofChange fnExactMultiplyPolynomialsWrong)

/-- 'laws.FnExactValueOfPolynomial': WHATEVER THE INPUT: true; the input reads as it did. -/
def fnExactValueOfPolynomialSpec : ChangeSpec := { name := "fnExactValueOfPolynomial", fn := fun _ => fun
  | [d1, d2, d3] => { results := [.lit (.bool true)], args := [d1, d2, d3] }
  | _ => none }
def fnExactValueOfPolynomialRow : OpenClaim := { program := "ytdeefgmjlcdpfaa", sum := "bf7633678420783093a893b70229d46f03b1d05c41b1fffae9c60ff9d27c9b05", func := "loop.example/g01303/laws.FnExactValueOfPolynomial", spec := "fnExactValueOfPolynomial", unfollowed := true, recurses := true, plainKeys := false, leaving := true, apart := false }
def FnExactValueOfPolynomialSaid : Prop := fnExactValueOfPolynomialRow.holds Try.pinned (OpenSpec.ofChange fnExactValueOfPolynomialSpec)

/-- ITS FALSE NEIGHBOUR: 'it returns false'. Refute it at one input. -/
def fnExactValueOfPolynomialWrong : ChangeSpec := { name := "fnExactValueOfPolynomial", fn := fun _ => fun
  | [d1, d2, d3] => { results := [.lit (.bool false)], args := [d1, d2, d3] }
  | _ => none }
def FnExactValueOfPolynomialWrongFalsely : Prop := fnExactValueOfPolynomialRow.holds Try.pinned (OpenSpec.ofChange fnExactValueOfPolynomialWrong)

/-- 'laws.FnExactFourTermSum': WHATEVER THE INPUT: true; the input reads as it did. -/
def fnExactFourTermSumSpec : ChangeSpec := { name := "fnExactFourTermSum", fn := fun _ => fun
  | [d1, d2, d3, d4] => { results := [.lit (.bool true)], args := [d1, d2, d3, d4] }
  | _ => none }
def fnExactFourTermSumRow : OpenClaim := { program := "ytdeefgmjlcdpfaa", sum := "bf7633678420783093a893b70229d46f03b1d05c41b1fffae9c60ff9d27c9b05", func := "loop.example/g01303/laws.FnExactFourTermSum", spec := "fnExactFourTermSum", unfollowed := true, recurses := true, plainKeys := false, leaving := true, apart := false }
def FnExactFourTermSumSaid : Prop := fnExactFourTermSumRow.holds Try.pinned (OpenSpec.ofChange fnExactFourTermSumSpec)

/-- ITS FALSE NEIGHBOUR: 'it returns false'. Refute it at one input. -/
def fnExactFourTermSumWrong : ChangeSpec := { name := "fnExactFourTermSum", fn := fun _ => fun
  | [d1, d2, d3, d4] => { results := [.lit (.bool false)], args := [d1, d2, d3, d4] }
  | _ => none }
def FnExactFourTermSumWrongFalsely : Prop := fnExactFourTermSumRow.holds Try.pinned (OpenSpec.ofChange fnExactFourTermSumWrong)

/-- 'laws.FnExactNamedWeb': WHATEVER THE INPUT: true; the input reads as it did. -/
def fnExactNamedWebSpec : ChangeSpec := { name := "fnExactNamedWeb", fn := fun _ => fun
  | [d] => { results := [.lit (.bool true)], args := [d] }
  | _ => none }
def fnExactNamedWebRow : OpenClaim := { program := "ytdeefgmjlcdpfaa", sum := "bf7633678420783093a893b70229d46f03b1d05c41b1fffae9c60ff9d27c9b05", func := "loop.example/g01303/laws.FnExactNamedWeb", spec := "fnExactNamedWeb", plainKeys := false, apart := false }
def FnExactNamedWebSaid : Prop := fnExactNamedWebRow.holds Try.pinned (OpenSpec.ofChange fnExactNamedWebSpec)

/-- ITS FALSE NEIGHBOUR: 'it returns false'. Refute it at one input. -/
def fnExactNamedWebWrong : ChangeSpec := { name := "fnExactNamedWeb", fn := fun _ => fun
  | [d] => { results := [.lit (.bool false)], args := [d] }
  | _ => none }
def FnExactNamedWebWrongFalsely : Prop := fnExactNamedWebRow.holds Try.pinned (OpenSpec.ofChange fnExactNamedWebWrong)

/-- 'laws.FnExactWebOfWord': WHATEVER THE INPUT: true; the input reads as it did. -/
def fnExactWebOfWordSpec : ChangeSpec := { name := "fnExactWebOfWord", fn := fun _ => fun
  | [d] => { results := [.lit (.bool true)], args := [d] }
  | _ => none }
def fnExactWebOfWordRow : OpenClaim := { program := "ytdeefgmjlcdpfaa", sum := "bf7633678420783093a893b70229d46f03b1d05c41b1fffae9c60ff9d27c9b05", func := "loop.example/g01303/laws.FnExactWebOfWord", spec := "fnExactWebOfWord", plainKeys := false, apart := false }
def FnExactWebOfWordSaid : Prop := fnExactWebOfWordRow.holds Try.pinned (OpenSpec.ofChange fnExactWebOfWordSpec)

/-- ITS FALSE NEIGHBOUR: 'it returns false'. Refute it at one input. -/
def fnExactWebOfWordWrong : ChangeSpec := { name := "fnExactWebOfWord", fn := fun _ => fun
  | [d] => { results := [.lit (.bool false)], args := [d] }
  | _ => none }
def FnExactWebOfWordWrongFalsely : Prop := fnExactWebOfWordRow.holds Try.pinned (OpenSpec.ofChange fnExactWebOfWordWrong)

/-- 'laws.FnExactTwistNumbers': WHATEVER THE INPUT: true; the input reads as it did. -/
def fnExactTwistNumbersSpec : ChangeSpec := { name := "fnExactTwistNumbers", fn := fun _ => fun
  | [d] => { results := [.lit (.bool true)], args := [d] }
  | _ => none }
def fnExactTwistNumbersRow : OpenClaim := { program := "ytdeefgmjlcdpfaa", sum := "bf7633678420783093a893b70229d46f03b1d05c41b1fffae9c60ff9d27c9b05", func := "loop.example/g01303/laws.FnExactTwistNumbers", spec := "fnExactTwistNumbers", inPlace := ["(*sync.WaitGroup).Add", "internal/race.ReleaseMerge", "internal/race.Disable", "internal/race.Enable", "internal/synctest.IsInBubble", "internal/synctest.Associate[sync.WaitGroup]", "sync.fatal", "sync/atomic.OrUint64", "sync/atomic.AddUint64", "internal/race.Read", "sync/atomic.LoadUint64", "sync/atomic.StoreUint64", "internal/synctest.Disassociate[sync.WaitGroup]", "sync.runtime_Semrelease", "(*sync.WaitGroup).Done", "(*sync.WaitGroup).Wait", "internal/race.Acquire", "internal/synctest.IsAssociated[sync.WaitGroup]", "sync/atomic.CompareAndSwapUint64", "internal/race.Write", "sync.runtime_SemacquireWaitGroup"], unfollowed := true, recurses := true, plainKeys := false, leaving := true, apart := false }
def FnExactTwistNumbersSaid : Prop := fnExactTwistNumbersRow.holds Try.pinned (OpenSpec.ofChange fnExactTwistNumbersSpec)

/-- ITS FALSE NEIGHBOUR: 'it returns false'. Refute it at one input. -/
def fnExactTwistNumbersWrong : ChangeSpec := { name := "fnExactTwistNumbers", fn := fun _ => fun
  | [d] => { results := [.lit (.bool false)], args := [d] }
  | _ => none }
def FnExactTwistNumbersWrongFalsely : Prop := fnExactTwistNumbersRow.holds Try.pinned (OpenSpec.ofChange fnExactTwistNumbersWrong)

/-- 'laws.FnExactSoWeight': WHATEVER THE INPUT: true; the input reads as it did. -/
def fnExactSoWeightSpec : ChangeSpec := { name := "fnExactSoWeight", fn := fun _ => fun
  | [d] => { results := [.lit (.bool true)], args := [d] }
  | _ => none }
def fnExactSoWeightRow : OpenClaim := { program := "ytdeefgmjlcdpfaa", sum := "bf7633678420783093a893b70229d46f03b1d05c41b1fffae9c60ff9d27c9b05", func := "loop.example/g01303/laws.FnExactSoWeight", spec := "fnExactSoWeight", inPlace := ["(*sync.WaitGroup).Add", "internal/race.ReleaseMerge", "internal/race.Disable", "internal/race.Enable", "internal/synctest.IsInBubble", "internal/synctest.Associate[sync.WaitGroup]", "sync.fatal", "sync/atomic.OrUint64", "sync/atomic.AddUint64", "internal/race.Read", "sync/atomic.LoadUint64", "sync/atomic.StoreUint64", "internal/synctest.Disassociate[sync.WaitGroup]", "sync.runtime_Semrelease", "(*sync.WaitGroup).Done", "(*sync.WaitGroup).Wait", "internal/race.Acquire", "internal/synctest.IsAssociated[sync.WaitGroup]", "sync/atomic.CompareAndSwapUint64", "internal/race.Write", "sync.runtime_SemacquireWaitGroup"], unfollowed := true, recurses := true, plainKeys := false, leaving := true, apart := false }
def FnExactSoWeightSaid : Prop := fnExactSoWeightRow.holds Try.pinned (OpenSpec.ofChange fnExactSoWeightSpec)

/-- ITS FALSE NEIGHBOUR: 'it returns false'. Refute it at one input. -/
def fnExactSoWeightWrong : ChangeSpec := { name := "fnExactSoWeight", fn := fun _ => fun
  | [d] => { results := [.lit (.bool false)], args := [d] }
  | _ => none }
def FnExactSoWeightWrongFalsely : Prop := fnExactSoWeightRow.holds Try.pinned (OpenSpec.ofChange fnExactSoWeightWrong)

/- THE SECOND FORM. 'bulk': how many values and letters a reading holds, each counted each time it is reached (what is shared counts as often as it is met; a slice's spare places count too). A statement '..UptoSaid' is the law's where the arguments, and the package variables that the reading takes, are together of bulk at most 1048576: NARROWER than '..Said'. Prove '..Said' where nothing that the law and all that it calls make is longer than what came in: it says more and counts as full. Else prove '..UptoSaid'. A law counts once. -/
mutual
def uptoBulk {H : Type} : DataW H → Nat
  | .lit (.string bytes) => bytes.length + 1
  | .lit _ => 1
  | .nil => 1
  | .ptr d => uptoBulk d + 1
  | .slice elems spare => uptoBulkAll elems + uptoBulkAll spare + 1
  | .agg parts => uptoBulkAll parts + 1
  | .iface _ d => uptoBulk d + 1
  | .map entries => uptoBulkEntries entries + 1
  | .held _ => 1
def uptoBulkAll {H : Type} : List (DataW H) → Nat
  | [] => 0
  | d :: r => uptoBulk d + uptoBulkAll r
def uptoBulkEntries {H : Type} : List (Lit × DataW H) → Nat
  | [] => 0
  | x :: r => uptoBulkEntry x + uptoBulkEntries r
def uptoBulkEntry {H : Type} : Lit × DataW H → Nat
  | (.string bytes, d) => bytes.length + uptoBulk d + 1
  | (_, d) => uptoBulk d + 1
 end
def uptoSmall : (H : Type) → List (DataW H) → Bool := fun _ ds => decide (uptoBulkAll ds ≤ 1048576)
def OpenSpec.upto (s : _root_.Go.ChangeSpec) : _root_.Go.OpenSpec := { _root_.Go.OpenSpec.ofChange s with cond := some uptoSmall }

/-- 'laws.FnExactMultiplyPolynomials', WHERE WHAT IT READS IS OF BULK AT MOST 1048576: true; the input reads as it did. -/
def fnExactMultiplyPolynomialsUptoRow : OpenClaim := { program := "ytdeefgmjlcdpfaa", sum := "bf7633678420783093a893b70229d46f03b1d05c41b1fffae9c60ff9d27c9b05", func := "loop.example/g01303/laws.FnExactMultiplyPolynomials", spec := "fnExactMultiplyPolynomials", unfollowed := true, recurses := true, plainKeys := false, leaving := true, apart := false, narrowed := true }
def FnExactMultiplyPolynomialsUptoSaid : Prop := fnExactMultiplyPolynomialsUptoRow.holds Try.pinned (OpenSpec.upto fnExactMultiplyPolynomialsSpec)

/-- 'laws.FnExactValueOfPolynomial', WHERE WHAT IT READS IS OF BULK AT MOST 1048576: true; the input reads as it did. -/
def fnExactValueOfPolynomialUptoRow : OpenClaim := { program := "ytdeefgmjlcdpfaa", sum := "bf7633678420783093a893b70229d46f03b1d05c41b1fffae9c60ff9d27c9b05", func := "loop.example/g01303/laws.FnExactValueOfPolynomial", spec := "fnExactValueOfPolynomial", unfollowed := true, recurses := true, plainKeys := false, leaving := true, apart := false, narrowed := true }
def FnExactValueOfPolynomialUptoSaid : Prop := fnExactValueOfPolynomialUptoRow.holds Try.pinned (OpenSpec.upto fnExactValueOfPolynomialSpec)

/-- 'laws.FnExactFourTermSum', WHERE WHAT IT READS IS OF BULK AT MOST 1048576: true; the input reads as it did. -/
def fnExactFourTermSumUptoRow : OpenClaim := { program := "ytdeefgmjlcdpfaa", sum := "bf7633678420783093a893b70229d46f03b1d05c41b1fffae9c60ff9d27c9b05", func := "loop.example/g01303/laws.FnExactFourTermSum", spec := "fnExactFourTermSum", unfollowed := true, recurses := true, plainKeys := false, leaving := true, apart := false, narrowed := true }
def FnExactFourTermSumUptoSaid : Prop := fnExactFourTermSumUptoRow.holds Try.pinned (OpenSpec.upto fnExactFourTermSumSpec)

/-- 'laws.FnExactNamedWeb', WHERE WHAT IT READS IS OF BULK AT MOST 1048576: true; the input reads as it did. -/
def fnExactNamedWebUptoRow : OpenClaim := { program := "ytdeefgmjlcdpfaa", sum := "bf7633678420783093a893b70229d46f03b1d05c41b1fffae9c60ff9d27c9b05", func := "loop.example/g01303/laws.FnExactNamedWeb", spec := "fnExactNamedWeb", plainKeys := false, apart := false, narrowed := true }
def FnExactNamedWebUptoSaid : Prop := fnExactNamedWebUptoRow.holds Try.pinned (OpenSpec.upto fnExactNamedWebSpec)

/-- 'laws.FnExactWebOfWord', WHERE WHAT IT READS IS OF BULK AT MOST 1048576: true; the input reads as it did. -/
def fnExactWebOfWordUptoRow : OpenClaim := { program := "ytdeefgmjlcdpfaa", sum := "bf7633678420783093a893b70229d46f03b1d05c41b1fffae9c60ff9d27c9b05", func := "loop.example/g01303/laws.FnExactWebOfWord", spec := "fnExactWebOfWord", plainKeys := false, apart := false, narrowed := true }
def FnExactWebOfWordUptoSaid : Prop := fnExactWebOfWordUptoRow.holds Try.pinned (OpenSpec.upto fnExactWebOfWordSpec)

/-- 'laws.FnExactTwistNumbers', WHERE WHAT IT READS IS OF BULK AT MOST 1048576: true; the input reads as it did. -/
def fnExactTwistNumbersUptoRow : OpenClaim := { program := "ytdeefgmjlcdpfaa", sum := "bf7633678420783093a893b70229d46f03b1d05c41b1fffae9c60ff9d27c9b05", func := "loop.example/g01303/laws.FnExactTwistNumbers", spec := "fnExactTwistNumbers", inPlace := ["(*sync.WaitGroup).Add", "internal/race.ReleaseMerge", "internal/race.Disable", "internal/race.Enable", "internal/synctest.IsInBubble", "internal/synctest.Associate[sync.WaitGroup]", "sync.fatal", "sync/atomic.OrUint64", "sync/atomic.AddUint64", "internal/race.Read", "sync/atomic.LoadUint64", "sync/atomic.StoreUint64", "internal/synctest.Disassociate[sync.WaitGroup]", "sync.runtime_Semrelease", "(*sync.WaitGroup).Done", "(*sync.WaitGroup).Wait", "internal/race.Acquire", "internal/synctest.IsAssociated[sync.WaitGroup]", "sync/atomic.CompareAndSwapUint64", "internal/race.Write", "sync.runtime_SemacquireWaitGroup"], unfollowed := true, recurses := true, plainKeys := false, leaving := true, apart := false, narrowed := true }
def FnExactTwistNumbersUptoSaid : Prop := fnExactTwistNumbersUptoRow.holds Try.pinned (OpenSpec.upto fnExactTwistNumbersSpec)

/-- 'laws.FnExactSoWeight', WHERE WHAT IT READS IS OF BULK AT MOST 1048576: true; the input reads as it did. -/
def fnExactSoWeightUptoRow : OpenClaim := { program := "ytdeefgmjlcdpfaa", sum := "bf7633678420783093a893b70229d46f03b1d05c41b1fffae9c60ff9d27c9b05", func := "loop.example/g01303/laws.FnExactSoWeight", spec := "fnExactSoWeight", inPlace := ["(*sync.WaitGroup).Add", "internal/race.ReleaseMerge", "internal/race.Disable", "internal/race.Enable", "internal/synctest.IsInBubble", "internal/synctest.Associate[sync.WaitGroup]", "sync.fatal", "sync/atomic.OrUint64", "sync/atomic.AddUint64", "internal/race.Read", "sync/atomic.LoadUint64", "sync/atomic.StoreUint64", "internal/synctest.Disassociate[sync.WaitGroup]", "sync.runtime_Semrelease", "(*sync.WaitGroup).Done", "(*sync.WaitGroup).Wait", "internal/race.Acquire", "internal/synctest.IsAssociated[sync.WaitGroup]", "sync/atomic.CompareAndSwapUint64", "internal/race.Write", "sync.runtime_SemacquireWaitGroup"], unfollowed := true, recurses := true, plainKeys := false, leaving := true, apart := false, narrowed := true }
def FnExactSoWeightUptoSaid : Prop := fnExactSoWeightUptoRow.holds Try.pinned (OpenSpec.upto fnExactSoWeightSpec)

end Rows
end Go.Proofs.Ytdeefgmjlcdpfaa
