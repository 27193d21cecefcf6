/-
  No cell of these rows narrows 'for every input' (looked for: loops, veiled, ifaces, maps, wideKeys, modest, calm, conditions, laid).
  DERIVED. THE GIVEN ROWS OF THIS SEAT. 12 by the template 'for every input the law returns true; each argument reads behind the call as it read before'; 0 by the template 'total and deterministic' (their statements: YtacfiljclklkdaaTotals.lean).
  GIVEN WITH THE SEED: the statements are not yours to turn. If you find one false, say at which input.
  Laid BY PROGRAM, IN A SANDBOX (cutbox-rows.mjs): the forced cells as the released guide's own fill.sh prints them over the translation 8eccc6bb279f3b3a… (all of the seat's roots in one cut). By AI agents, Wed Nov 11 2026. No macro, syntax, notation, axiom, sorry.
-/
import Derived.Test.YtacfiljclklkdaaChecked
import GoSem.Claim
import GoSem.ClaimJoined
import GoSem.ClaimMapViews
import Derived.JoinedTies
import Derived.KernelRfl
namespace Go.Proofs.Ytacfiljclklkdaa
/- THE CELL 'sum', in the pinned program and in every row, IS THE sha256 OF THE DUMP (.gsa) THAT YtacfiljclklkdaaProg.lean LOADS. Nothing in Lean hashes anything: it is a label: what it is worth is what the hold of that sum in a sandbox is worth. -/
noncomputable def Try.pinned : Pinned := { name := "ytacfiljclklkdaa", sum := "8eccc6bb279f3b3ad5b68439bc1bfb1a508f5c72c51683c334a95e38ddc028f0", checked := Try.checked }
namespace Rows
def none {H : Type} : Left H := { results := [], args := [] }

/-- 'laws.FnExactPivotWord': WHATEVER THE INPUT: true; the input reads as it did. -/
def fnExactPivotWordSpec : ChangeSpec := { name := "fnExactPivotWord", fn := fun _ => fun
  | [d1, d2, d3] => { results := [.lit (.bool true)], args := [d1, d2, d3] }
  | _ => none }
def fnExactPivotWordRow : OpenClaim := { program := "ytacfiljclklkdaa", sum := "8eccc6bb279f3b3ad5b68439bc1bfb1a508f5c72c51683c334a95e38ddc028f0", func := "loop.example/g01303/laws.FnExactPivotWord", spec := "fnExactPivotWord", unfollowed := true, recurses := true, leaving := true, apart := false }
def FnExactPivotWordSaid : Prop := fnExactPivotWordRow.holds Try.pinned (OpenSpec.ofChange fnExactPivotWordSpec)

/-- ITS FALSE NEIGHBOUR: 'it returns false'. Refute it at one input. -/
def fnExactPivotWordWrong : ChangeSpec := { name := "fnExactPivotWord", fn := fun _ => fun
  | [d1, d2, d3] => { results := [.lit (.bool false)], args := [d1, d2, d3] }
  | _ => none }
def FnExactPivotWordWrongFalsely : Prop := fnExactPivotWordRow.holds Try.pinned (OpenSpec.ofChange fnExactPivotWordWrong)

/-- 'laws.FnExactInterlacePolynomial': WHATEVER THE INPUT: true; the input reads as it did. -/
def fnExactInterlacePolynomialSpec : ChangeSpec := { name := "fnExactInterlacePolynomial", fn := fun _ => fun
  | [d] => { results := [.lit (.bool true)], args := [d] }
  | _ => none }
def fnExactInterlacePolynomialRow : OpenClaim := { program := "ytacfiljclklkdaa", sum := "8eccc6bb279f3b3ad5b68439bc1bfb1a508f5c72c51683c334a95e38ddc028f0", func := "loop.example/g01303/laws.FnExactInterlacePolynomial", spec := "fnExactInterlacePolynomial", unfollowed := true, recurses := true, leaving := true, apart := false }
def FnExactInterlacePolynomialSaid : Prop := fnExactInterlacePolynomialRow.holds Try.pinned (OpenSpec.ofChange fnExactInterlacePolynomialSpec)

/-- ITS FALSE NEIGHBOUR: 'it returns false'. Refute it at one input. -/
def fnExactInterlacePolynomialWrong : ChangeSpec := { name := "fnExactInterlacePolynomial", fn := fun _ => fun
  | [d] => { results := [.lit (.bool false)], args := [d] }
  | _ => none }
def FnExactInterlacePolynomialWrongFalsely : Prop := fnExactInterlacePolynomialRow.holds Try.pinned (OpenSpec.ofChange fnExactInterlacePolynomialWrong)

/-- 'laws.FnExactValueOfInterlace': WHATEVER THE INPUT: true; the input reads as it did. -/
def fnExactValueOfInterlaceSpec : ChangeSpec := { name := "fnExactValueOfInterlace", fn := fun _ => fun
  | [d1, d2] => { results := [.lit (.bool true)], args := [d1, d2] }
  | _ => none }
def fnExactValueOfInterlaceRow : OpenClaim := { program := "ytacfiljclklkdaa", sum := "8eccc6bb279f3b3ad5b68439bc1bfb1a508f5c72c51683c334a95e38ddc028f0", func := "loop.example/g01303/laws.FnExactValueOfInterlace", spec := "fnExactValueOfInterlace", unfollowed := true, recurses := true, leaving := true, apart := false }
def FnExactValueOfInterlaceSaid : Prop := fnExactValueOfInterlaceRow.holds Try.pinned (OpenSpec.ofChange fnExactValueOfInterlaceSpec)

/-- ITS FALSE NEIGHBOUR: 'it returns false'. Refute it at one input. -/
def fnExactValueOfInterlaceWrong : ChangeSpec := { name := "fnExactValueOfInterlace", fn := fun _ => fun
  | [d1, d2] => { results := [.lit (.bool false)], args := [d1, d2] }
  | _ => none }
def FnExactValueOfInterlaceWrongFalsely : Prop := fnExactValueOfInterlaceRow.holds Try.pinned (OpenSpec.ofChange fnExactValueOfInterlaceWrong)

/-- 'laws.FnExactMatchingNumbers': WHATEVER THE INPUT: true; the input reads as it did. -/
def fnExactMatchingNumbersSpec : ChangeSpec := { name := "fnExactMatchingNumbers", fn := fun _ => fun
  | [d] => { results := [.lit (.bool true)], args := [d] }
  | _ => none }
def fnExactMatchingNumbersRow : OpenClaim := { program := "ytacfiljclklkdaa", sum := "8eccc6bb279f3b3ad5b68439bc1bfb1a508f5c72c51683c334a95e38ddc028f0", func := "loop.example/g01303/laws.FnExactMatchingNumbers", spec := "fnExactMatchingNumbers", unfollowed := true, recurses := true, leaving := true, apart := false }
def FnExactMatchingNumbersSaid : Prop := fnExactMatchingNumbersRow.holds Try.pinned (OpenSpec.ofChange fnExactMatchingNumbersSpec)

/-- ITS FALSE NEIGHBOUR: 'it returns false'. Refute it at one input. -/
def fnExactMatchingNumbersWrong : ChangeSpec := { name := "fnExactMatchingNumbers", fn := fun _ => fun
  | [d] => { results := [.lit (.bool false)], args := [d] }
  | _ => none }
def FnExactMatchingNumbersWrongFalsely : Prop := fnExactMatchingNumbersRow.holds Try.pinned (OpenSpec.ofChange fnExactMatchingNumbersWrong)

/-- 'laws.FnExactCountColourings': WHATEVER THE INPUT: true; the input reads as it did. -/
def fnExactCountColouringsSpec : ChangeSpec := { name := "fnExactCountColourings", fn := fun _ => fun
  | [d1, d2] => { results := [.lit (.bool true)], args := [d1, d2] }
  | _ => none }
def fnExactCountColouringsRow : OpenClaim := { program := "ytacfiljclklkdaa", sum := "8eccc6bb279f3b3ad5b68439bc1bfb1a508f5c72c51683c334a95e38ddc028f0", func := "loop.example/g01303/laws.FnExactCountColourings", spec := "fnExactCountColourings", unfollowed := true, recurses := true, leaving := true, apart := false }
def FnExactCountColouringsSaid : Prop := fnExactCountColouringsRow.holds Try.pinned (OpenSpec.ofChange fnExactCountColouringsSpec)

/-- ITS FALSE NEIGHBOUR: 'it returns false'. Refute it at one input. -/
def fnExactCountColouringsWrong : ChangeSpec := { name := "fnExactCountColourings", fn := fun _ => fun
  | [d1, d2] => { results := [.lit (.bool false)], args := [d1, d2] }
  | _ => none }
def FnExactCountColouringsWrongFalsely : Prop := fnExactCountColouringsRow.holds Try.pinned (OpenSpec.ofChange fnExactCountColouringsWrong)

/-- 'laws.FnExactColouringPolynomial': WHATEVER THE INPUT: true; the input reads as it did. -/
def fnExactColouringPolynomialSpec : ChangeSpec := { name := "fnExactColouringPolynomial", fn := fun _ => fun
  | [d] => { results := [.lit (.bool true)], args := [d] }
  | _ => none }
def fnExactColouringPolynomialRow : OpenClaim := { program := "ytacfiljclklkdaa", sum := "8eccc6bb279f3b3ad5b68439bc1bfb1a508f5c72c51683c334a95e38ddc028f0", func := "loop.example/g01303/laws.FnExactColouringPolynomial", spec := "fnExactColouringPolynomial", unfollowed := true, recurses := true, leaving := true, apart := false }
def FnExactColouringPolynomialSaid : Prop := fnExactColouringPolynomialRow.holds Try.pinned (OpenSpec.ofChange fnExactColouringPolynomialSpec)

/-- ITS FALSE NEIGHBOUR: 'it returns false'. Refute it at one input. -/
def fnExactColouringPolynomialWrong : ChangeSpec := { name := "fnExactColouringPolynomial", fn := fun _ => fun
  | [d] => { results := [.lit (.bool false)], args := [d] }
  | _ => none }
def FnExactColouringPolynomialWrongFalsely : Prop := fnExactColouringPolynomialRow.holds Try.pinned (OpenSpec.ofChange fnExactColouringPolynomialWrong)

/-- 'laws.FnExactLeastColours': WHATEVER THE INPUT: true; the input reads as it did. -/
def fnExactLeastColoursSpec : ChangeSpec := { name := "fnExactLeastColours", fn := fun _ => fun
  | [d] => { results := [.lit (.bool true)], args := [d] }
  | _ => none }
def fnExactLeastColoursRow : OpenClaim := { program := "ytacfiljclklkdaa", sum := "8eccc6bb279f3b3ad5b68439bc1bfb1a508f5c72c51683c334a95e38ddc028f0", func := "loop.example/g01303/laws.FnExactLeastColours", spec := "fnExactLeastColours", unfollowed := true, recurses := true, leaving := true, apart := false }
def FnExactLeastColoursSaid : Prop := fnExactLeastColoursRow.holds Try.pinned (OpenSpec.ofChange fnExactLeastColoursSpec)

/-- ITS FALSE NEIGHBOUR: 'it returns false'. Refute it at one input. -/
def fnExactLeastColoursWrong : ChangeSpec := { name := "fnExactLeastColours", fn := fun _ => fun
  | [d] => { results := [.lit (.bool false)], args := [d] }
  | _ => none }
def FnExactLeastColoursWrongFalsely : Prop := fnExactLeastColoursRow.holds Try.pinned (OpenSpec.ofChange fnExactLeastColoursWrong)

/-- 'laws.FnExactAreAlikeGraphs': WHATEVER THE INPUT: true; the input reads as it did. -/
def fnExactAreAlikeGraphsSpec : ChangeSpec := { name := "fnExactAreAlikeGraphs", fn := fun _ => fun
  | [d1, d2] => { results := [.lit (.bool true)], args := [d1, d2] }
  | _ => none }
def fnExactAreAlikeGraphsRow : OpenClaim := { program := "ytacfiljclklkdaa", sum := "8eccc6bb279f3b3ad5b68439bc1bfb1a508f5c72c51683c334a95e38ddc028f0", func := "loop.example/g01303/laws.FnExactAreAlikeGraphs", spec := "fnExactAreAlikeGraphs", unfollowed := true, recurses := true, leaving := true, apart := false }
def FnExactAreAlikeGraphsSaid : Prop := fnExactAreAlikeGraphsRow.holds Try.pinned (OpenSpec.ofChange fnExactAreAlikeGraphsSpec)

/-- ITS FALSE NEIGHBOUR: 'it returns false'. Refute it at one input. -/
def fnExactAreAlikeGraphsWrong : ChangeSpec := { name := "fnExactAreAlikeGraphs", fn := fun _ => fun
  | [d1, d2] => { results := [.lit (.bool false)], args := [d1, d2] }
  | _ => none }
def FnExactAreAlikeGraphsWrongFalsely : Prop := fnExactAreAlikeGraphsRow.holds Try.pinned (OpenSpec.ofChange fnExactAreAlikeGraphsWrong)

/-- 'laws.FnExactCrossingCode': WHATEVER THE INPUT: true; the input reads as it did. -/
def fnExactCrossingCodeSpec : ChangeSpec := { name := "fnExactCrossingCode", fn := fun _ => fun
  | [d] => { results := [.lit (.bool true)], args := [d] }
  | _ => none }
def fnExactCrossingCodeRow : OpenClaim := { program := "ytacfiljclklkdaa", sum := "8eccc6bb279f3b3ad5b68439bc1bfb1a508f5c72c51683c334a95e38ddc028f0", func := "loop.example/g01303/laws.FnExactCrossingCode", spec := "fnExactCrossingCode", unfollowed := true, recurses := true, leaving := true, apart := false }
def FnExactCrossingCodeSaid : Prop := fnExactCrossingCodeRow.holds Try.pinned (OpenSpec.ofChange fnExactCrossingCodeSpec)

/-- ITS FALSE NEIGHBOUR: 'it returns false'. Refute it at one input. -/
def fnExactCrossingCodeWrong : ChangeSpec := { name := "fnExactCrossingCode", fn := fun _ => fun
  | [d] => { results := [.lit (.bool false)], args := [d] }
  | _ => none }
def FnExactCrossingCodeWrongFalsely : Prop := fnExactCrossingCodeRow.holds Try.pinned (OpenSpec.ofChange fnExactCrossingCodeWrong)

/-- 'laws.FnExactAreAlike': WHATEVER THE INPUT: true; the input reads as it did. -/
def fnExactAreAlikeSpec : ChangeSpec := { name := "fnExactAreAlike", fn := fun _ => fun
  | [d1, d2] => { results := [.lit (.bool true)], args := [d1, d2] }
  | _ => none }
def fnExactAreAlikeRow : OpenClaim := { program := "ytacfiljclklkdaa", sum := "8eccc6bb279f3b3ad5b68439bc1bfb1a508f5c72c51683c334a95e38ddc028f0", func := "loop.example/g01303/laws.FnExactAreAlike", spec := "fnExactAreAlike", unfollowed := true, recurses := true, leaving := true, apart := false }
def FnExactAreAlikeSaid : Prop := fnExactAreAlikeRow.holds Try.pinned (OpenSpec.ofChange fnExactAreAlikeSpec)

/-- ITS FALSE NEIGHBOUR: 'it returns false'. Refute it at one input. -/
def fnExactAreAlikeWrong : ChangeSpec := { name := "fnExactAreAlike", fn := fun _ => fun
  | [d1, d2] => { results := [.lit (.bool false)], args := [d1, d2] }
  | _ => none }
def FnExactAreAlikeWrongFalsely : Prop := fnExactAreAlikeRow.holds Try.pinned (OpenSpec.ofChange fnExactAreAlikeWrong)

/-- 'laws.FnExactCountMeanders': WHATEVER THE INPUT: true; the input reads as it did. -/
def fnExactCountMeandersSpec : ChangeSpec := { name := "fnExactCountMeanders", fn := fun _ => fun
  | [d] => { results := [.lit (.bool true)], args := [d] }
  | _ => none }
def fnExactCountMeandersRow : OpenClaim := { program := "ytacfiljclklkdaa", sum := "8eccc6bb279f3b3ad5b68439bc1bfb1a508f5c72c51683c334a95e38ddc028f0", func := "loop.example/g01303/laws.FnExactCountMeanders", spec := "fnExactCountMeanders", unfollowed := true, recurses := true, leaving := true, apart := false }
def FnExactCountMeandersSaid : Prop := fnExactCountMeandersRow.holds Try.pinned (OpenSpec.ofChange fnExactCountMeandersSpec)

/-- ITS FALSE NEIGHBOUR: 'it returns false'. Refute it at one input. -/
def fnExactCountMeandersWrong : ChangeSpec := { name := "fnExactCountMeanders", fn := fun _ => fun
  | [d] => { results := [.lit (.bool false)], args := [d] }
  | _ => none }
def FnExactCountMeandersWrongFalsely : Prop := fnExactCountMeandersRow.holds Try.pinned (OpenSpec.ofChange fnExactCountMeandersWrong)

/-- 'laws.FnExactFreeWeight': WHATEVER THE INPUT: true; the input reads as it did. -/
def fnExactFreeWeightSpec : ChangeSpec := { name := "fnExactFreeWeight", fn := fun _ => fun
  | [d] => { results := [.lit (.bool true)], args := [d] }
  | _ => none }
def fnExactFreeWeightRow : OpenClaim := { program := "ytacfiljclklkdaa", sum := "8eccc6bb279f3b3ad5b68439bc1bfb1a508f5c72c51683c334a95e38ddc028f0", func := "loop.example/g01303/laws.FnExactFreeWeight", spec := "fnExactFreeWeight", inPlace := ["(*sync.WaitGroup).Add", "internal/race.ReleaseMerge", "internal/race.Disable", "internal/race.Enable", "internal/synctest.IsInBubble", "internal/synctest.Associate[sync.WaitGroup]", "sync.fatal", "sync/atomic.OrUint64", "sync/atomic.AddUint64", "internal/race.Read", "sync/atomic.LoadUint64", "sync/atomic.StoreUint64", "internal/synctest.Disassociate[sync.WaitGroup]", "sync.runtime_Semrelease", "(*sync.WaitGroup).Done", "(*sync.WaitGroup).Wait", "internal/race.Acquire", "internal/synctest.IsAssociated[sync.WaitGroup]", "sync/atomic.CompareAndSwapUint64", "internal/race.Write", "sync.runtime_SemacquireWaitGroup"], unfollowed := true, recurses := true, leaving := true, apart := false }
def FnExactFreeWeightSaid : Prop := fnExactFreeWeightRow.holds Try.pinned (OpenSpec.ofChange fnExactFreeWeightSpec)

/-- ITS FALSE NEIGHBOUR: 'it returns false'. Refute it at one input. -/
def fnExactFreeWeightWrong : ChangeSpec := { name := "fnExactFreeWeight", fn := fun _ => fun
  | [d] => { results := [.lit (.bool false)], args := [d] }
  | _ => none }
def FnExactFreeWeightWrongFalsely : Prop := fnExactFreeWeightRow.holds Try.pinned (OpenSpec.ofChange fnExactFreeWeightWrong)

/- THE SECOND FORM. 'bulk': how many values and letters a reading holds, each counted each time it is reached (what is shared counts as often as it is met; a slice's spare places count too). A statement '..UptoSaid' is the law's where the arguments, and the package variables that the reading takes, are together of bulk at most 1048576: NARROWER than '..Said'. Prove '..Said' where nothing that the law and all that it calls make is longer than what came in: it says more and counts as full. Else prove '..UptoSaid'. A law counts once. -/
mutual
def uptoBulk {H : Type} : DataW H → Nat
  | .lit (.string bytes) => bytes.length + 1
  | .lit _ => 1
  | .nil => 1
  | .ptr d => uptoBulk d + 1
  | .slice elems spare => uptoBulkAll elems + uptoBulkAll spare + 1
  | .agg parts => uptoBulkAll parts + 1
  | .iface _ d => uptoBulk d + 1
  | .map entries => uptoBulkEntries entries + 1
  | .held _ => 1
def uptoBulkAll {H : Type} : List (DataW H) → Nat
  | [] => 0
  | d :: r => uptoBulk d + uptoBulkAll r
def uptoBulkEntries {H : Type} : List (Lit × DataW H) → Nat
  | [] => 0
  | x :: r => uptoBulkEntry x + uptoBulkEntries r
def uptoBulkEntry {H : Type} : Lit × DataW H → Nat
  | (.string bytes, d) => bytes.length + uptoBulk d + 1
  | (_, d) => uptoBulk d + 1
 end
def uptoSmall : (H : Type) → List (DataW H) → Bool := fun _ ds => decide (uptoBulkAll ds ≤ 1048576)
def OpenSpec.upto (s : _root_.Go.ChangeSpec) : _root_.Go.OpenSpec := { _root_.Go.OpenSpec.ofChange s with cond := some uptoSmall }

/-- 'laws.FnExactPivotWord', WHERE WHAT IT READS IS OF BULK AT MOST 1048576: true; the input reads as it did. -/
def fnExactPivotWordUptoRow : OpenClaim := { program := "ytacfiljclklkdaa", sum := "8eccc6bb279f3b3ad5b68439bc1bfb1a508f5c72c51683c334a95e38ddc028f0", func := "loop.example/g01303/laws.FnExactPivotWord", spec := "fnExactPivotWord", unfollowed := true, recurses := true, leaving := true, apart := false, narrowed := true }
def FnExactPivotWordUptoSaid : Prop := fnExactPivotWordUptoRow.holds Try.pinned (OpenSpec.upto fnExactPivotWordSpec)

/-- 'laws.FnExactInterlacePolynomial', WHERE WHAT IT READS IS OF BULK AT MOST 1048576: true; the input reads as it did. -/
def fnExactInterlacePolynomialUptoRow : OpenClaim := { program := "ytacfiljclklkdaa", sum := "8eccc6bb279f3b3ad5b68439bc1bfb1a508f5c72c51683c334a95e38ddc028f0", func := "loop.example/g01303/laws.FnExactInterlacePolynomial", spec := "fnExactInterlacePolynomial", unfollowed := true, recurses := true, leaving := true, apart := false, narrowed := true }
def FnExactInterlacePolynomialUptoSaid : Prop := fnExactInterlacePolynomialUptoRow.holds Try.pinned (OpenSpec.upto fnExactInterlacePolynomialSpec)

/-- 'laws.FnExactValueOfInterlace', WHERE WHAT IT READS IS OF BULK AT MOST 1048576: true; the input reads as it did. -/
def fnExactValueOfInterlaceUptoRow : OpenClaim := { program := "ytacfiljclklkdaa", sum := "8eccc6bb279f3b3ad5b68439bc1bfb1a508f5c72c51683c334a95e38ddc028f0", func := "loop.example/g01303/laws.FnExactValueOfInterlace", spec := "fnExactValueOfInterlace", unfollowed := true, recurses := true, leaving := true, apart := false, narrowed := true }
def FnExactValueOfInterlaceUptoSaid : Prop := fnExactValueOfInterlaceUptoRow.holds Try.pinned (OpenSpec.upto fnExactValueOfInterlaceSpec)

/-- 'laws.FnExactMatchingNumbers', WHERE WHAT IT READS IS OF BULK AT MOST 1048576: true; the input reads as it did. -/
def fnExactMatchingNumbersUptoRow : OpenClaim := { program := "ytacfiljclklkdaa", sum := "8eccc6bb279f3b3ad5b68439bc1bfb1a508f5c72c51683c334a95e38ddc028f0", func := "loop.example/g01303/laws.FnExactMatchingNumbers", spec := "fnExactMatchingNumbers", unfollowed := true, recurses := true, leaving := true, apart := false, narrowed := true }
def FnExactMatchingNumbersUptoSaid : Prop := fnExactMatchingNumbersUptoRow.holds Try.pinned (OpenSpec.upto fnExactMatchingNumbersSpec)

/-- 'laws.FnExactCountColourings', WHERE WHAT IT READS IS OF BULK AT MOST 1048576: true; the input reads as it did. -/
def fnExactCountColouringsUptoRow : OpenClaim := { program := "ytacfiljclklkdaa", sum := "8eccc6bb279f3b3ad5b68439bc1bfb1a508f5c72c51683c334a95e38ddc028f0", func := "loop.example/g01303/laws.FnExactCountColourings", spec := "fnExactCountColourings", unfollowed := true, recurses := true, leaving := true, apart := false, narrowed := true }
def FnExactCountColouringsUptoSaid : Prop := fnExactCountColouringsUptoRow.holds Try.pinned (OpenSpec.upto fnExactCountColouringsSpec)

/-- 'laws.FnExactColouringPolynomial', WHERE WHAT IT READS IS OF BULK AT MOST 1048576: true; the input reads as it did. -/
def fnExactColouringPolynomialUptoRow : OpenClaim := { program := "ytacfiljclklkdaa", sum := "8eccc6bb279f3b3ad5b68439bc1bfb1a508f5c72c51683c334a95e38ddc028f0", func := "loop.example/g01303/laws.FnExactColouringPolynomial", spec := "fnExactColouringPolynomial", unfollowed := true, recurses := true, leaving := true, apart := false, narrowed := true }
def FnExactColouringPolynomialUptoSaid : Prop := fnExactColouringPolynomialUptoRow.holds Try.pinned (OpenSpec.upto fnExactColouringPolynomialSpec)

/-- 'laws.FnExactLeastColours', WHERE WHAT IT READS IS OF BULK AT MOST 1048576: true; the input reads as it did. -/
def fnExactLeastColoursUptoRow : OpenClaim := { program := "ytacfiljclklkdaa", sum := "8eccc6bb279f3b3ad5b68439bc1bfb1a508f5c72c51683c334a95e38ddc028f0", func := "loop.example/g01303/laws.FnExactLeastColours", spec := "fnExactLeastColours", unfollowed := true, recurses := true, leaving := true, apart := false, narrowed := true }
def FnExactLeastColoursUptoSaid : Prop := fnExactLeastColoursUptoRow.holds Try.pinned (OpenSpec.upto fnExactLeastColoursSpec)

/-- 'laws.FnExactAreAlikeGraphs', WHERE WHAT IT READS IS OF BULK AT MOST 1048576: true; the input reads as it did. -/
def fnExactAreAlikeGraphsUptoRow : OpenClaim := { program := "ytacfiljclklkdaa", sum := "8eccc6bb279f3b3ad5b68439bc1bfb1a508f5c72c51683c334a95e38ddc028f0", func := "loop.example/g01303/laws.FnExactAreAlikeGraphs", spec := "fnExactAreAlikeGraphs", unfollowed := true, recurses := true, leaving := true, apart := false, narrowed := true }
def FnExactAreAlikeGraphsUptoSaid : Prop := fnExactAreAlikeGraphsUptoRow.holds Try.pinned (OpenSpec.upto fnExactAreAlikeGraphsSpec)

/-- 'laws.FnExactCrossingCode', WHERE WHAT IT READS IS OF BULK AT MOST 1048576: true; the input reads as it did. -/
def fnExactCrossingCodeUptoRow : OpenClaim := { program := "ytacfiljclklkdaa", sum := "8eccc6bb279f3b3ad5b68439bc1bfb1a508f5c72c51683c334a95e38ddc028f0", func := "loop.example/g01303/laws.FnExactCrossingCode", spec := "fnExactCrossingCode", unfollowed := true, recurses := true, leaving := true, apart := false, narrowed := true }
def FnExactCrossingCodeUptoSaid : Prop := fnExactCrossingCodeUptoRow.holds Try.pinned (OpenSpec.upto fnExactCrossingCodeSpec)

/-- 'laws.FnExactAreAlike', WHERE WHAT IT READS IS OF BULK AT MOST 1048576: true; the input reads as it did. -/
def fnExactAreAlikeUptoRow : OpenClaim := { program := "ytacfiljclklkdaa", sum := "8eccc6bb279f3b3ad5b68439bc1bfb1a508f5c72c51683c334a95e38ddc028f0", func := "loop.example/g01303/laws.FnExactAreAlike", spec := "fnExactAreAlike", unfollowed := true, recurses := true, leaving := true, apart := false, narrowed := true }
def FnExactAreAlikeUptoSaid : Prop := fnExactAreAlikeUptoRow.holds Try.pinned (OpenSpec.upto fnExactAreAlikeSpec)

/-- 'laws.FnExactCountMeanders', WHERE WHAT IT READS IS OF BULK AT MOST 1048576: true; the input reads as it did. -/
def fnExactCountMeandersUptoRow : OpenClaim := { program := "ytacfiljclklkdaa", sum := "8eccc6bb279f3b3ad5b68439bc1bfb1a508f5c72c51683c334a95e38ddc028f0", func := "loop.example/g01303/laws.FnExactCountMeanders", spec := "fnExactCountMeanders", unfollowed := true, recurses := true, leaving := true, apart := false, narrowed := true }
def FnExactCountMeandersUptoSaid : Prop := fnExactCountMeandersUptoRow.holds Try.pinned (OpenSpec.upto fnExactCountMeandersSpec)

/-- 'laws.FnExactFreeWeight', WHERE WHAT IT READS IS OF BULK AT MOST 1048576: true; the input reads as it did. -/
def fnExactFreeWeightUptoRow : OpenClaim := { program := "ytacfiljclklkdaa", sum := "8eccc6bb279f3b3ad5b68439bc1bfb1a508f5c72c51683c334a95e38ddc028f0", func := "loop.example/g01303/laws.FnExactFreeWeight", spec := "fnExactFreeWeight", inPlace := ["(*sync.WaitGroup).Add", "internal/race.ReleaseMerge", "internal/race.Disable", "internal/race.Enable", "internal/synctest.IsInBubble", "internal/synctest.Associate[sync.WaitGroup]", "sync.fatal", "sync/atomic.OrUint64", "sync/atomic.AddUint64", "internal/race.Read", "sync/atomic.LoadUint64", "sync/atomic.StoreUint64", "internal/synctest.Disassociate[sync.WaitGroup]", "sync.runtime_Semrelease", "(*sync.WaitGroup).Done", "(*sync.WaitGroup).Wait", "internal/race.Acquire", "internal/synctest.IsAssociated[sync.WaitGroup]", "sync/atomic.CompareAndSwapUint64", "internal/race.Write", "sync.runtime_SemacquireWaitGroup"], unfollowed := true, recurses := true, leaving := true, apart := false, narrowed := true }
def FnExactFreeWeightUptoSaid : Prop := fnExactFreeWeightUptoRow.holds Try.pinned (OpenSpec.upto fnExactFreeWeightSpec)

end Rows
end Go.Proofs.Ytacfiljclklkdaa
