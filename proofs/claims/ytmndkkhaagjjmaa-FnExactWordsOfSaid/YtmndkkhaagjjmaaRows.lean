/-
  No cell of these rows narrows 'for every input' (looked for: loops, veiled, ifaces, maps, wideKeys, modest, calm, conditions, laid).
  DERIVED. THE GIVEN ROWS OF THIS SEAT. 12 by the template 'for every input the law returns true; each argument reads behind the call as it read before'; 0 by the template 'total and deterministic' (their statements: YtmndkkhaagjjmaaTotals.lean).
  GIVEN WITH THE SEED: the statements are not yours to turn. If you find one false, say at which input.
  Laid BY PROGRAM, IN A SANDBOX (cutbox-rows.mjs): the forced cells as the released guide's own fill.sh prints them over the translation f8f107980e253085… (all of the seat's roots in one cut). By AI agents, Wed Nov 11 2026. No macro, syntax, notation, axiom, sorry.
-/
import Derived.Test.YtmndkkhaagjjmaaChecked
import GoSem.Claim
import GoSem.ClaimJoined
import GoSem.ClaimMapViews
import Derived.JoinedTies
import Derived.KernelRfl
namespace Go.Proofs.Ytmndkkhaagjjmaa
/- THE CELL 'sum', in the pinned program and in every row, IS THE sha256 OF THE DUMP (.gsa) THAT YtmndkkhaagjjmaaProg.lean LOADS. Nothing in Lean hashes anything: it is a label: what it is worth is what the hold of that sum in a sandbox is worth. -/
noncomputable def Try.pinned : Pinned := { name := "ytmndkkhaagjjmaa", sum := "f8f107980e253085ac40ae40ed680a278416233b49e553a22295629229a08a54", checked := Try.checked }
namespace Rows
def none {H : Type} : Left H := { results := [], args := [] }

/-- 'laws.FnExactCountPattern': WHATEVER THE INPUT: true; the input reads as it did. -/
def fnExactCountPatternSpec : ChangeSpec := { name := "fnExactCountPattern", fn := fun _ => fun
  | [d1, d2] => { results := [.lit (.bool true)], args := [d1, d2] }
  | _ => none }
def fnExactCountPatternRow : OpenClaim := { program := "ytmndkkhaagjjmaa", sum := "f8f107980e253085ac40ae40ed680a278416233b49e553a22295629229a08a54", func := "loop.example/g01303/laws.FnExactCountPattern", spec := "fnExactCountPattern", unfollowed := true, recurses := true, plainKeys := false, leaving := true, apart := false }
def FnExactCountPatternSaid : Prop := fnExactCountPatternRow.holds Try.pinned (OpenSpec.ofChange fnExactCountPatternSpec)

/-- ITS FALSE NEIGHBOUR: 'it returns false'. Refute it at one input. -/
def fnExactCountPatternWrong : ChangeSpec := { name := "fnExactCountPattern", fn := fun _ => fun
  | [d1, d2] => { results := [.lit (.bool false)], args := [d1, d2] }
  | _ => none }
def FnExactCountPatternWrongFalsely : Prop := fnExactCountPatternRow.holds Try.pinned (OpenSpec.ofChange fnExactCountPatternWrong)

/-- 'laws.FnExactSecondNumber': WHATEVER THE INPUT: true; the input reads as it did. -/
def fnExactSecondNumberSpec : ChangeSpec := { name := "fnExactSecondNumber", fn := fun _ => fun
  | [d] => { results := [.lit (.bool true)], args := [d] }
  | _ => none }
def fnExactSecondNumberRow : OpenClaim := { program := "ytmndkkhaagjjmaa", sum := "f8f107980e253085ac40ae40ed680a278416233b49e553a22295629229a08a54", func := "loop.example/g01303/laws.FnExactSecondNumber", spec := "fnExactSecondNumber", unfollowed := true, recurses := true, plainKeys := false, leaving := true, apart := false }
def FnExactSecondNumberSaid : Prop := fnExactSecondNumberRow.holds Try.pinned (OpenSpec.ofChange fnExactSecondNumberSpec)

/-- ITS FALSE NEIGHBOUR: 'it returns false'. Refute it at one input. -/
def fnExactSecondNumberWrong : ChangeSpec := { name := "fnExactSecondNumber", fn := fun _ => fun
  | [d] => { results := [.lit (.bool false)], args := [d] }
  | _ => none }
def FnExactSecondNumberWrongFalsely : Prop := fnExactSecondNumberRow.holds Try.pinned (OpenSpec.ofChange fnExactSecondNumberWrong)

/-- 'laws.FnTransforms': WHATEVER THE INPUT: true; the input reads as it did. -/
def fnTransformsSpec : ChangeSpec := { name := "fnTransforms", fn := fun _ => fun
  | [d] => { results := [.lit (.bool true)], args := [d] }
  | _ => none }
def fnTransformsRow : OpenClaim := { program := "ytmndkkhaagjjmaa", sum := "f8f107980e253085ac40ae40ed680a278416233b49e553a22295629229a08a54", func := "loop.example/g01303/laws.FnTransforms", spec := "fnTransforms", unfollowed := true, recurses := true, plainKeys := false, leaving := true, apart := false }
def FnTransformsSaid : Prop := fnTransformsRow.holds Try.pinned (OpenSpec.ofChange fnTransformsSpec)

/-- ITS FALSE NEIGHBOUR: 'it returns false'. Refute it at one input. -/
def fnTransformsWrong : ChangeSpec := { name := "fnTransforms", fn := fun _ => fun
  | [d] => { results := [.lit (.bool false)], args := [d] }
  | _ => none }
def FnTransformsWrongFalsely : Prop := fnTransformsRow.holds Try.pinned (OpenSpec.ofChange fnTransformsWrong)

/-- 'laws.FnExactDivisionsOf': WHATEVER THE INPUT: true; the input reads as it did. -/
def fnExactDivisionsOfSpec : ChangeSpec := { name := "fnExactDivisionsOf", fn := fun _ => fun
  | [d] => { results := [.lit (.bool true)], args := [d] }
  | _ => none }
def fnExactDivisionsOfRow : OpenClaim := { program := "ytmndkkhaagjjmaa", sum := "f8f107980e253085ac40ae40ed680a278416233b49e553a22295629229a08a54", func := "loop.example/g01303/laws.FnExactDivisionsOf", spec := "fnExactDivisionsOf", unfollowed := true, recurses := true, plainKeys := false, leaving := true, apart := false }
def FnExactDivisionsOfSaid : Prop := fnExactDivisionsOfRow.holds Try.pinned (OpenSpec.ofChange fnExactDivisionsOfSpec)

/-- ITS FALSE NEIGHBOUR: 'it returns false'. Refute it at one input. -/
def fnExactDivisionsOfWrong : ChangeSpec := { name := "fnExactDivisionsOf", fn := fun _ => fun
  | [d] => { results := [.lit (.bool false)], args := [d] }
  | _ => none }
def FnExactDivisionsOfWrongFalsely : Prop := fnExactDivisionsOfRow.holds Try.pinned (OpenSpec.ofChange fnExactDivisionsOfWrong)

/-- 'laws.FnExactWordsOf': WHATEVER THE INPUT: true; the input reads as it did. -/
def fnExactWordsOfSpec : ChangeSpec := { name := "fnExactWordsOf", fn := fun _ => fun
  | [d] => { results := [.lit (.bool true)], args := [d] }
  | _ => none }
def fnExactWordsOfRow : OpenClaim := { program := "ytmndkkhaagjjmaa", sum := "f8f107980e253085ac40ae40ed680a278416233b49e553a22295629229a08a54", func := "loop.example/g01303/laws.FnExactWordsOf", spec := "fnExactWordsOf", unfollowed := true, recurses := true, plainKeys := false, leaving := true, apart := false }
def FnExactWordsOfSaid : Prop := fnExactWordsOfRow.holds Try.pinned (OpenSpec.ofChange fnExactWordsOfSpec)

/-- ITS FALSE NEIGHBOUR: 'it returns false'. Refute it at one input. -/
def fnExactWordsOfWrong : ChangeSpec := { name := "fnExactWordsOf", fn := fun _ => fun
  | [d] => { results := [.lit (.bool false)], args := [d] }
  | _ => none }
def FnExactWordsOfWrongFalsely : Prop := fnExactWordsOfRow.holds Try.pinned (OpenSpec.ofChange fnExactWordsOfWrong)

/-- 'laws.FnExactDiagramsOf': WHATEVER THE INPUT: true; the input reads as it did. -/
def fnExactDiagramsOfSpec : ChangeSpec := { name := "fnExactDiagramsOf", fn := fun _ => fun
  | [d] => { results := [.lit (.bool true)], args := [d] }
  | _ => none }
def fnExactDiagramsOfRow : OpenClaim := { program := "ytmndkkhaagjjmaa", sum := "f8f107980e253085ac40ae40ed680a278416233b49e553a22295629229a08a54", func := "loop.example/g01303/laws.FnExactDiagramsOf", spec := "fnExactDiagramsOf", unfollowed := true, recurses := true, plainKeys := false, leaving := true, apart := false }
def FnExactDiagramsOfSaid : Prop := fnExactDiagramsOfRow.holds Try.pinned (OpenSpec.ofChange fnExactDiagramsOfSpec)

/-- ITS FALSE NEIGHBOUR: 'it returns false'. Refute it at one input. -/
def fnExactDiagramsOfWrong : ChangeSpec := { name := "fnExactDiagramsOf", fn := fun _ => fun
  | [d] => { results := [.lit (.bool false)], args := [d] }
  | _ => none }
def FnExactDiagramsOfWrongFalsely : Prop := fnExactDiagramsOfRow.holds Try.pinned (OpenSpec.ofChange fnExactDiagramsOfWrong)

/-- 'laws.FnExactPlaceInList': WHATEVER THE INPUT: true; the input reads as it did. -/
def fnExactPlaceInListSpec : ChangeSpec := { name := "fnExactPlaceInList", fn := fun _ => fun
  | [d] => { results := [.lit (.bool true)], args := [d] }
  | _ => none }
def fnExactPlaceInListRow : OpenClaim := { program := "ytmndkkhaagjjmaa", sum := "f8f107980e253085ac40ae40ed680a278416233b49e553a22295629229a08a54", func := "loop.example/g01303/laws.FnExactPlaceInList", spec := "fnExactPlaceInList", unfollowed := true, recurses := true, plainKeys := false, leaving := true, apart := false }
def FnExactPlaceInListSaid : Prop := fnExactPlaceInListRow.holds Try.pinned (OpenSpec.ofChange fnExactPlaceInListSpec)

/-- ITS FALSE NEIGHBOUR: 'it returns false'. Refute it at one input. -/
def fnExactPlaceInListWrong : ChangeSpec := { name := "fnExactPlaceInList", fn := fun _ => fun
  | [d] => { results := [.lit (.bool false)], args := [d] }
  | _ => none }
def FnExactPlaceInListWrongFalsely : Prop := fnExactPlaceInListRow.holds Try.pinned (OpenSpec.ofChange fnExactPlaceInListWrong)

/-- 'laws.FnExactSoWeight': WHATEVER THE INPUT: true; the input reads as it did. -/
def fnExactSoWeightSpec : ChangeSpec := { name := "fnExactSoWeight", fn := fun _ => fun
  | [d] => { results := [.lit (.bool true)], args := [d] }
  | _ => none }
def fnExactSoWeightRow : OpenClaim := { program := "ytmndkkhaagjjmaa", sum := "f8f107980e253085ac40ae40ed680a278416233b49e553a22295629229a08a54", func := "loop.example/g01303/laws.FnExactSoWeight", spec := "fnExactSoWeight", inPlace := ["(*sync.WaitGroup).Add", "internal/race.ReleaseMerge", "internal/race.Disable", "internal/race.Enable", "internal/synctest.IsInBubble", "internal/synctest.Associate[sync.WaitGroup]", "sync.fatal", "sync/atomic.OrUint64", "sync/atomic.AddUint64", "internal/race.Read", "sync/atomic.LoadUint64", "sync/atomic.StoreUint64", "internal/synctest.Disassociate[sync.WaitGroup]", "sync.runtime_Semrelease", "(*sync.WaitGroup).Done", "(*sync.WaitGroup).Wait", "internal/race.Acquire", "internal/synctest.IsAssociated[sync.WaitGroup]", "sync/atomic.CompareAndSwapUint64", "internal/race.Write", "sync.runtime_SemacquireWaitGroup"], unfollowed := true, recurses := true, plainKeys := false, leaving := true, apart := false }
def FnExactSoWeightSaid : Prop := fnExactSoWeightRow.holds Try.pinned (OpenSpec.ofChange fnExactSoWeightSpec)

/-- ITS FALSE NEIGHBOUR: 'it returns false'. Refute it at one input. -/
def fnExactSoWeightWrong : ChangeSpec := { name := "fnExactSoWeight", fn := fun _ => fun
  | [d] => { results := [.lit (.bool false)], args := [d] }
  | _ => none }
def FnExactSoWeightWrongFalsely : Prop := fnExactSoWeightRow.holds Try.pinned (OpenSpec.ofChange fnExactSoWeightWrong)

/-- 'laws.FnExactWeightOfKind': WHATEVER THE INPUT: true; the input reads as it did. -/
def fnExactWeightOfKindSpec : ChangeSpec := { name := "fnExactWeightOfKind", fn := fun _ => fun
  | [d1, d2] => { results := [.lit (.bool true)], args := [d1, d2] }
  | _ => none }
def fnExactWeightOfKindRow : OpenClaim := { program := "ytmndkkhaagjjmaa", sum := "f8f107980e253085ac40ae40ed680a278416233b49e553a22295629229a08a54", func := "loop.example/g01303/laws.FnExactWeightOfKind", spec := "fnExactWeightOfKind", inPlace := ["(*sync.WaitGroup).Add", "internal/race.ReleaseMerge", "internal/race.Disable", "internal/race.Enable", "internal/synctest.IsInBubble", "internal/synctest.Associate[sync.WaitGroup]", "sync.fatal", "sync/atomic.OrUint64", "sync/atomic.AddUint64", "internal/race.Read", "sync/atomic.LoadUint64", "sync/atomic.StoreUint64", "internal/synctest.Disassociate[sync.WaitGroup]", "sync.runtime_Semrelease", "(*sync.WaitGroup).Done", "(*sync.WaitGroup).Wait", "internal/race.Acquire", "internal/synctest.IsAssociated[sync.WaitGroup]", "sync/atomic.CompareAndSwapUint64", "internal/race.Write", "sync.runtime_SemacquireWaitGroup"], unfollowed := true, recurses := true, plainKeys := false, leaving := true, apart := false }
def FnExactWeightOfKindSaid : Prop := fnExactWeightOfKindRow.holds Try.pinned (OpenSpec.ofChange fnExactWeightOfKindSpec)

/-- ITS FALSE NEIGHBOUR: 'it returns false'. Refute it at one input. -/
def fnExactWeightOfKindWrong : ChangeSpec := { name := "fnExactWeightOfKind", fn := fun _ => fun
  | [d1, d2] => { results := [.lit (.bool false)], args := [d1, d2] }
  | _ => none }
def FnExactWeightOfKindWrongFalsely : Prop := fnExactWeightOfKindRow.holds Try.pinned (OpenSpec.ofChange fnExactWeightOfKindWrong)

/-- 'laws.FnExactTwistNumbers': WHATEVER THE INPUT: true; the input reads as it did. -/
def fnExactTwistNumbersSpec : ChangeSpec := { name := "fnExactTwistNumbers", fn := fun _ => fun
  | [d] => { results := [.lit (.bool true)], args := [d] }
  | _ => none }
def fnExactTwistNumbersRow : OpenClaim := { program := "ytmndkkhaagjjmaa", sum := "f8f107980e253085ac40ae40ed680a278416233b49e553a22295629229a08a54", func := "loop.example/g01303/laws.FnExactTwistNumbers", spec := "fnExactTwistNumbers", inPlace := ["(*sync.WaitGroup).Add", "internal/race.ReleaseMerge", "internal/race.Disable", "internal/race.Enable", "internal/synctest.IsInBubble", "internal/synctest.Associate[sync.WaitGroup]", "sync.fatal", "sync/atomic.OrUint64", "sync/atomic.AddUint64", "internal/race.Read", "sync/atomic.LoadUint64", "sync/atomic.StoreUint64", "internal/synctest.Disassociate[sync.WaitGroup]", "sync.runtime_Semrelease", "(*sync.WaitGroup).Done", "(*sync.WaitGroup).Wait", "internal/race.Acquire", "internal/synctest.IsAssociated[sync.WaitGroup]", "sync/atomic.CompareAndSwapUint64", "internal/race.Write", "sync.runtime_SemacquireWaitGroup"], unfollowed := true, recurses := true, plainKeys := false, leaving := true, apart := false }
def FnExactTwistNumbersSaid : Prop := fnExactTwistNumbersRow.holds Try.pinned (OpenSpec.ofChange fnExactTwistNumbersSpec)

/-- ITS FALSE NEIGHBOUR: 'it returns false'. Refute it at one input. -/
def fnExactTwistNumbersWrong : ChangeSpec := { name := "fnExactTwistNumbers", fn := fun _ => fun
  | [d] => { results := [.lit (.bool false)], args := [d] }
  | _ => none }
def FnExactTwistNumbersWrongFalsely : Prop := fnExactTwistNumbersRow.holds Try.pinned (OpenSpec.ofChange fnExactTwistNumbersWrong)

/-- 'laws.FnLists': WHATEVER THE INPUT: true; the input reads as it did. -/
def fnListsSpec : ChangeSpec := { name := "fnLists", fn := fun _ => fun
  | [d] => { results := [.lit (.bool true)], args := [d] }
  | _ => none }
def fnListsRow : OpenClaim := { program := "ytmndkkhaagjjmaa", sum := "f8f107980e253085ac40ae40ed680a278416233b49e553a22295629229a08a54", func := "loop.example/g01303/laws.FnLists", spec := "fnLists", unfollowed := true, recurses := true, plainKeys := false, leaving := true, apart := false }
def FnListsSaid : Prop := fnListsRow.holds Try.pinned (OpenSpec.ofChange fnListsSpec)

/-- ITS FALSE NEIGHBOUR: 'it returns false'. Refute it at one input. -/
def fnListsWrong : ChangeSpec := { name := "fnLists", fn := fun _ => fun
  | [d] => { results := [.lit (.bool false)], args := [d] }
  | _ => none }
def FnListsWrongFalsely : Prop := fnListsRow.holds Try.pinned (OpenSpec.ofChange fnListsWrong)

/-- 'laws.FnCurves': WHATEVER THE INPUT: true; the input reads as it did. -/
def fnCurvesSpec : ChangeSpec := { name := "fnCurves", fn := fun _ => fun
  | [d] => { results := [.lit (.bool true)], args := [d] }
  | _ => none }
def fnCurvesRow : OpenClaim := { program := "ytmndkkhaagjjmaa", sum := "f8f107980e253085ac40ae40ed680a278416233b49e553a22295629229a08a54", func := "loop.example/g01303/laws.FnCurves", spec := "fnCurves", unfollowed := true, recurses := true, plainKeys := false, leaving := true, apart := false }
def FnCurvesSaid : Prop := fnCurvesRow.holds Try.pinned (OpenSpec.ofChange fnCurvesSpec)

/-- ITS FALSE NEIGHBOUR: 'it returns false'. Refute it at one input. -/
def fnCurvesWrong : ChangeSpec := { name := "fnCurves", fn := fun _ => fun
  | [d] => { results := [.lit (.bool false)], args := [d] }
  | _ => none }
def FnCurvesWrongFalsely : Prop := fnCurvesRow.holds Try.pinned (OpenSpec.ofChange fnCurvesWrong)

/- THE SECOND FORM. 'bulk': how many values and letters a reading holds, each counted each time it is reached (what is shared counts as often as it is met; a slice's spare places count too). A statement '..UptoSaid' is the law's where the arguments, and the package variables that the reading takes, are together of bulk at most 1048576: NARROWER than '..Said'. Prove '..Said' where nothing that the law and all that it calls make is longer than what came in: it says more and counts as full. Else prove '..UptoSaid'. A law counts once. -/
mutual
def uptoBulk {H : Type} : DataW H → Nat
  | .lit (.string bytes) => bytes.length + 1
  | .lit _ => 1
  | .nil => 1
  | .ptr d => uptoBulk d + 1
  | .slice elems spare => uptoBulkAll elems + uptoBulkAll spare + 1
  | .agg parts => uptoBulkAll parts + 1
  | .iface _ d => uptoBulk d + 1
  | .map entries => uptoBulkEntries entries + 1
  | .held _ => 1
def uptoBulkAll {H : Type} : List (DataW H) → Nat
  | [] => 0
  | d :: r => uptoBulk d + uptoBulkAll r
def uptoBulkEntries {H : Type} : List (Lit × DataW H) → Nat
  | [] => 0
  | x :: r => uptoBulkEntry x + uptoBulkEntries r
def uptoBulkEntry {H : Type} : Lit × DataW H → Nat
  | (.string bytes, d) => bytes.length + uptoBulk d + 1
  | (_, d) => uptoBulk d + 1
 end
def uptoSmall : (H : Type) → List (DataW H) → Bool := fun _ ds => decide (uptoBulkAll ds ≤ 1048576)
def OpenSpec.upto (s : _root_.Go.ChangeSpec) : _root_.Go.OpenSpec := { _root_.Go.OpenSpec.ofChange s with cond := some uptoSmall }

/-- 'laws.FnExactCountPattern', WHERE WHAT IT READS IS OF BULK AT MOST 1048576: true; the input reads as it did. -/
def fnExactCountPatternUptoRow : OpenClaim := { program := "ytmndkkhaagjjmaa", sum := "f8f107980e253085ac40ae40ed680a278416233b49e553a22295629229a08a54", func := "loop.example/g01303/laws.FnExactCountPattern", spec := "fnExactCountPattern", unfollowed := true, recurses := true, plainKeys := false, leaving := true, apart := false, narrowed := true }
def FnExactCountPatternUptoSaid : Prop := fnExactCountPatternUptoRow.holds Try.pinned (OpenSpec.upto fnExactCountPatternSpec)

/-- 'laws.FnExactSecondNumber', WHERE WHAT IT READS IS OF BULK AT MOST 1048576: true; the input reads as it did. -/
def fnExactSecondNumberUptoRow : OpenClaim := { program := "ytmndkkhaagjjmaa", sum := "f8f107980e253085ac40ae40ed680a278416233b49e553a22295629229a08a54", func := "loop.example/g01303/laws.FnExactSecondNumber", spec := "fnExactSecondNumber", unfollowed := true, recurses := true, plainKeys := false, leaving := true, apart := false, narrowed := true }
def FnExactSecondNumberUptoSaid : Prop := fnExactSecondNumberUptoRow.holds Try.pinned (OpenSpec.upto fnExactSecondNumberSpec)

/-- 'laws.FnTransforms', WHERE WHAT IT READS IS OF BULK AT MOST 1048576: true; the input reads as it did. -/
def fnTransformsUptoRow : OpenClaim := { program := "ytmndkkhaagjjmaa", sum := "f8f107980e253085ac40ae40ed680a278416233b49e553a22295629229a08a54", func := "loop.example/g01303/laws.FnTransforms", spec := "fnTransforms", unfollowed := true, recurses := true, plainKeys := false, leaving := true, apart := false, narrowed := true }
def FnTransformsUptoSaid : Prop := fnTransformsUptoRow.holds Try.pinned (OpenSpec.upto fnTransformsSpec)

/-- 'laws.FnExactDivisionsOf', WHERE WHAT IT READS IS OF BULK AT MOST 1048576: true; the input reads as it did. -/
def fnExactDivisionsOfUptoRow : OpenClaim := { program := "ytmndkkhaagjjmaa", sum := "f8f107980e253085ac40ae40ed680a278416233b49e553a22295629229a08a54", func := "loop.example/g01303/laws.FnExactDivisionsOf", spec := "fnExactDivisionsOf", unfollowed := true, recurses := true, plainKeys := false, leaving := true, apart := false, narrowed := true }
def FnExactDivisionsOfUptoSaid : Prop := fnExactDivisionsOfUptoRow.holds Try.pinned (OpenSpec.upto fnExactDivisionsOfSpec)

/-- 'laws.FnExactWordsOf', WHERE WHAT IT READS IS OF BULK AT MOST 1048576: true; the input reads as it did. -/
def fnExactWordsOfUptoRow : OpenClaim := { program := "ytmndkkhaagjjmaa", sum := "f8f107980e253085ac40ae40ed680a278416233b49e553a22295629229a08a54", func := "loop.example/g01303/laws.FnExactWordsOf", spec := "fnExactWordsOf", unfollowed := true, recurses := true, plainKeys := false, leaving := true, apart := false, narrowed := true }
def FnExactWordsOfUptoSaid : Prop := fnExactWordsOfUptoRow.holds Try.pinned (OpenSpec.upto fnExactWordsOfSpec)

/-- 'laws.FnExactDiagramsOf', WHERE WHAT IT READS IS OF BULK AT MOST 1048576: true; the input reads as it did. -/
def fnExactDiagramsOfUptoRow : OpenClaim := { program := "ytmndkkhaagjjmaa", sum := "f8f107980e253085ac40ae40ed680a278416233b49e553a22295629229a08a54", func := "loop.example/g01303/laws.FnExactDiagramsOf", spec := "fnExactDiagramsOf", unfollowed := true, recurses := true, plainKeys := false, leaving := true, apart := false, narrowed := true }
def FnExactDiagramsOfUptoSaid : Prop := fnExactDiagramsOfUptoRow.holds Try.pinned (OpenSpec.upto fnExactDiagramsOfSpec)

/-- 'laws.FnExactPlaceInList', WHERE WHAT IT READS IS OF BULK AT MOST 1048576: true; the input reads as it did. -/
def fnExactPlaceInListUptoRow : OpenClaim := { program := "ytmndkkhaagjjmaa", sum := "f8f107980e253085ac40ae40ed680a278416233b49e553a22295629229a08a54", func := "loop.example/g01303/laws.FnExactPlaceInList", spec := "fnExactPlaceInList", unfollowed := true, recurses := true, plainKeys := false, leaving := true, apart := false, narrowed := true }
def FnExactPlaceInListUptoSaid : Prop := fnExactPlaceInListUptoRow.holds Try.pinned (OpenSpec.upto fnExactPlaceInListSpec)

/-- 'laws.FnExactSoWeight', WHERE WHAT IT READS IS OF BULK AT MOST 1048576: true; the input reads as it did. -/
def fnExactSoWeightUptoRow : OpenClaim := { program := "ytmndkkhaagjjmaa", sum := "f8f107980e253085ac40ae40ed680a278416233b49e553a22295629229a08a54", func := "loop.example/g01303/laws.FnExactSoWeight", spec := "fnExactSoWeight", inPlace := ["(*sync.WaitGroup).Add", "internal/race.ReleaseMerge", "internal/race.Disable", "internal/race.Enable", "internal/synctest.IsInBubble", "internal/synctest.Associate[sync.WaitGroup]", "sync.fatal", "sync/atomic.OrUint64", "sync/atomic.AddUint64", "internal/race.Read", "sync/atomic.LoadUint64", "sync/atomic.StoreUint64", "internal/synctest.Disassociate[sync.WaitGroup]", "sync.runtime_Semrelease", "(*sync.WaitGroup).Done", "(*sync.WaitGroup).Wait", "internal/race.Acquire", "internal/synctest.IsAssociated[sync.WaitGroup]", "sync/atomic.CompareAndSwapUint64", "internal/race.Write", "sync.runtime_SemacquireWaitGroup"], unfollowed := true, recurses := true, plainKeys := false, leaving := true, apart := false, narrowed := true }
def FnExactSoWeightUptoSaid : Prop := fnExactSoWeightUptoRow.holds Try.pinned (OpenSpec.upto fnExactSoWeightSpec)

/-- 'laws.FnExactWeightOfKind', WHERE WHAT IT READS IS OF BULK AT MOST 1048576: true; the input reads as it did. -/
def fnExactWeightOfKindUptoRow : OpenClaim := { program := "ytmndkkhaagjjmaa", sum := "f8f107980e253085ac40ae40ed680a278416233b49e553a22295629229a08a54", func := "loop.example/g01303/laws.FnExactWeightOfKind", spec := "fnExactWeightOfKind", inPlace := ["(*sync.WaitGroup).Add", "internal/race.ReleaseMerge", "internal/race.Disable", "internal/race.Enable", "internal/synctest.IsInBubble", "internal/synctest.Associate[sync.WaitGroup]", "sync.fatal", "sync/atomic.OrUint64", "sync/atomic.AddUint64", "internal/race.Read", "sync/atomic.LoadUint64", "sync/atomic.StoreUint64", "internal/synctest.Disassociate[sync.WaitGroup]", "sync.runtime_Semrelease", "(*sync.WaitGroup).Done", "(*sync.WaitGroup).Wait", "internal/race.Acquire", "internal/synctest.IsAssociated[sync.WaitGroup]", "sync/atomic.CompareAndSwapUint64", "internal/race.Write", "sync.runtime_SemacquireWaitGroup"], unfollowed := true, recurses := true, plainKeys := false, leaving := true, apart := false, narrowed := true }
def FnExactWeightOfKindUptoSaid : Prop := fnExactWeightOfKindUptoRow.holds Try.pinned (OpenSpec.upto fnExactWeightOfKindSpec)

/-- 'laws.FnExactTwistNumbers', WHERE WHAT IT READS IS OF BULK AT MOST 1048576: true; the input reads as it did. -/
def fnExactTwistNumbersUptoRow : OpenClaim := { program := "ytmndkkhaagjjmaa", sum := "f8f107980e253085ac40ae40ed680a278416233b49e553a22295629229a08a54", func := "loop.example/g01303/laws.FnExactTwistNumbers", spec := "fnExactTwistNumbers", inPlace := ["(*sync.WaitGroup).Add", "internal/race.ReleaseMerge", "internal/race.Disable", "internal/race.Enable", "internal/synctest.IsInBubble", "internal/synctest.Associate[sync.WaitGroup]", "sync.fatal", "sync/atomic.OrUint64", "sync/atomic.AddUint64", "internal/race.Read", "sync/atomic.LoadUint64", "sync/atomic.StoreUint64", "internal/synctest.Disassociate[sync.WaitGroup]", "sync.runtime_Semrelease", "(*sync.WaitGroup).Done", "(*sync.WaitGroup).Wait", "internal/race.Acquire", "internal/synctest.IsAssociated[sync.WaitGroup]", "sync/atomic.CompareAndSwapUint64", "internal/race.Write", "sync.runtime_SemacquireWaitGroup"], unfollowed := true, recurses := true, plainKeys := false, leaving := true, apart := false, narrowed := true }
def FnExactTwistNumbersUptoSaid : Prop := fnExactTwistNumbersUptoRow.holds Try.pinned (OpenSpec.upto fnExactTwistNumbersSpec)

/-- 'laws.FnLists', WHERE WHAT IT READS IS OF BULK AT MOST 1048576: true; the input reads as it did. -/
def fnListsUptoRow : OpenClaim := { program := "ytmndkkhaagjjmaa", sum := "f8f107980e253085ac40ae40ed680a278416233b49e553a22295629229a08a54", func := "loop.example/g01303/laws.FnLists", spec := "fnLists", unfollowed := true, recurses := true, plainKeys := false, leaving := true, apart := false, narrowed := true }
def FnListsUptoSaid : Prop := fnListsUptoRow.holds Try.pinned (OpenSpec.upto fnListsSpec)

/-- 'laws.FnCurves', WHERE WHAT IT READS IS OF BULK AT MOST 1048576: true; the input reads as it did. -/
def fnCurvesUptoRow : OpenClaim := { program := "ytmndkkhaagjjmaa", sum := "f8f107980e253085ac40ae40ed680a278416233b49e553a22295629229a08a54", func := "loop.example/g01303/laws.FnCurves", spec := "fnCurves", unfollowed := true, recurses := true, plainKeys := false, leaving := true, apart := false, narrowed := true }
def FnCurvesUptoSaid : Prop := fnCurvesUptoRow.holds Try.pinned (OpenSpec.upto fnCurvesSpec)

end Rows
end Go.Proofs.Ytmndkkhaagjjmaa
