/-
  No cell of these rows narrows 'for every input' (looked for: loops, veiled, ifaces, maps, wideKeys, modest, calm, conditions, laid).
  DERIVED. THE GIVEN ROWS OF THIS SEAT. 12 by the template 'for every input the law returns true; each argument reads behind the call as it read before'; 0 by the template 'total and deterministic' (their statements: YtinfhkcmjmglkaaTotals.lean).
  GIVEN WITH THE SEED: the statements are not yours to turn. If you find one false, say at which input.
  Laid BY PROGRAM, IN A SANDBOX (cutbox-rows.mjs): the forced cells as the released guide's own fill.sh prints them over the translation 89d36e0db2a646bd… (all of the seat's roots in one cut). By AI agents, Wed Nov 11 2026. No macro, syntax, notation, axiom, sorry.
-/
import Derived.Test.YtinfhkcmjmglkaaChecked
import GoSem.Claim
import GoSem.ClaimJoined
import GoSem.ClaimMapViews
import Derived.JoinedTies
import Derived.KernelRfl
namespace Go.Proofs.Ytinfhkcmjmglkaa
/- THE CELL 'sum', in the pinned program and in every row, IS THE sha256 OF THE DUMP (.gsa) THAT YtinfhkcmjmglkaaProg.lean LOADS. Nothing in Lean hashes anything: it is a label: what it is worth is what the hold of that sum in a sandbox is worth. -/
noncomputable def Try.pinned : Pinned := { name := "ytinfhkcmjmglkaa", sum := "89d36e0db2a646bddead1fd6f21f3c02fbf6a9a5773f94346c5d3be1c9410cbf", checked := Try.checked }
namespace Rows
def none {H : Type} : Left H := { results := [], args := [] }

/-- 'laws.FnExactDegreesOf': WHATEVER THE INPUT: true; the input reads as it did. -/
def fnExactDegreesOfSpec : ChangeSpec := { name := "fnExactDegreesOf", fn := fun _ => fun
  | [d] => { results := [.lit (.bool true)], args := [d] }
  | _ => none }
def fnExactDegreesOfRow : OpenClaim := { program := "ytinfhkcmjmglkaa", sum := "89d36e0db2a646bddead1fd6f21f3c02fbf6a9a5773f94346c5d3be1c9410cbf", func := "loop.example/g01303/laws.FnExactDegreesOf", spec := "fnExactDegreesOf", unfollowed := true, recurses := true, leaving := true, apart := false }
def FnExactDegreesOfSaid : Prop := fnExactDegreesOfRow.holds Try.pinned (OpenSpec.ofChange fnExactDegreesOfSpec)

/-- ITS FALSE NEIGHBOUR: 'it returns false'. Refute it at one input. -/
def fnExactDegreesOfWrong : ChangeSpec := { name := "fnExactDegreesOf", fn := fun _ => fun
  | [d] => { results := [.lit (.bool false)], args := [d] }
  | _ => none }
def FnExactDegreesOfWrongFalsely : Prop := fnExactDegreesOfRow.holds Try.pinned (OpenSpec.ofChange fnExactDegreesOfWrong)

/-- 'laws.FnExactIsolatedChords': WHATEVER THE INPUT: true; the input reads as it did. -/
def fnExactIsolatedChordsSpec : ChangeSpec := { name := "fnExactIsolatedChords", fn := fun _ => fun
  | [d] => { results := [.lit (.bool true)], args := [d] }
  | _ => none }
def fnExactIsolatedChordsRow : OpenClaim := { program := "ytinfhkcmjmglkaa", sum := "89d36e0db2a646bddead1fd6f21f3c02fbf6a9a5773f94346c5d3be1c9410cbf", func := "loop.example/g01303/laws.FnExactIsolatedChords", spec := "fnExactIsolatedChords", unfollowed := true, recurses := true, leaving := true, apart := false }
def FnExactIsolatedChordsSaid : Prop := fnExactIsolatedChordsRow.holds Try.pinned (OpenSpec.ofChange fnExactIsolatedChordsSpec)

/-- ITS FALSE NEIGHBOUR: 'it returns false'. Refute it at one input. -/
def fnExactIsolatedChordsWrong : ChangeSpec := { name := "fnExactIsolatedChords", fn := fun _ => fun
  | [d] => { results := [.lit (.bool false)], args := [d] }
  | _ => none }
def FnExactIsolatedChordsWrongFalsely : Prop := fnExactIsolatedChordsRow.holds Try.pinned (OpenSpec.ofChange fnExactIsolatedChordsWrong)

/-- 'laws.FnExactCountNested': WHATEVER THE INPUT: true; the input reads as it did. -/
def fnExactCountNestedSpec : ChangeSpec := { name := "fnExactCountNested", fn := fun _ => fun
  | [d] => { results := [.lit (.bool true)], args := [d] }
  | _ => none }
def fnExactCountNestedRow : OpenClaim := { program := "ytinfhkcmjmglkaa", sum := "89d36e0db2a646bddead1fd6f21f3c02fbf6a9a5773f94346c5d3be1c9410cbf", func := "loop.example/g01303/laws.FnExactCountNested", spec := "fnExactCountNested", unfollowed := true, recurses := true, leaving := true, apart := false }
def FnExactCountNestedSaid : Prop := fnExactCountNestedRow.holds Try.pinned (OpenSpec.ofChange fnExactCountNestedSpec)

/-- ITS FALSE NEIGHBOUR: 'it returns false'. Refute it at one input. -/
def fnExactCountNestedWrong : ChangeSpec := { name := "fnExactCountNested", fn := fun _ => fun
  | [d] => { results := [.lit (.bool false)], args := [d] }
  | _ => none }
def FnExactCountNestedWrongFalsely : Prop := fnExactCountNestedRow.holds Try.pinned (OpenSpec.ofChange fnExactCountNestedWrong)

/-- 'laws.FnExactCountApart': WHATEVER THE INPUT: true; the input reads as it did. -/
def fnExactCountApartSpec : ChangeSpec := { name := "fnExactCountApart", fn := fun _ => fun
  | [d] => { results := [.lit (.bool true)], args := [d] }
  | _ => none }
def fnExactCountApartRow : OpenClaim := { program := "ytinfhkcmjmglkaa", sum := "89d36e0db2a646bddead1fd6f21f3c02fbf6a9a5773f94346c5d3be1c9410cbf", func := "loop.example/g01303/laws.FnExactCountApart", spec := "fnExactCountApart", unfollowed := true, recurses := true, leaving := true, apart := false }
def FnExactCountApartSaid : Prop := fnExactCountApartRow.holds Try.pinned (OpenSpec.ofChange fnExactCountApartSpec)

/-- ITS FALSE NEIGHBOUR: 'it returns false'. Refute it at one input. -/
def fnExactCountApartWrong : ChangeSpec := { name := "fnExactCountApart", fn := fun _ => fun
  | [d] => { results := [.lit (.bool false)], args := [d] }
  | _ => none }
def FnExactCountApartWrongFalsely : Prop := fnExactCountApartRow.holds Try.pinned (OpenSpec.ofChange fnExactCountApartWrong)

/-- 'laws.FnExactCirclesOf': WHATEVER THE INPUT: true; the input reads as it did. -/
def fnExactCirclesOfSpec : ChangeSpec := { name := "fnExactCirclesOf", fn := fun _ => fun
  | [d1, d2] => { results := [.lit (.bool true)], args := [d1, d2] }
  | _ => none }
def fnExactCirclesOfRow : OpenClaim := { program := "ytinfhkcmjmglkaa", sum := "89d36e0db2a646bddead1fd6f21f3c02fbf6a9a5773f94346c5d3be1c9410cbf", func := "loop.example/g01303/laws.FnExactCirclesOf", spec := "fnExactCirclesOf", apart := false }
def FnExactCirclesOfSaid : Prop := fnExactCirclesOfRow.holds Try.pinned (OpenSpec.ofChange fnExactCirclesOfSpec)

/-- ITS FALSE NEIGHBOUR: 'it returns false'. Refute it at one input. -/
def fnExactCirclesOfWrong : ChangeSpec := { name := "fnExactCirclesOf", fn := fun _ => fun
  | [d1, d2] => { results := [.lit (.bool false)], args := [d1, d2] }
  | _ => none }
def FnExactCirclesOfWrongFalsely : Prop := fnExactCirclesOfRow.holds Try.pinned (OpenSpec.ofChange fnExactCirclesOfWrong)

/-- 'laws.FnExactGlWeight': WHATEVER THE INPUT: true; the input reads as it did. -/
def fnExactGlWeightSpec : ChangeSpec := { name := "fnExactGlWeight", fn := fun _ => fun
  | [d] => { results := [.lit (.bool true)], args := [d] }
  | _ => none }
def fnExactGlWeightRow : OpenClaim := { program := "ytinfhkcmjmglkaa", sum := "89d36e0db2a646bddead1fd6f21f3c02fbf6a9a5773f94346c5d3be1c9410cbf", func := "loop.example/g01303/laws.FnExactGlWeight", spec := "fnExactGlWeight", inPlace := ["(*sync.WaitGroup).Add", "internal/race.ReleaseMerge", "internal/race.Disable", "internal/race.Enable", "internal/synctest.IsInBubble", "internal/synctest.Associate[sync.WaitGroup]", "sync.fatal", "sync/atomic.OrUint64", "sync/atomic.AddUint64", "internal/race.Read", "sync/atomic.LoadUint64", "sync/atomic.StoreUint64", "internal/synctest.Disassociate[sync.WaitGroup]", "sync.runtime_Semrelease", "(*sync.WaitGroup).Done", "(*sync.WaitGroup).Wait", "internal/race.Acquire", "internal/synctest.IsAssociated[sync.WaitGroup]", "sync/atomic.CompareAndSwapUint64", "internal/race.Write", "sync.runtime_SemacquireWaitGroup"], unfollowed := true, recurses := true, leaving := true, apart := false }
def FnExactGlWeightSaid : Prop := fnExactGlWeightRow.holds Try.pinned (OpenSpec.ofChange fnExactGlWeightSpec)

/-- ITS FALSE NEIGHBOUR: 'it returns false'. Refute it at one input. -/
def fnExactGlWeightWrong : ChangeSpec := { name := "fnExactGlWeight", fn := fun _ => fun
  | [d] => { results := [.lit (.bool false)], args := [d] }
  | _ => none }
def FnExactGlWeightWrongFalsely : Prop := fnExactGlWeightRow.holds Try.pinned (OpenSpec.ofChange fnExactGlWeightWrong)

/-- 'laws.FnExactConwayWeight': WHATEVER THE INPUT: true; the input reads as it did. -/
def fnExactConwayWeightSpec : ChangeSpec := { name := "fnExactConwayWeight", fn := fun _ => fun
  | [d] => { results := [.lit (.bool true)], args := [d] }
  | _ => none }
def fnExactConwayWeightRow : OpenClaim := { program := "ytinfhkcmjmglkaa", sum := "89d36e0db2a646bddead1fd6f21f3c02fbf6a9a5773f94346c5d3be1c9410cbf", func := "loop.example/g01303/laws.FnExactConwayWeight", spec := "fnExactConwayWeight", apart := false }
def FnExactConwayWeightSaid : Prop := fnExactConwayWeightRow.holds Try.pinned (OpenSpec.ofChange fnExactConwayWeightSpec)

/-- ITS FALSE NEIGHBOUR: 'it returns false'. Refute it at one input. -/
def fnExactConwayWeightWrong : ChangeSpec := { name := "fnExactConwayWeight", fn := fun _ => fun
  | [d] => { results := [.lit (.bool false)], args := [d] }
  | _ => none }
def FnExactConwayWeightWrongFalsely : Prop := fnExactConwayWeightRow.holds Try.pinned (OpenSpec.ofChange fnExactConwayWeightWrong)

/-- 'laws.FnChords': WHATEVER THE INPUT: true; the input reads as it did. -/
def fnChordsSpec : ChangeSpec := { name := "fnChords", fn := fun _ => fun
  | [d] => { results := [.lit (.bool true)], args := [d] }
  | _ => none }
def fnChordsRow : OpenClaim := { program := "ytinfhkcmjmglkaa", sum := "89d36e0db2a646bddead1fd6f21f3c02fbf6a9a5773f94346c5d3be1c9410cbf", func := "loop.example/g01303/laws.FnChords", spec := "fnChords", unfollowed := true, recurses := true, leaving := true, apart := false }
def FnChordsSaid : Prop := fnChordsRow.holds Try.pinned (OpenSpec.ofChange fnChordsSpec)

/-- ITS FALSE NEIGHBOUR: 'it returns false'. Refute it at one input. -/
def fnChordsWrong : ChangeSpec := { name := "fnChords", fn := fun _ => fun
  | [d] => { results := [.lit (.bool false)], args := [d] }
  | _ => none }
def FnChordsWrongFalsely : Prop := fnChordsRow.holds Try.pinned (OpenSpec.ofChange fnChordsWrong)

/-- 'laws.FnBlocks': WHATEVER THE INPUT: true; the input reads as it did. -/
def fnBlocksSpec : ChangeSpec := { name := "fnBlocks", fn := fun _ => fun
  | [d] => { results := [.lit (.bool true)], args := [d] }
  | _ => none }
def fnBlocksRow : OpenClaim := { program := "ytinfhkcmjmglkaa", sum := "89d36e0db2a646bddead1fd6f21f3c02fbf6a9a5773f94346c5d3be1c9410cbf", func := "loop.example/g01303/laws.FnBlocks", spec := "fnBlocks", unfollowed := true, recurses := true, leaving := true, apart := false }
def FnBlocksSaid : Prop := fnBlocksRow.holds Try.pinned (OpenSpec.ofChange fnBlocksSpec)

/-- ITS FALSE NEIGHBOUR: 'it returns false'. Refute it at one input. -/
def fnBlocksWrong : ChangeSpec := { name := "fnBlocks", fn := fun _ => fun
  | [d] => { results := [.lit (.bool false)], args := [d] }
  | _ => none }
def FnBlocksWrongFalsely : Prop := fnBlocksRow.holds Try.pinned (OpenSpec.ofChange fnBlocksWrong)

/-- 'laws.FnCircles': WHATEVER THE INPUT: true; the input reads as it did. -/
def fnCirclesSpec : ChangeSpec := { name := "fnCircles", fn := fun _ => fun
  | [d] => { results := [.lit (.bool true)], args := [d] }
  | _ => none }
def fnCirclesRow : OpenClaim := { program := "ytinfhkcmjmglkaa", sum := "89d36e0db2a646bddead1fd6f21f3c02fbf6a9a5773f94346c5d3be1c9410cbf", func := "loop.example/g01303/laws.FnCircles", spec := "fnCircles", unfollowed := true, recurses := true, leaving := true, apart := false }
def FnCirclesSaid : Prop := fnCirclesRow.holds Try.pinned (OpenSpec.ofChange fnCirclesSpec)

/-- ITS FALSE NEIGHBOUR: 'it returns false'. Refute it at one input. -/
def fnCirclesWrong : ChangeSpec := { name := "fnCircles", fn := fun _ => fun
  | [d] => { results := [.lit (.bool false)], args := [d] }
  | _ => none }
def FnCirclesWrongFalsely : Prop := fnCirclesRow.holds Try.pinned (OpenSpec.ofChange fnCirclesWrong)

/-- 'laws.FnExactIsSum': WHATEVER THE INPUT: true; the input reads as it did. -/
def fnExactIsSumSpec : ChangeSpec := { name := "fnExactIsSum", fn := fun _ => fun
  | [d] => { results := [.lit (.bool true)], args := [d] }
  | _ => none }
def fnExactIsSumRow : OpenClaim := { program := "ytinfhkcmjmglkaa", sum := "89d36e0db2a646bddead1fd6f21f3c02fbf6a9a5773f94346c5d3be1c9410cbf", func := "loop.example/g01303/laws.FnExactIsSum", spec := "fnExactIsSum", apart := false }
def FnExactIsSumSaid : Prop := fnExactIsSumRow.holds Try.pinned (OpenSpec.ofChange fnExactIsSumSpec)

/-- ITS FALSE NEIGHBOUR: 'it returns false'. Refute it at one input. -/
def fnExactIsSumWrong : ChangeSpec := { name := "fnExactIsSum", fn := fun _ => fun
  | [d] => { results := [.lit (.bool false)], args := [d] }
  | _ => none }
def FnExactIsSumWrongFalsely : Prop := fnExactIsSumRow.holds Try.pinned (OpenSpec.ofChange fnExactIsSumWrong)

/-- 'laws.FnExactTotalOf': WHATEVER THE INPUT: true; the input reads as it did. -/
def fnExactTotalOfSpec : ChangeSpec := { name := "fnExactTotalOf", fn := fun _ => fun
  | [d] => { results := [.lit (.bool true)], args := [d] }
  | _ => none }
def fnExactTotalOfRow : OpenClaim := { program := "ytinfhkcmjmglkaa", sum := "89d36e0db2a646bddead1fd6f21f3c02fbf6a9a5773f94346c5d3be1c9410cbf", func := "loop.example/g01303/laws.FnExactTotalOf", spec := "fnExactTotalOf", apart := false }
def FnExactTotalOfSaid : Prop := fnExactTotalOfRow.holds Try.pinned (OpenSpec.ofChange fnExactTotalOfSpec)

/-- ITS FALSE NEIGHBOUR: 'it returns false'. Refute it at one input. -/
def fnExactTotalOfWrong : ChangeSpec := { name := "fnExactTotalOf", fn := fun _ => fun
  | [d] => { results := [.lit (.bool false)], args := [d] }
  | _ => none }
def FnExactTotalOfWrongFalsely : Prop := fnExactTotalOfRow.holds Try.pinned (OpenSpec.ofChange fnExactTotalOfWrong)

/- THE SECOND FORM. 'bulk': how many values and letters a reading holds, each counted each time it is reached (what is shared counts as often as it is met; a slice's spare places count too). A statement '..UptoSaid' is the law's where the arguments, and the package variables that the reading takes, are together of bulk at most 1048576: NARROWER than '..Said'. Prove '..Said' where nothing that the law and all that it calls make is longer than what came in: it says more and counts as full. Else prove '..UptoSaid'. A law counts once. -/
mutual
def uptoBulk {H : Type} : DataW H → Nat
  | .lit (.string bytes) => bytes.length + 1
  | .lit _ => 1
  | .nil => 1
  | .ptr d => uptoBulk d + 1
  | .slice elems spare => uptoBulkAll elems + uptoBulkAll spare + 1
  | .agg parts => uptoBulkAll parts + 1
  | .iface _ d => uptoBulk d + 1
  | .map entries => uptoBulkEntries entries + 1
  | .held _ => 1
def uptoBulkAll {H : Type} : List (DataW H) → Nat
  | [] => 0
  | d :: r => uptoBulk d + uptoBulkAll r
def uptoBulkEntries {H : Type} : List (Lit × DataW H) → Nat
  | [] => 0
  | x :: r => uptoBulkEntry x + uptoBulkEntries r
def uptoBulkEntry {H : Type} : Lit × DataW H → Nat
  | (.string bytes, d) => bytes.length + uptoBulk d + 1
  | (_, d) => uptoBulk d + 1
 end
def uptoSmall : (H : Type) → List (DataW H) → Bool := fun _ ds => decide (uptoBulkAll ds ≤ 1048576)
def OpenSpec.upto (s : _root_.Go.ChangeSpec) : _root_.Go.OpenSpec := { _root_.Go.OpenSpec.ofChange s with cond := some uptoSmall }

/-- 'laws.FnExactDegreesOf', WHERE WHAT IT READS IS OF BULK AT MOST 1048576: true; the input reads as it did. -/
def fnExactDegreesOfUptoRow : OpenClaim := { program := "ytinfhkcmjmglkaa", sum := "89d36e0db2a646bddead1fd6f21f3c02fbf6a9a5773f94346c5d3be1c9410cbf", func := "loop.example/g01303/laws.FnExactDegreesOf", spec := "fnExactDegreesOf", unfollowed := true, recurses := true, leaving := true, apart := false, narrowed := true }
def FnExactDegreesOfUptoSaid : Prop := fnExactDegreesOfUptoRow.holds Try.pinned (OpenSpec.upto fnExactDegreesOfSpec)

/-- 'laws.FnExactIsolatedChords', WHERE WHAT IT READS IS OF BULK AT MOST 1048576: true; the input reads as it did. -/
def fnExactIsolatedChordsUptoRow : OpenClaim := { program := "ytinfhkcmjmglkaa", sum := "89d36e0db2a646bddead1fd6f21f3c02fbf6a9a5773f94346c5d3be1c9410cbf", func := "loop.example/g01303/laws.FnExactIsolatedChords", spec := "fnExactIsolatedChords", unfollowed := true, recurses := true, leaving := true, apart := false, narrowed := true }
def FnExactIsolatedChordsUptoSaid : Prop := fnExactIsolatedChordsUptoRow.holds Try.pinned (OpenSpec.upto fnExactIsolatedChordsSpec)

/-- 'laws.FnExactCountNested', WHERE WHAT IT READS IS OF BULK AT MOST 1048576: true; the input reads as it did. -/
def fnExactCountNestedUptoRow : OpenClaim := { program := "ytinfhkcmjmglkaa", sum := "89d36e0db2a646bddead1fd6f21f3c02fbf6a9a5773f94346c5d3be1c9410cbf", func := "loop.example/g01303/laws.FnExactCountNested", spec := "fnExactCountNested", unfollowed := true, recurses := true, leaving := true, apart := false, narrowed := true }
def FnExactCountNestedUptoSaid : Prop := fnExactCountNestedUptoRow.holds Try.pinned (OpenSpec.upto fnExactCountNestedSpec)

/-- 'laws.FnExactCountApart', WHERE WHAT IT READS IS OF BULK AT MOST 1048576: true; the input reads as it did. -/
def fnExactCountApartUptoRow : OpenClaim := { program := "ytinfhkcmjmglkaa", sum := "89d36e0db2a646bddead1fd6f21f3c02fbf6a9a5773f94346c5d3be1c9410cbf", func := "loop.example/g01303/laws.FnExactCountApart", spec := "fnExactCountApart", unfollowed := true, recurses := true, leaving := true, apart := false, narrowed := true }
def FnExactCountApartUptoSaid : Prop := fnExactCountApartUptoRow.holds Try.pinned (OpenSpec.upto fnExactCountApartSpec)

/-- 'laws.FnExactCirclesOf', WHERE WHAT IT READS IS OF BULK AT MOST 1048576: true; the input reads as it did. -/
def fnExactCirclesOfUptoRow : OpenClaim := { program := "ytinfhkcmjmglkaa", sum := "89d36e0db2a646bddead1fd6f21f3c02fbf6a9a5773f94346c5d3be1c9410cbf", func := "loop.example/g01303/laws.FnExactCirclesOf", spec := "fnExactCirclesOf", apart := false, narrowed := true }
def FnExactCirclesOfUptoSaid : Prop := fnExactCirclesOfUptoRow.holds Try.pinned (OpenSpec.upto fnExactCirclesOfSpec)

/-- 'laws.FnExactGlWeight', WHERE WHAT IT READS IS OF BULK AT MOST 1048576: true; the input reads as it did. -/
def fnExactGlWeightUptoRow : OpenClaim := { program := "ytinfhkcmjmglkaa", sum := "89d36e0db2a646bddead1fd6f21f3c02fbf6a9a5773f94346c5d3be1c9410cbf", func := "loop.example/g01303/laws.FnExactGlWeight", spec := "fnExactGlWeight", inPlace := ["(*sync.WaitGroup).Add", "internal/race.ReleaseMerge", "internal/race.Disable", "internal/race.Enable", "internal/synctest.IsInBubble", "internal/synctest.Associate[sync.WaitGroup]", "sync.fatal", "sync/atomic.OrUint64", "sync/atomic.AddUint64", "internal/race.Read", "sync/atomic.LoadUint64", "sync/atomic.StoreUint64", "internal/synctest.Disassociate[sync.WaitGroup]", "sync.runtime_Semrelease", "(*sync.WaitGroup).Done", "(*sync.WaitGroup).Wait", "internal/race.Acquire", "internal/synctest.IsAssociated[sync.WaitGroup]", "sync/atomic.CompareAndSwapUint64", "internal/race.Write", "sync.runtime_SemacquireWaitGroup"], unfollowed := true, recurses := true, leaving := true, apart := false, narrowed := true }
def FnExactGlWeightUptoSaid : Prop := fnExactGlWeightUptoRow.holds Try.pinned (OpenSpec.upto fnExactGlWeightSpec)

/-- 'laws.FnExactConwayWeight', WHERE WHAT IT READS IS OF BULK AT MOST 1048576: true; the input reads as it did. -/
def fnExactConwayWeightUptoRow : OpenClaim := { program := "ytinfhkcmjmglkaa", sum := "89d36e0db2a646bddead1fd6f21f3c02fbf6a9a5773f94346c5d3be1c9410cbf", func := "loop.example/g01303/laws.FnExactConwayWeight", spec := "fnExactConwayWeight", apart := false, narrowed := true }
def FnExactConwayWeightUptoSaid : Prop := fnExactConwayWeightUptoRow.holds Try.pinned (OpenSpec.upto fnExactConwayWeightSpec)

/-- 'laws.FnChords', WHERE WHAT IT READS IS OF BULK AT MOST 1048576: true; the input reads as it did. -/
def fnChordsUptoRow : OpenClaim := { program := "ytinfhkcmjmglkaa", sum := "89d36e0db2a646bddead1fd6f21f3c02fbf6a9a5773f94346c5d3be1c9410cbf", func := "loop.example/g01303/laws.FnChords", spec := "fnChords", unfollowed := true, recurses := true, leaving := true, apart := false, narrowed := true }
def FnChordsUptoSaid : Prop := fnChordsUptoRow.holds Try.pinned (OpenSpec.upto fnChordsSpec)

/-- 'laws.FnBlocks', WHERE WHAT IT READS IS OF BULK AT MOST 1048576: true; the input reads as it did. -/
def fnBlocksUptoRow : OpenClaim := { program := "ytinfhkcmjmglkaa", sum := "89d36e0db2a646bddead1fd6f21f3c02fbf6a9a5773f94346c5d3be1c9410cbf", func := "loop.example/g01303/laws.FnBlocks", spec := "fnBlocks", unfollowed := true, recurses := true, leaving := true, apart := false, narrowed := true }
def FnBlocksUptoSaid : Prop := fnBlocksUptoRow.holds Try.pinned (OpenSpec.upto fnBlocksSpec)

/-- 'laws.FnCircles', WHERE WHAT IT READS IS OF BULK AT MOST 1048576: true; the input reads as it did. -/
def fnCirclesUptoRow : OpenClaim := { program := "ytinfhkcmjmglkaa", sum := "89d36e0db2a646bddead1fd6f21f3c02fbf6a9a5773f94346c5d3be1c9410cbf", func := "loop.example/g01303/laws.FnCircles", spec := "fnCircles", unfollowed := true, recurses := true, leaving := true, apart := false, narrowed := true }
def FnCirclesUptoSaid : Prop := fnCirclesUptoRow.holds Try.pinned (OpenSpec.upto fnCirclesSpec)

/-- 'laws.FnExactIsSum', WHERE WHAT IT READS IS OF BULK AT MOST 1048576: true; the input reads as it did. -/
def fnExactIsSumUptoRow : OpenClaim := { program := "ytinfhkcmjmglkaa", sum := "89d36e0db2a646bddead1fd6f21f3c02fbf6a9a5773f94346c5d3be1c9410cbf", func := "loop.example/g01303/laws.FnExactIsSum", spec := "fnExactIsSum", apart := false, narrowed := true }
def FnExactIsSumUptoSaid : Prop := fnExactIsSumUptoRow.holds Try.pinned (OpenSpec.upto fnExactIsSumSpec)

/-- 'laws.FnExactTotalOf', WHERE WHAT IT READS IS OF BULK AT MOST 1048576: true; the input reads as it did. -/
def fnExactTotalOfUptoRow : OpenClaim := { program := "ytinfhkcmjmglkaa", sum := "89d36e0db2a646bddead1fd6f21f3c02fbf6a9a5773f94346c5d3be1c9410cbf", func := "loop.example/g01303/laws.FnExactTotalOf", spec := "fnExactTotalOf", apart := false, narrowed := true }
def FnExactTotalOfUptoSaid : Prop := fnExactTotalOfUptoRow.holds Try.pinned (OpenSpec.upto fnExactTotalOfSpec)

end Rows
end Go.Proofs.Ytinfhkcmjmglkaa
