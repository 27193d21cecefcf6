/-
  No cell of these rows narrows 'for every input' (looked for: loops, veiled, ifaces, maps, wideKeys, modest, calm, conditions, laid).
  DERIVED. THE GIVEN ROWS OF THIS SEAT. 10 by the template 'for every input the law returns true; each argument reads behind the call as it read before'; 0 by the template 'total and deterministic' (their statements: YtokhjlcbflcbgaaTotals.lean).
  GIVEN WITH THE SEED: the statements are not yours to turn. If you find one false, say at which input.
  Laid BY PROGRAM, IN A SANDBOX (cutbox-rows.mjs): the forced cells as the released guide's own fill.sh prints them over the translation f18c619112b514f3… (all of the seat's roots in one cut). By AI agents, Wed Nov 11 2026. No macro, syntax, notation, axiom, sorry.
-/
import Derived.Test.YtokhjlcbflcbgaaChecked
import GoSem.Claim
import GoSem.ClaimJoined
import GoSem.ClaimMapViews
import Derived.JoinedTies
import Derived.KernelRfl
namespace Go.Proofs.Ytokhjlcbflcbgaa
/- THE CELL 'sum', in the pinned program and in every row, IS THE sha256 OF THE DUMP (.gsa) THAT YtokhjlcbflcbgaaProg.lean LOADS. Nothing in Lean hashes anything: it is a label: what it is worth is what the hold of that sum in a sandbox is worth. -/
noncomputable def Try.pinned : Pinned := { name := "ytokhjlcbflcbgaa", sum := "f18c619112b514f32af6ac40b9e08c384faf97fb6e14fb972cdb888eb09b6419", checked := Try.checked }
namespace Rows
def none {H : Type} : Left H := { results := [], args := [] }

/-- 'laws.FnExactCountPattern': WHATEVER THE INPUT: true; the input reads as it did. -/
def fnExactCountPatternSpec : ChangeSpec := { name := "fnExactCountPattern", fn := fun _ => fun
  | [d1, d2] => { results := [.lit (.bool true)], args := [d1, d2] }
  | _ => none }
def fnExactCountPatternRow : OpenClaim := { program := "ytokhjlcbflcbgaa", sum := "f18c619112b514f32af6ac40b9e08c384faf97fb6e14fb972cdb888eb09b6419", func := "loop.example/g01303/laws.FnExactCountPattern", spec := "fnExactCountPattern", unfollowed := true, recurses := true, leaving := true, apart := false }
def FnExactCountPatternSaid : Prop := fnExactCountPatternRow.holds Try.pinned (OpenSpec.ofChange fnExactCountPatternSpec)

/-- ITS FALSE NEIGHBOUR: 'it returns false'. Refute it at one input. -/
def fnExactCountPatternWrong : ChangeSpec := { name := "fnExactCountPattern", fn := fun _ => fun
  | [d1, d2] => { results := [.lit (.bool false)], args := [d1, d2] }
  | _ => none }
def FnExactCountPatternWrongFalsely : Prop := fnExactCountPatternRow.holds Try.pinned (OpenSpec.ofChange fnExactCountPatternWrong)

/-- 'laws.FnExactSecondNumber': WHATEVER THE INPUT: true; the input reads as it did. -/
def fnExactSecondNumberSpec : ChangeSpec := { name := "fnExactSecondNumber", fn := fun _ => fun
  | [d] => { results := [.lit (.bool true)], args := [d] }
  | _ => none }
def fnExactSecondNumberRow : OpenClaim := { program := "ytokhjlcbflcbgaa", sum := "f18c619112b514f32af6ac40b9e08c384faf97fb6e14fb972cdb888eb09b6419", func := "loop.example/g01303/laws.FnExactSecondNumber", spec := "fnExactSecondNumber", unfollowed := true, recurses := true, leaving := true, apart := false }
def FnExactSecondNumberSaid : Prop := fnExactSecondNumberRow.holds Try.pinned (OpenSpec.ofChange fnExactSecondNumberSpec)

/-- ITS FALSE NEIGHBOUR: 'it returns false'. Refute it at one input. -/
def fnExactSecondNumberWrong : ChangeSpec := { name := "fnExactSecondNumber", fn := fun _ => fun
  | [d] => { results := [.lit (.bool false)], args := [d] }
  | _ => none }
def FnExactSecondNumberWrongFalsely : Prop := fnExactSecondNumberRow.holds Try.pinned (OpenSpec.ofChange fnExactSecondNumberWrong)

/-- 'laws.FnInterlace': WHATEVER THE INPUT: true; the input reads as it did. -/
def fnInterlaceSpec : ChangeSpec := { name := "fnInterlace", fn := fun _ => fun
  | [d] => { results := [.lit (.bool true)], args := [d] }
  | _ => none }
def fnInterlaceRow : OpenClaim := { program := "ytokhjlcbflcbgaa", sum := "f18c619112b514f32af6ac40b9e08c384faf97fb6e14fb972cdb888eb09b6419", func := "loop.example/g01303/laws.FnInterlace", spec := "fnInterlace", unfollowed := true, recurses := true, leaving := true, apart := false }
def FnInterlaceSaid : Prop := fnInterlaceRow.holds Try.pinned (OpenSpec.ofChange fnInterlaceSpec)

/-- ITS FALSE NEIGHBOUR: 'it returns false'. Refute it at one input. -/
def fnInterlaceWrong : ChangeSpec := { name := "fnInterlace", fn := fun _ => fun
  | [d] => { results := [.lit (.bool false)], args := [d] }
  | _ => none }
def FnInterlaceWrongFalsely : Prop := fnInterlaceRow.holds Try.pinned (OpenSpec.ofChange fnInterlaceWrong)

/-- 'laws.FnColourings': WHATEVER THE INPUT: true; the input reads as it did. -/
def fnColouringsSpec : ChangeSpec := { name := "fnColourings", fn := fun _ => fun
  | [d] => { results := [.lit (.bool true)], args := [d] }
  | _ => none }
def fnColouringsRow : OpenClaim := { program := "ytokhjlcbflcbgaa", sum := "f18c619112b514f32af6ac40b9e08c384faf97fb6e14fb972cdb888eb09b6419", func := "loop.example/g01303/laws.FnColourings", spec := "fnColourings", unfollowed := true, recurses := true, leaving := true, apart := false }
def FnColouringsSaid : Prop := fnColouringsRow.holds Try.pinned (OpenSpec.ofChange fnColouringsSpec)

/-- ITS FALSE NEIGHBOUR: 'it returns false'. Refute it at one input. -/
def fnColouringsWrong : ChangeSpec := { name := "fnColourings", fn := fun _ => fun
  | [d] => { results := [.lit (.bool false)], args := [d] }
  | _ => none }
def FnColouringsWrongFalsely : Prop := fnColouringsRow.holds Try.pinned (OpenSpec.ofChange fnColouringsWrong)

/-- 'laws.FnExactAreAlike': WHATEVER THE INPUT: true; the input reads as it did. -/
def fnExactAreAlikeSpec : ChangeSpec := { name := "fnExactAreAlike", fn := fun _ => fun
  | [d1, d2] => { results := [.lit (.bool true)], args := [d1, d2] }
  | _ => none }
def fnExactAreAlikeRow : OpenClaim := { program := "ytokhjlcbflcbgaa", sum := "f18c619112b514f32af6ac40b9e08c384faf97fb6e14fb972cdb888eb09b6419", func := "loop.example/g01303/laws.FnExactAreAlike", spec := "fnExactAreAlike", unfollowed := true, recurses := true, leaving := true, apart := false }
def FnExactAreAlikeSaid : Prop := fnExactAreAlikeRow.holds Try.pinned (OpenSpec.ofChange fnExactAreAlikeSpec)

/-- ITS FALSE NEIGHBOUR: 'it returns false'. Refute it at one input. -/
def fnExactAreAlikeWrong : ChangeSpec := { name := "fnExactAreAlike", fn := fun _ => fun
  | [d1, d2] => { results := [.lit (.bool false)], args := [d1, d2] }
  | _ => none }
def FnExactAreAlikeWrongFalsely : Prop := fnExactAreAlikeRow.holds Try.pinned (OpenSpec.ofChange fnExactAreAlikeWrong)

/-- 'laws.FnExactCountMeanders': WHATEVER THE INPUT: true; the input reads as it did. -/
def fnExactCountMeandersSpec : ChangeSpec := { name := "fnExactCountMeanders", fn := fun _ => fun
  | [d] => { results := [.lit (.bool true)], args := [d] }
  | _ => none }
def fnExactCountMeandersRow : OpenClaim := { program := "ytokhjlcbflcbgaa", sum := "f18c619112b514f32af6ac40b9e08c384faf97fb6e14fb972cdb888eb09b6419", func := "loop.example/g01303/laws.FnExactCountMeanders", spec := "fnExactCountMeanders", unfollowed := true, recurses := true, leaving := true, apart := false }
def FnExactCountMeandersSaid : Prop := fnExactCountMeandersRow.holds Try.pinned (OpenSpec.ofChange fnExactCountMeandersSpec)

/-- ITS FALSE NEIGHBOUR: 'it returns false'. Refute it at one input. -/
def fnExactCountMeandersWrong : ChangeSpec := { name := "fnExactCountMeanders", fn := fun _ => fun
  | [d] => { results := [.lit (.bool false)], args := [d] }
  | _ => none }
def FnExactCountMeandersWrongFalsely : Prop := fnExactCountMeandersRow.holds Try.pinned (OpenSpec.ofChange fnExactCountMeandersWrong)

/-- 'laws.FnExactLongestChain': WHATEVER THE INPUT: true; the input reads as it did. -/
def fnExactLongestChainSpec : ChangeSpec := { name := "fnExactLongestChain", fn := fun _ => fun
  | [d] => { results := [.lit (.bool true)], args := [d] }
  | _ => none }
def fnExactLongestChainRow : OpenClaim := { program := "ytokhjlcbflcbgaa", sum := "f18c619112b514f32af6ac40b9e08c384faf97fb6e14fb972cdb888eb09b6419", func := "loop.example/g01303/laws.FnExactLongestChain", spec := "fnExactLongestChain", unfollowed := true, recurses := true, leaving := true, apart := false }
def FnExactLongestChainSaid : Prop := fnExactLongestChainRow.holds Try.pinned (OpenSpec.ofChange fnExactLongestChainSpec)

/-- ITS FALSE NEIGHBOUR: 'it returns false'. Refute it at one input. -/
def fnExactLongestChainWrong : ChangeSpec := { name := "fnExactLongestChain", fn := fun _ => fun
  | [d] => { results := [.lit (.bool false)], args := [d] }
  | _ => none }
def FnExactLongestChainWrongFalsely : Prop := fnExactLongestChainRow.holds Try.pinned (OpenSpec.ofChange fnExactLongestChainWrong)

/-- 'laws.FnExactValueOfPolynomial': WHATEVER THE INPUT: true; the input reads as it did. -/
def fnExactValueOfPolynomialSpec : ChangeSpec := { name := "fnExactValueOfPolynomial", fn := fun _ => fun
  | [d1, d2, d3] => { results := [.lit (.bool true)], args := [d1, d2, d3] }
  | _ => none }
def fnExactValueOfPolynomialRow : OpenClaim := { program := "ytokhjlcbflcbgaa", sum := "f18c619112b514f32af6ac40b9e08c384faf97fb6e14fb972cdb888eb09b6419", func := "loop.example/g01303/laws.FnExactValueOfPolynomial", spec := "fnExactValueOfPolynomial", unfollowed := true, recurses := true, leaving := true, apart := false }
def FnExactValueOfPolynomialSaid : Prop := fnExactValueOfPolynomialRow.holds Try.pinned (OpenSpec.ofChange fnExactValueOfPolynomialSpec)

/-- ITS FALSE NEIGHBOUR: 'it returns false'. Refute it at one input. -/
def fnExactValueOfPolynomialWrong : ChangeSpec := { name := "fnExactValueOfPolynomial", fn := fun _ => fun
  | [d1, d2, d3] => { results := [.lit (.bool false)], args := [d1, d2, d3] }
  | _ => none }
def FnExactValueOfPolynomialWrongFalsely : Prop := fnExactValueOfPolynomialRow.holds Try.pinned (OpenSpec.ofChange fnExactValueOfPolynomialWrong)

/-- 'laws.FnExactFreeWeight': WHATEVER THE INPUT: true; the input reads as it did. -/
def fnExactFreeWeightSpec : ChangeSpec := { name := "fnExactFreeWeight", fn := fun _ => fun
  | [d] => { results := [.lit (.bool true)], args := [d] }
  | _ => none }
def fnExactFreeWeightRow : OpenClaim := { program := "ytokhjlcbflcbgaa", sum := "f18c619112b514f32af6ac40b9e08c384faf97fb6e14fb972cdb888eb09b6419", func := "loop.example/g01303/laws.FnExactFreeWeight", spec := "fnExactFreeWeight", inPlace := ["(*sync.WaitGroup).Add", "internal/race.ReleaseMerge", "internal/race.Disable", "internal/race.Enable", "internal/synctest.IsInBubble", "internal/synctest.Associate[sync.WaitGroup]", "sync.fatal", "sync/atomic.OrUint64", "sync/atomic.AddUint64", "internal/race.Read", "sync/atomic.LoadUint64", "sync/atomic.StoreUint64", "internal/synctest.Disassociate[sync.WaitGroup]", "sync.runtime_Semrelease", "(*sync.WaitGroup).Done", "(*sync.WaitGroup).Wait", "internal/race.Acquire", "internal/synctest.IsAssociated[sync.WaitGroup]", "sync/atomic.CompareAndSwapUint64", "internal/race.Write", "sync.runtime_SemacquireWaitGroup"], unfollowed := true, recurses := true, leaving := true, apart := false }
def FnExactFreeWeightSaid : Prop := fnExactFreeWeightRow.holds Try.pinned (OpenSpec.ofChange fnExactFreeWeightSpec)

/-- ITS FALSE NEIGHBOUR: 'it returns false'. Refute it at one input. -/
def fnExactFreeWeightWrong : ChangeSpec := { name := "fnExactFreeWeight", fn := fun _ => fun
  | [d] => { results := [.lit (.bool false)], args := [d] }
  | _ => none }
def FnExactFreeWeightWrongFalsely : Prop := fnExactFreeWeightRow.holds Try.pinned (OpenSpec.ofChange fnExactFreeWeightWrong)

/-- 'laws.FnExactDivisionsOf': WHATEVER THE INPUT: true; the input reads as it did. -/
def fnExactDivisionsOfSpec : ChangeSpec := { name := "fnExactDivisionsOf", fn := fun _ => fun
  | [d] => { results := [.lit (.bool true)], args := [d] }
  | _ => none }
def fnExactDivisionsOfRow : OpenClaim := { program := "ytokhjlcbflcbgaa", sum := "f18c619112b514f32af6ac40b9e08c384faf97fb6e14fb972cdb888eb09b6419", func := "loop.example/g01303/laws.FnExactDivisionsOf", spec := "fnExactDivisionsOf", unfollowed := true, recurses := true, leaving := true, apart := false }
def FnExactDivisionsOfSaid : Prop := fnExactDivisionsOfRow.holds Try.pinned (OpenSpec.ofChange fnExactDivisionsOfSpec)

/-- ITS FALSE NEIGHBOUR: 'it returns false'. Refute it at one input. -/
def fnExactDivisionsOfWrong : ChangeSpec := { name := "fnExactDivisionsOf", fn := fun _ => fun
  | [d] => { results := [.lit (.bool false)], args := [d] }
  | _ => none }
def FnExactDivisionsOfWrongFalsely : Prop := fnExactDivisionsOfRow.holds Try.pinned (OpenSpec.ofChange fnExactDivisionsOfWrong)

/- THE SECOND FORM. 'bulk': how many values and letters a reading holds, each counted each time it is reached (what is shared counts as often as it is met; a slice's spare places count too). A statement '..UptoSaid' is the law's where the arguments, and the package variables that the reading takes, are together of bulk at most 1048576: NARROWER than '..Said'. Prove '..Said' where nothing that the law and all that it calls make is longer than what came in: it says more and counts as full. Else prove '..UptoSaid'. A law counts once. -/
mutual
def uptoBulk {H : Type} : DataW H → Nat
  | .lit (.string bytes) => bytes.length + 1
  | .lit _ => 1
  | .nil => 1
  | .ptr d => uptoBulk d + 1
  | .slice elems spare => uptoBulkAll elems + uptoBulkAll spare + 1
  | .agg parts => uptoBulkAll parts + 1
  | .iface _ d => uptoBulk d + 1
  | .map entries => uptoBulkEntries entries + 1
  | .held _ => 1
def uptoBulkAll {H : Type} : List (DataW H) → Nat
  | [] => 0
  | d :: r => uptoBulk d + uptoBulkAll r
def uptoBulkEntries {H : Type} : List (Lit × DataW H) → Nat
  | [] => 0
  | x :: r => uptoBulkEntry x + uptoBulkEntries r
def uptoBulkEntry {H : Type} : Lit × DataW H → Nat
  | (.string bytes, d) => bytes.length + uptoBulk d + 1
  | (_, d) => uptoBulk d + 1
 end
def uptoSmall : (H : Type) → List (DataW H) → Bool := fun _ ds => decide (uptoBulkAll ds ≤ 1048576)
def OpenSpec.upto (s : _root_.Go.ChangeSpec) : _root_.Go.OpenSpec := { _root_.Go.OpenSpec.ofChange s with cond := some uptoSmall }

/-- 'laws.FnExactCountPattern', WHERE WHAT IT READS IS OF BULK AT MOST 1048576: true; the input reads as it did. -/
def fnExactCountPatternUptoRow : OpenClaim := { program := "ytokhjlcbflcbgaa", sum := "f18c619112b514f32af6ac40b9e08c384faf97fb6e14fb972cdb888eb09b6419", func := "loop.example/g01303/laws.FnExactCountPattern", spec := "fnExactCountPattern", unfollowed := true, recurses := true, leaving := true, apart := false, narrowed := true }
def FnExactCountPatternUptoSaid : Prop := fnExactCountPatternUptoRow.holds Try.pinned (OpenSpec.upto fnExactCountPatternSpec)

/-- 'laws.FnExactSecondNumber', WHERE WHAT IT READS IS OF BULK AT MOST 1048576: true; the input reads as it did. -/
def fnExactSecondNumberUptoRow : OpenClaim := { program := "ytokhjlcbflcbgaa", sum := "f18c619112b514f32af6ac40b9e08c384faf97fb6e14fb972cdb888eb09b6419", func := "loop.example/g01303/laws.FnExactSecondNumber", spec := "fnExactSecondNumber", unfollowed := true, recurses := true, leaving := true, apart := false, narrowed := true }
def FnExactSecondNumberUptoSaid : Prop := fnExactSecondNumberUptoRow.holds Try.pinned (OpenSpec.upto fnExactSecondNumberSpec)

/-- 'laws.FnInterlace', WHERE WHAT IT READS IS OF BULK AT MOST 1048576: true; the input reads as it did. -/
def fnInterlaceUptoRow : OpenClaim := { program := "ytokhjlcbflcbgaa", sum := "f18c619112b514f32af6ac40b9e08c384faf97fb6e14fb972cdb888eb09b6419", func := "loop.example/g01303/laws.FnInterlace", spec := "fnInterlace", unfollowed := true, recurses := true, leaving := true, apart := false, narrowed := true }
def FnInterlaceUptoSaid : Prop := fnInterlaceUptoRow.holds Try.pinned (OpenSpec.upto fnInterlaceSpec)

/-- 'laws.FnColourings', WHERE WHAT IT READS IS OF BULK AT MOST 1048576: true; the input reads as it did. -/
def fnColouringsUptoRow : OpenClaim := { program := "ytokhjlcbflcbgaa", sum := "f18c619112b514f32af6ac40b9e08c384faf97fb6e14fb972cdb888eb09b6419", func := "loop.example/g01303/laws.FnColourings", spec := "fnColourings", unfollowed := true, recurses := true, leaving := true, apart := false, narrowed := true }
def FnColouringsUptoSaid : Prop := fnColouringsUptoRow.holds Try.pinned (OpenSpec.upto fnColouringsSpec)

/-- 'laws.FnExactAreAlike', WHERE WHAT IT READS IS OF BULK AT MOST 1048576: true; the input reads as it did. -/
def fnExactAreAlikeUptoRow : OpenClaim := { program := "ytokhjlcbflcbgaa", sum := "f18c619112b514f32af6ac40b9e08c384faf97fb6e14fb972cdb888eb09b6419", func := "loop.example/g01303/laws.FnExactAreAlike", spec := "fnExactAreAlike", unfollowed := true, recurses := true, leaving := true, apart := false, narrowed := true }
def FnExactAreAlikeUptoSaid : Prop := fnExactAreAlikeUptoRow.holds Try.pinned (OpenSpec.upto fnExactAreAlikeSpec)

/-- 'laws.FnExactCountMeanders', WHERE WHAT IT READS IS OF BULK AT MOST 1048576: true; the input reads as it did. -/
def fnExactCountMeandersUptoRow : OpenClaim := { program := "ytokhjlcbflcbgaa", sum := "f18c619112b514f32af6ac40b9e08c384faf97fb6e14fb972cdb888eb09b6419", func := "loop.example/g01303/laws.FnExactCountMeanders", spec := "fnExactCountMeanders", unfollowed := true, recurses := true, leaving := true, apart := false, narrowed := true }
def FnExactCountMeandersUptoSaid : Prop := fnExactCountMeandersUptoRow.holds Try.pinned (OpenSpec.upto fnExactCountMeandersSpec)

/-- 'laws.FnExactLongestChain', WHERE WHAT IT READS IS OF BULK AT MOST 1048576: true; the input reads as it did. -/
def fnExactLongestChainUptoRow : OpenClaim := { program := "ytokhjlcbflcbgaa", sum := "f18c619112b514f32af6ac40b9e08c384faf97fb6e14fb972cdb888eb09b6419", func := "loop.example/g01303/laws.FnExactLongestChain", spec := "fnExactLongestChain", unfollowed := true, recurses := true, leaving := true, apart := false, narrowed := true }
def FnExactLongestChainUptoSaid : Prop := fnExactLongestChainUptoRow.holds Try.pinned (OpenSpec.upto fnExactLongestChainSpec)

/-- 'laws.FnExactValueOfPolynomial', WHERE WHAT IT READS IS OF BULK AT MOST 1048576: true; the input reads as it did. -/
def fnExactValueOfPolynomialUptoRow : OpenClaim := { program := "ytokhjlcbflcbgaa", sum := "f18c619112b514f32af6ac40b9e08c384faf97fb6e14fb972cdb888eb09b6419", func := "loop.example/g01303/laws.FnExactValueOfPolynomial", spec := "fnExactValueOfPolynomial", unfollowed := true, recurses := true, leaving := true, apart := false, narrowed := true }
def FnExactValueOfPolynomialUptoSaid : Prop := fnExactValueOfPolynomialUptoRow.holds Try.pinned (OpenSpec.upto fnExactValueOfPolynomialSpec)

/-- 'laws.FnExactFreeWeight', WHERE WHAT IT READS IS OF BULK AT MOST 1048576: true; the input reads as it did. -/
def fnExactFreeWeightUptoRow : OpenClaim := { program := "ytokhjlcbflcbgaa", sum := "f18c619112b514f32af6ac40b9e08c384faf97fb6e14fb972cdb888eb09b6419", func := "loop.example/g01303/laws.FnExactFreeWeight", spec := "fnExactFreeWeight", inPlace := ["(*sync.WaitGroup).Add", "internal/race.ReleaseMerge", "internal/race.Disable", "internal/race.Enable", "internal/synctest.IsInBubble", "internal/synctest.Associate[sync.WaitGroup]", "sync.fatal", "sync/atomic.OrUint64", "sync/atomic.AddUint64", "internal/race.Read", "sync/atomic.LoadUint64", "sync/atomic.StoreUint64", "internal/synctest.Disassociate[sync.WaitGroup]", "sync.runtime_Semrelease", "(*sync.WaitGroup).Done", "(*sync.WaitGroup).Wait", "internal/race.Acquire", "internal/synctest.IsAssociated[sync.WaitGroup]", "sync/atomic.CompareAndSwapUint64", "internal/race.Write", "sync.runtime_SemacquireWaitGroup"], unfollowed := true, recurses := true, leaving := true, apart := false, narrowed := true }
def FnExactFreeWeightUptoSaid : Prop := fnExactFreeWeightUptoRow.holds Try.pinned (OpenSpec.upto fnExactFreeWeightSpec)

/-- 'laws.FnExactDivisionsOf', WHERE WHAT IT READS IS OF BULK AT MOST 1048576: true; the input reads as it did. -/
def fnExactDivisionsOfUptoRow : OpenClaim := { program := "ytokhjlcbflcbgaa", sum := "f18c619112b514f32af6ac40b9e08c384faf97fb6e14fb972cdb888eb09b6419", func := "loop.example/g01303/laws.FnExactDivisionsOf", spec := "fnExactDivisionsOf", unfollowed := true, recurses := true, leaving := true, apart := false, narrowed := true }
def FnExactDivisionsOfUptoSaid : Prop := fnExactDivisionsOfUptoRow.holds Try.pinned (OpenSpec.upto fnExactDivisionsOfSpec)

end Rows
end Go.Proofs.Ytokhjlcbflcbgaa
