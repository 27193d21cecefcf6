/-
  No cell of these rows narrows 'for every input' (looked for: loops, veiled, ifaces, maps, wideKeys, modest, calm, conditions, laid).
  DERIVED. THE GIVEN ROWS OF THIS SEAT. 12 by the template 'for every input the law returns true; each argument reads behind the call as it read before'; 0 by the template 'total and deterministic' (their statements: YtbmnnpjfapofaaaTotals.lean).
  GIVEN WITH THE SEED: the statements are not yours to turn. If you find one false, say at which input.
  Laid BY PROGRAM, IN A SANDBOX (cutbox-rows.mjs): the forced cells as the released guide's own fill.sh prints them over the translation 08049f5f4d44c110… (all of the seat's roots in one cut). By AI agents, Wed Nov 11 2026. No macro, syntax, notation, axiom, sorry.
-/
import Derived.Test.YtbmnnpjfapofaaaChecked
import GoSem.Claim
import GoSem.ClaimJoined
import GoSem.ClaimMapViews
import Derived.JoinedTies
import Derived.KernelRfl
namespace Go.Proofs.Ytbmnnpjfapofaaa
/- THE CELL 'sum', in the pinned program and in every row, IS THE sha256 OF THE DUMP (.gsa) THAT YtbmnnpjfapofaaaProg.lean LOADS. Nothing in Lean hashes anything: it is a label: what it is worth is what the hold of that sum in a sandbox is worth. -/
noncomputable def Try.pinned : Pinned := { name := "ytbmnnpjfapofaaa", sum := "08049f5f4d44c110496251fd020087eaaac0ac341140b61e3ae67d05a1abcb10", checked := Try.checked }
namespace Rows
def none {H : Type} : Left H := { results := [], args := [] }

/-- 'laws.FnExactLocalComplement': WHATEVER THE INPUT: true; the input reads as it did. -/
def fnExactLocalComplementSpec : ChangeSpec := { name := "fnExactLocalComplement", fn := fun _ => fun
  | [d1, d2] => { results := [.lit (.bool true)], args := [d1, d2] }
  | _ => none }
def fnExactLocalComplementRow : OpenClaim := { program := "ytbmnnpjfapofaaa", sum := "08049f5f4d44c110496251fd020087eaaac0ac341140b61e3ae67d05a1abcb10", func := "loop.example/g01303/laws.FnExactLocalComplement", spec := "fnExactLocalComplement", apart := false }
def FnExactLocalComplementSaid : Prop := fnExactLocalComplementRow.holds Try.pinned (OpenSpec.ofChange fnExactLocalComplementSpec)

/-- ITS FALSE NEIGHBOUR: 'it returns false'. Refute it at one input. -/
def fnExactLocalComplementWrong : ChangeSpec := { name := "fnExactLocalComplement", fn := fun _ => fun
  | [d1, d2] => { results := [.lit (.bool false)], args := [d1, d2] }
  | _ => none }
def FnExactLocalComplementWrongFalsely : Prop := fnExactLocalComplementRow.holds Try.pinned (OpenSpec.ofChange fnExactLocalComplementWrong)

/-- 'laws.FnExactPivotWord': WHATEVER THE INPUT: true; the input reads as it did. -/
def fnExactPivotWordSpec : ChangeSpec := { name := "fnExactPivotWord", fn := fun _ => fun
  | [d1, d2, d3] => { results := [.lit (.bool true)], args := [d1, d2, d3] }
  | _ => none }
def fnExactPivotWordRow : OpenClaim := { program := "ytbmnnpjfapofaaa", sum := "08049f5f4d44c110496251fd020087eaaac0ac341140b61e3ae67d05a1abcb10", func := "loop.example/g01303/laws.FnExactPivotWord", spec := "fnExactPivotWord", unfollowed := true, recurses := true, leaving := true, apart := false }
def FnExactPivotWordSaid : Prop := fnExactPivotWordRow.holds Try.pinned (OpenSpec.ofChange fnExactPivotWordSpec)

/-- ITS FALSE NEIGHBOUR: 'it returns false'. Refute it at one input. -/
def fnExactPivotWordWrong : ChangeSpec := { name := "fnExactPivotWord", fn := fun _ => fun
  | [d1, d2, d3] => { results := [.lit (.bool false)], args := [d1, d2, d3] }
  | _ => none }
def FnExactPivotWordWrongFalsely : Prop := fnExactPivotWordRow.holds Try.pinned (OpenSpec.ofChange fnExactPivotWordWrong)

/-- 'laws.FnExactInterlacePolynomial': WHATEVER THE INPUT: true; the input reads as it did. -/
def fnExactInterlacePolynomialSpec : ChangeSpec := { name := "fnExactInterlacePolynomial", fn := fun _ => fun
  | [d] => { results := [.lit (.bool true)], args := [d] }
  | _ => none }
def fnExactInterlacePolynomialRow : OpenClaim := { program := "ytbmnnpjfapofaaa", sum := "08049f5f4d44c110496251fd020087eaaac0ac341140b61e3ae67d05a1abcb10", func := "loop.example/g01303/laws.FnExactInterlacePolynomial", spec := "fnExactInterlacePolynomial", unfollowed := true, recurses := true, leaving := true, apart := false }
def FnExactInterlacePolynomialSaid : Prop := fnExactInterlacePolynomialRow.holds Try.pinned (OpenSpec.ofChange fnExactInterlacePolynomialSpec)

/-- ITS FALSE NEIGHBOUR: 'it returns false'. Refute it at one input. -/
def fnExactInterlacePolynomialWrong : ChangeSpec := { name := "fnExactInterlacePolynomial", fn := fun _ => fun
  | [d] => { results := [.lit (.bool false)], args := [d] }
  | _ => none }
def FnExactInterlacePolynomialWrongFalsely : Prop := fnExactInterlacePolynomialRow.holds Try.pinned (OpenSpec.ofChange fnExactInterlacePolynomialWrong)

/-- 'laws.FnExactValueOfInterlace': WHATEVER THE INPUT: true; the input reads as it did. -/
def fnExactValueOfInterlaceSpec : ChangeSpec := { name := "fnExactValueOfInterlace", fn := fun _ => fun
  | [d1, d2] => { results := [.lit (.bool true)], args := [d1, d2] }
  | _ => none }
def fnExactValueOfInterlaceRow : OpenClaim := { program := "ytbmnnpjfapofaaa", sum := "08049f5f4d44c110496251fd020087eaaac0ac341140b61e3ae67d05a1abcb10", func := "loop.example/g01303/laws.FnExactValueOfInterlace", spec := "fnExactValueOfInterlace", unfollowed := true, recurses := true, leaving := true, apart := false }
def FnExactValueOfInterlaceSaid : Prop := fnExactValueOfInterlaceRow.holds Try.pinned (OpenSpec.ofChange fnExactValueOfInterlaceSpec)

/-- ITS FALSE NEIGHBOUR: 'it returns false'. Refute it at one input. -/
def fnExactValueOfInterlaceWrong : ChangeSpec := { name := "fnExactValueOfInterlace", fn := fun _ => fun
  | [d1, d2] => { results := [.lit (.bool false)], args := [d1, d2] }
  | _ => none }
def FnExactValueOfInterlaceWrongFalsely : Prop := fnExactValueOfInterlaceRow.holds Try.pinned (OpenSpec.ofChange fnExactValueOfInterlaceWrong)

/-- 'laws.FnExactIndependentNumbers': WHATEVER THE INPUT: true; the input reads as it did. -/
def fnExactIndependentNumbersSpec : ChangeSpec := { name := "fnExactIndependentNumbers", fn := fun _ => fun
  | [d] => { results := [.lit (.bool true)], args := [d] }
  | _ => none }
def fnExactIndependentNumbersRow : OpenClaim := { program := "ytbmnnpjfapofaaa", sum := "08049f5f4d44c110496251fd020087eaaac0ac341140b61e3ae67d05a1abcb10", func := "loop.example/g01303/laws.FnExactIndependentNumbers", spec := "fnExactIndependentNumbers", unfollowed := true, recurses := true, leaving := true, apart := false }
def FnExactIndependentNumbersSaid : Prop := fnExactIndependentNumbersRow.holds Try.pinned (OpenSpec.ofChange fnExactIndependentNumbersSpec)

/-- ITS FALSE NEIGHBOUR: 'it returns false'. Refute it at one input. -/
def fnExactIndependentNumbersWrong : ChangeSpec := { name := "fnExactIndependentNumbers", fn := fun _ => fun
  | [d] => { results := [.lit (.bool false)], args := [d] }
  | _ => none }
def FnExactIndependentNumbersWrongFalsely : Prop := fnExactIndependentNumbersRow.holds Try.pinned (OpenSpec.ofChange fnExactIndependentNumbersWrong)

/-- 'laws.FnExactCliqueNumbers': WHATEVER THE INPUT: true; the input reads as it did. -/
def fnExactCliqueNumbersSpec : ChangeSpec := { name := "fnExactCliqueNumbers", fn := fun _ => fun
  | [d] => { results := [.lit (.bool true)], args := [d] }
  | _ => none }
def fnExactCliqueNumbersRow : OpenClaim := { program := "ytbmnnpjfapofaaa", sum := "08049f5f4d44c110496251fd020087eaaac0ac341140b61e3ae67d05a1abcb10", func := "loop.example/g01303/laws.FnExactCliqueNumbers", spec := "fnExactCliqueNumbers", unfollowed := true, recurses := true, leaving := true, apart := false }
def FnExactCliqueNumbersSaid : Prop := fnExactCliqueNumbersRow.holds Try.pinned (OpenSpec.ofChange fnExactCliqueNumbersSpec)

/-- ITS FALSE NEIGHBOUR: 'it returns false'. Refute it at one input. -/
def fnExactCliqueNumbersWrong : ChangeSpec := { name := "fnExactCliqueNumbers", fn := fun _ => fun
  | [d] => { results := [.lit (.bool false)], args := [d] }
  | _ => none }
def FnExactCliqueNumbersWrongFalsely : Prop := fnExactCliqueNumbersRow.holds Try.pinned (OpenSpec.ofChange fnExactCliqueNumbersWrong)

/-- 'laws.FnExactMatchingNumbers': WHATEVER THE INPUT: true; the input reads as it did. -/
def fnExactMatchingNumbersSpec : ChangeSpec := { name := "fnExactMatchingNumbers", fn := fun _ => fun
  | [d] => { results := [.lit (.bool true)], args := [d] }
  | _ => none }
def fnExactMatchingNumbersRow : OpenClaim := { program := "ytbmnnpjfapofaaa", sum := "08049f5f4d44c110496251fd020087eaaac0ac341140b61e3ae67d05a1abcb10", func := "loop.example/g01303/laws.FnExactMatchingNumbers", spec := "fnExactMatchingNumbers", unfollowed := true, recurses := true, leaving := true, apart := false }
def FnExactMatchingNumbersSaid : Prop := fnExactMatchingNumbersRow.holds Try.pinned (OpenSpec.ofChange fnExactMatchingNumbersSpec)

/-- ITS FALSE NEIGHBOUR: 'it returns false'. Refute it at one input. -/
def fnExactMatchingNumbersWrong : ChangeSpec := { name := "fnExactMatchingNumbers", fn := fun _ => fun
  | [d] => { results := [.lit (.bool false)], args := [d] }
  | _ => none }
def FnExactMatchingNumbersWrongFalsely : Prop := fnExactMatchingNumbersRow.holds Try.pinned (OpenSpec.ofChange fnExactMatchingNumbersWrong)

/-- 'laws.FnExactCountColourings': WHATEVER THE INPUT: true; the input reads as it did. -/
def fnExactCountColouringsSpec : ChangeSpec := { name := "fnExactCountColourings", fn := fun _ => fun
  | [d1, d2] => { results := [.lit (.bool true)], args := [d1, d2] }
  | _ => none }
def fnExactCountColouringsRow : OpenClaim := { program := "ytbmnnpjfapofaaa", sum := "08049f5f4d44c110496251fd020087eaaac0ac341140b61e3ae67d05a1abcb10", func := "loop.example/g01303/laws.FnExactCountColourings", spec := "fnExactCountColourings", unfollowed := true, recurses := true, leaving := true, apart := false }
def FnExactCountColouringsSaid : Prop := fnExactCountColouringsRow.holds Try.pinned (OpenSpec.ofChange fnExactCountColouringsSpec)

/-- ITS FALSE NEIGHBOUR: 'it returns false'. Refute it at one input. -/
def fnExactCountColouringsWrong : ChangeSpec := { name := "fnExactCountColourings", fn := fun _ => fun
  | [d1, d2] => { results := [.lit (.bool false)], args := [d1, d2] }
  | _ => none }
def FnExactCountColouringsWrongFalsely : Prop := fnExactCountColouringsRow.holds Try.pinned (OpenSpec.ofChange fnExactCountColouringsWrong)

/-- 'laws.FnExactColouringPolynomial': WHATEVER THE INPUT: true; the input reads as it did. -/
def fnExactColouringPolynomialSpec : ChangeSpec := { name := "fnExactColouringPolynomial", fn := fun _ => fun
  | [d] => { results := [.lit (.bool true)], args := [d] }
  | _ => none }
def fnExactColouringPolynomialRow : OpenClaim := { program := "ytbmnnpjfapofaaa", sum := "08049f5f4d44c110496251fd020087eaaac0ac341140b61e3ae67d05a1abcb10", func := "loop.example/g01303/laws.FnExactColouringPolynomial", spec := "fnExactColouringPolynomial", unfollowed := true, recurses := true, leaving := true, apart := false }
def FnExactColouringPolynomialSaid : Prop := fnExactColouringPolynomialRow.holds Try.pinned (OpenSpec.ofChange fnExactColouringPolynomialSpec)

/-- ITS FALSE NEIGHBOUR: 'it returns false'. Refute it at one input. -/
def fnExactColouringPolynomialWrong : ChangeSpec := { name := "fnExactColouringPolynomial", fn := fun _ => fun
  | [d] => { results := [.lit (.bool false)], args := [d] }
  | _ => none }
def FnExactColouringPolynomialWrongFalsely : Prop := fnExactColouringPolynomialRow.holds Try.pinned (OpenSpec.ofChange fnExactColouringPolynomialWrong)

/-- 'laws.FnExactLeastColours': WHATEVER THE INPUT: true; the input reads as it did. -/
def fnExactLeastColoursSpec : ChangeSpec := { name := "fnExactLeastColours", fn := fun _ => fun
  | [d] => { results := [.lit (.bool true)], args := [d] }
  | _ => none }
def fnExactLeastColoursRow : OpenClaim := { program := "ytbmnnpjfapofaaa", sum := "08049f5f4d44c110496251fd020087eaaac0ac341140b61e3ae67d05a1abcb10", func := "loop.example/g01303/laws.FnExactLeastColours", spec := "fnExactLeastColours", unfollowed := true, recurses := true, leaving := true, apart := false }
def FnExactLeastColoursSaid : Prop := fnExactLeastColoursRow.holds Try.pinned (OpenSpec.ofChange fnExactLeastColoursSpec)

/-- ITS FALSE NEIGHBOUR: 'it returns false'. Refute it at one input. -/
def fnExactLeastColoursWrong : ChangeSpec := { name := "fnExactLeastColours", fn := fun _ => fun
  | [d] => { results := [.lit (.bool false)], args := [d] }
  | _ => none }
def FnExactLeastColoursWrongFalsely : Prop := fnExactLeastColoursRow.holds Try.pinned (OpenSpec.ofChange fnExactLeastColoursWrong)

/-- 'laws.FnExactAreAlikeGraphs': WHATEVER THE INPUT: true; the input reads as it did. -/
def fnExactAreAlikeGraphsSpec : ChangeSpec := { name := "fnExactAreAlikeGraphs", fn := fun _ => fun
  | [d1, d2] => { results := [.lit (.bool true)], args := [d1, d2] }
  | _ => none }
def fnExactAreAlikeGraphsRow : OpenClaim := { program := "ytbmnnpjfapofaaa", sum := "08049f5f4d44c110496251fd020087eaaac0ac341140b61e3ae67d05a1abcb10", func := "loop.example/g01303/laws.FnExactAreAlikeGraphs", spec := "fnExactAreAlikeGraphs", unfollowed := true, recurses := true, leaving := true, apart := false }
def FnExactAreAlikeGraphsSaid : Prop := fnExactAreAlikeGraphsRow.holds Try.pinned (OpenSpec.ofChange fnExactAreAlikeGraphsSpec)

/-- ITS FALSE NEIGHBOUR: 'it returns false'. Refute it at one input. -/
def fnExactAreAlikeGraphsWrong : ChangeSpec := { name := "fnExactAreAlikeGraphs", fn := fun _ => fun
  | [d1, d2] => { results := [.lit (.bool false)], args := [d1, d2] }
  | _ => none }
def FnExactAreAlikeGraphsWrongFalsely : Prop := fnExactAreAlikeGraphsRow.holds Try.pinned (OpenSpec.ofChange fnExactAreAlikeGraphsWrong)

/-- 'laws.FnExactCrossingCode': WHATEVER THE INPUT: true; the input reads as it did. -/
def fnExactCrossingCodeSpec : ChangeSpec := { name := "fnExactCrossingCode", fn := fun _ => fun
  | [d] => { results := [.lit (.bool true)], args := [d] }
  | _ => none }
def fnExactCrossingCodeRow : OpenClaim := { program := "ytbmnnpjfapofaaa", sum := "08049f5f4d44c110496251fd020087eaaac0ac341140b61e3ae67d05a1abcb10", func := "loop.example/g01303/laws.FnExactCrossingCode", spec := "fnExactCrossingCode", unfollowed := true, recurses := true, leaving := true, apart := false }
def FnExactCrossingCodeSaid : Prop := fnExactCrossingCodeRow.holds Try.pinned (OpenSpec.ofChange fnExactCrossingCodeSpec)

/-- ITS FALSE NEIGHBOUR: 'it returns false'. Refute it at one input. -/
def fnExactCrossingCodeWrong : ChangeSpec := { name := "fnExactCrossingCode", fn := fun _ => fun
  | [d] => { results := [.lit (.bool false)], args := [d] }
  | _ => none }
def FnExactCrossingCodeWrongFalsely : Prop := fnExactCrossingCodeRow.holds Try.pinned (OpenSpec.ofChange fnExactCrossingCodeWrong)

/- THE SECOND FORM. 'bulk': how many values and letters a reading holds, each counted each time it is reached (what is shared counts as often as it is met; a slice's spare places count too). A statement '..UptoSaid' is the law's where the arguments, and the package variables that the reading takes, are together of bulk at most 1048576: NARROWER than '..Said'. Prove '..Said' where nothing that the law and all that it calls make is longer than what came in: it says more and counts as full. Else prove '..UptoSaid'. A law counts once. -/
mutual
def uptoBulk {H : Type} : DataW H → Nat
  | .lit (.string bytes) => bytes.length + 1
  | .lit _ => 1
  | .nil => 1
  | .ptr d => uptoBulk d + 1
  | .slice elems spare => uptoBulkAll elems + uptoBulkAll spare + 1
  | .agg parts => uptoBulkAll parts + 1
  | .iface _ d => uptoBulk d + 1
  | .map entries => uptoBulkEntries entries + 1
  | .held _ => 1
def uptoBulkAll {H : Type} : List (DataW H) → Nat
  | [] => 0
  | d :: r => uptoBulk d + uptoBulkAll r
def uptoBulkEntries {H : Type} : List (Lit × DataW H) → Nat
  | [] => 0
  | x :: r => uptoBulkEntry x + uptoBulkEntries r
def uptoBulkEntry {H : Type} : Lit × DataW H → Nat
  | (.string bytes, d) => bytes.length + uptoBulk d + 1
  | (_, d) => uptoBulk d + 1
 end
def uptoSmall : (H : Type) → List (DataW H) → Bool := fun _ ds => decide (uptoBulkAll ds ≤ 1048576)
def OpenSpec.upto (s : _root_.Go.ChangeSpec) : _root_.Go.OpenSpec := { _root_.Go.OpenSpec.ofChange s with cond := some uptoSmall }

/-- 'laws.FnExactLocalComplement', WHERE WHAT IT READS IS OF BULK AT MOST 1048576: true; the input reads as it did. -/
def fnExactLocalComplementUptoRow : OpenClaim := { program := "ytbmnnpjfapofaaa", sum := "08049f5f4d44c110496251fd020087eaaac0ac341140b61e3ae67d05a1abcb10", func := "loop.example/g01303/laws.FnExactLocalComplement", spec := "fnExactLocalComplement", apart := false, narrowed := true }
def FnExactLocalComplementUptoSaid : Prop := fnExactLocalComplementUptoRow.holds Try.pinned (OpenSpec.upto fnExactLocalComplementSpec)

/-- 'laws.FnExactPivotWord', WHERE WHAT IT READS IS OF BULK AT MOST 1048576: true; the input reads as it did. -/
def fnExactPivotWordUptoRow : OpenClaim := { program := "ytbmnnpjfapofaaa", sum := "08049f5f4d44c110496251fd020087eaaac0ac341140b61e3ae67d05a1abcb10", func := "loop.example/g01303/laws.FnExactPivotWord", spec := "fnExactPivotWord", unfollowed := true, recurses := true, leaving := true, apart := false, narrowed := true }
def FnExactPivotWordUptoSaid : Prop := fnExactPivotWordUptoRow.holds Try.pinned (OpenSpec.upto fnExactPivotWordSpec)

/-- 'laws.FnExactInterlacePolynomial', WHERE WHAT IT READS IS OF BULK AT MOST 1048576: true; the input reads as it did. -/
def fnExactInterlacePolynomialUptoRow : OpenClaim := { program := "ytbmnnpjfapofaaa", sum := "08049f5f4d44c110496251fd020087eaaac0ac341140b61e3ae67d05a1abcb10", func := "loop.example/g01303/laws.FnExactInterlacePolynomial", spec := "fnExactInterlacePolynomial", unfollowed := true, recurses := true, leaving := true, apart := false, narrowed := true }
def FnExactInterlacePolynomialUptoSaid : Prop := fnExactInterlacePolynomialUptoRow.holds Try.pinned (OpenSpec.upto fnExactInterlacePolynomialSpec)

/-- 'laws.FnExactValueOfInterlace', WHERE WHAT IT READS IS OF BULK AT MOST 1048576: true; the input reads as it did. -/
def fnExactValueOfInterlaceUptoRow : OpenClaim := { program := "ytbmnnpjfapofaaa", sum := "08049f5f4d44c110496251fd020087eaaac0ac341140b61e3ae67d05a1abcb10", func := "loop.example/g01303/laws.FnExactValueOfInterlace", spec := "fnExactValueOfInterlace", unfollowed := true, recurses := true, leaving := true, apart := false, narrowed := true }
def FnExactValueOfInterlaceUptoSaid : Prop := fnExactValueOfInterlaceUptoRow.holds Try.pinned (OpenSpec.upto fnExactValueOfInterlaceSpec)

/-- 'laws.FnExactIndependentNumbers', WHERE WHAT IT READS IS OF BULK AT MOST 1048576: true; the input reads as it did. -/
def fnExactIndependentNumbersUptoRow : OpenClaim := { program := "ytbmnnpjfapofaaa", sum := "08049f5f4d44c110496251fd020087eaaac0ac341140b61e3ae67d05a1abcb10", func := "loop.example/g01303/laws.FnExactIndependentNumbers", spec := "fnExactIndependentNumbers", unfollowed := true, recurses := true, leaving := true, apart := false, narrowed := true }
def FnExactIndependentNumbersUptoSaid : Prop := fnExactIndependentNumbersUptoRow.holds Try.pinned (OpenSpec.upto fnExactIndependentNumbersSpec)

/-- 'laws.FnExactCliqueNumbers', WHERE WHAT IT READS IS OF BULK AT MOST 1048576: true; the input reads as it did. -/
def fnExactCliqueNumbersUptoRow : OpenClaim := { program := "ytbmnnpjfapofaaa", sum := "08049f5f4d44c110496251fd020087eaaac0ac341140b61e3ae67d05a1abcb10", func := "loop.example/g01303/laws.FnExactCliqueNumbers", spec := "fnExactCliqueNumbers", unfollowed := true, recurses := true, leaving := true, apart := false, narrowed := true }
def FnExactCliqueNumbersUptoSaid : Prop := fnExactCliqueNumbersUptoRow.holds Try.pinned (OpenSpec.upto fnExactCliqueNumbersSpec)

/-- 'laws.FnExactMatchingNumbers', WHERE WHAT IT READS IS OF BULK AT MOST 1048576: true; the input reads as it did. -/
def fnExactMatchingNumbersUptoRow : OpenClaim := { program := "ytbmnnpjfapofaaa", sum := "08049f5f4d44c110496251fd020087eaaac0ac341140b61e3ae67d05a1abcb10", func := "loop.example/g01303/laws.FnExactMatchingNumbers", spec := "fnExactMatchingNumbers", unfollowed := true, recurses := true, leaving := true, apart := false, narrowed := true }
def FnExactMatchingNumbersUptoSaid : Prop := fnExactMatchingNumbersUptoRow.holds Try.pinned (OpenSpec.upto fnExactMatchingNumbersSpec)

/-- 'laws.FnExactCountColourings', WHERE WHAT IT READS IS OF BULK AT MOST 1048576: true; the input reads as it did. -/
def fnExactCountColouringsUptoRow : OpenClaim := { program := "ytbmnnpjfapofaaa", sum := "08049f5f4d44c110496251fd020087eaaac0ac341140b61e3ae67d05a1abcb10", func := "loop.example/g01303/laws.FnExactCountColourings", spec := "fnExactCountColourings", unfollowed := true, recurses := true, leaving := true, apart := false, narrowed := true }
def FnExactCountColouringsUptoSaid : Prop := fnExactCountColouringsUptoRow.holds Try.pinned (OpenSpec.upto fnExactCountColouringsSpec)

/-- 'laws.FnExactColouringPolynomial', WHERE WHAT IT READS IS OF BULK AT MOST 1048576: true; the input reads as it did. -/
def fnExactColouringPolynomialUptoRow : OpenClaim := { program := "ytbmnnpjfapofaaa", sum := "08049f5f4d44c110496251fd020087eaaac0ac341140b61e3ae67d05a1abcb10", func := "loop.example/g01303/laws.FnExactColouringPolynomial", spec := "fnExactColouringPolynomial", unfollowed := true, recurses := true, leaving := true, apart := false, narrowed := true }
def FnExactColouringPolynomialUptoSaid : Prop := fnExactColouringPolynomialUptoRow.holds Try.pinned (OpenSpec.upto fnExactColouringPolynomialSpec)

/-- 'laws.FnExactLeastColours', WHERE WHAT IT READS IS OF BULK AT MOST 1048576: true; the input reads as it did. -/
def fnExactLeastColoursUptoRow : OpenClaim := { program := "ytbmnnpjfapofaaa", sum := "08049f5f4d44c110496251fd020087eaaac0ac341140b61e3ae67d05a1abcb10", func := "loop.example/g01303/laws.FnExactLeastColours", spec := "fnExactLeastColours", unfollowed := true, recurses := true, leaving := true, apart := false, narrowed := true }
def FnExactLeastColoursUptoSaid : Prop := fnExactLeastColoursUptoRow.holds Try.pinned (OpenSpec.upto fnExactLeastColoursSpec)

/-- 'laws.FnExactAreAlikeGraphs', WHERE WHAT IT READS IS OF BULK AT MOST 1048576: true; the input reads as it did. -/
def fnExactAreAlikeGraphsUptoRow : OpenClaim := { program := "ytbmnnpjfapofaaa", sum := "08049f5f4d44c110496251fd020087eaaac0ac341140b61e3ae67d05a1abcb10", func := "loop.example/g01303/laws.FnExactAreAlikeGraphs", spec := "fnExactAreAlikeGraphs", unfollowed := true, recurses := true, leaving := true, apart := false, narrowed := true }
def FnExactAreAlikeGraphsUptoSaid : Prop := fnExactAreAlikeGraphsUptoRow.holds Try.pinned (OpenSpec.upto fnExactAreAlikeGraphsSpec)

/-- 'laws.FnExactCrossingCode', WHERE WHAT IT READS IS OF BULK AT MOST 1048576: true; the input reads as it did. -/
def fnExactCrossingCodeUptoRow : OpenClaim := { program := "ytbmnnpjfapofaaa", sum := "08049f5f4d44c110496251fd020087eaaac0ac341140b61e3ae67d05a1abcb10", func := "loop.example/g01303/laws.FnExactCrossingCode", spec := "fnExactCrossingCode", unfollowed := true, recurses := true, leaving := true, apart := false, narrowed := true }
def FnExactCrossingCodeUptoSaid : Prop := fnExactCrossingCodeUptoRow.holds Try.pinned (OpenSpec.upto fnExactCrossingCodeSpec)

end Rows
end Go.Proofs.Ytbmnnpjfapofaaa
