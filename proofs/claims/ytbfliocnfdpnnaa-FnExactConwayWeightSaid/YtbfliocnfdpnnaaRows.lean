/-
  No cell of these rows narrows 'for every input' (looked for: loops, veiled, ifaces, maps, wideKeys, modest, calm, conditions, laid).
  DERIVED. THE GIVEN ROWS OF THIS SEAT. 12 by the template 'for every input the law returns true; each argument reads behind the call as it read before'; 0 by the template 'total and deterministic' (their statements: YtbfliocnfdpnnaaTotals.lean).
  GIVEN WITH THE SEED: the statements are not yours to turn. If you find one false, say at which input.
  Laid BY PROGRAM, IN A SANDBOX (cutbox-rows.mjs): the forced cells as the released guide's own fill.sh prints them over the translation b1dce60ca6012214… (all of the seat's roots in one cut). By AI agents, Wed Nov 11 2026. No macro, syntax, notation, axiom, sorry.
-/
import Derived.Test.YtbfliocnfdpnnaaChecked
import GoSem.Claim
import GoSem.ClaimJoined
import GoSem.ClaimMapViews
import Derived.JoinedTies
import Derived.KernelRfl
namespace Go.Proofs.Ytbfliocnfdpnnaa
/- THE CELL 'sum', in the pinned program and in every row, IS THE sha256 OF THE DUMP (.gsa) THAT YtbfliocnfdpnnaaProg.lean LOADS. Nothing in Lean hashes anything: it is a label: what it is worth is what the hold of that sum in a sandbox is worth. -/
noncomputable def Try.pinned : Pinned := { name := "ytbfliocnfdpnnaa", sum := "b1dce60ca6012214d8b904fc62181db645bd7030d4eb04ef5a656568a97e7073", checked := Try.checked }
namespace Rows
def none {H : Type} : Left H := { results := [], args := [] }

/-- 'laws.FnExactAddSums': WHATEVER THE INPUT: true; the input reads as it did. -/
def fnExactAddSumsSpec : ChangeSpec := { name := "fnExactAddSums", fn := fun _ => fun
  | [d1, d2, d3] => { results := [.lit (.bool true)], args := [d1, d2, d3] }
  | _ => none }
def fnExactAddSumsRow : OpenClaim := { program := "ytbfliocnfdpnnaa", sum := "b1dce60ca6012214d8b904fc62181db645bd7030d4eb04ef5a656568a97e7073", func := "loop.example/g01303/laws.FnExactAddSums", spec := "fnExactAddSums", unfollowed := true, recurses := true, plainKeys := false, apart := false }
def FnExactAddSumsSaid : Prop := fnExactAddSumsRow.holds Try.pinned (OpenSpec.ofChange fnExactAddSumsSpec)

/-- ITS FALSE NEIGHBOUR: 'it returns false'. Refute it at one input. -/
def fnExactAddSumsWrong : ChangeSpec := { name := "fnExactAddSums", fn := fun _ => fun
  | [d1, d2, d3] => { results := [.lit (.bool false)], args := [d1, d2, d3] }
  | _ => none }
def FnExactAddSumsWrongFalsely : Prop := fnExactAddSumsRow.holds Try.pinned (OpenSpec.ofChange fnExactAddSumsWrong)

/-- 'laws.FnExactJoinSums': WHATEVER THE INPUT: true; the input reads as it did. -/
def fnExactJoinSumsSpec : ChangeSpec := { name := "fnExactJoinSums", fn := fun _ => fun
  | [d1, d2] => { results := [.lit (.bool true)], args := [d1, d2] }
  | _ => none }
def fnExactJoinSumsRow : OpenClaim := { program := "ytbfliocnfdpnnaa", sum := "b1dce60ca6012214d8b904fc62181db645bd7030d4eb04ef5a656568a97e7073", func := "loop.example/g01303/laws.FnExactJoinSums", spec := "fnExactJoinSums", unfollowed := true, recurses := true, plainKeys := false, apart := false }
def FnExactJoinSumsSaid : Prop := fnExactJoinSumsRow.holds Try.pinned (OpenSpec.ofChange fnExactJoinSumsSpec)

/-- ITS FALSE NEIGHBOUR: 'it returns false'. Refute it at one input. -/
def fnExactJoinSumsWrong : ChangeSpec := { name := "fnExactJoinSums", fn := fun _ => fun
  | [d1, d2] => { results := [.lit (.bool false)], args := [d1, d2] }
  | _ => none }
def FnExactJoinSumsWrongFalsely : Prop := fnExactJoinSumsRow.holds Try.pinned (OpenSpec.ofChange fnExactJoinSumsWrong)

/-- 'laws.FnExactCoproductOf': WHATEVER THE INPUT: true; the input reads as it did. -/
def fnExactCoproductOfSpec : ChangeSpec := { name := "fnExactCoproductOf", fn := fun _ => fun
  | [d] => { results := [.lit (.bool true)], args := [d] }
  | _ => none }
def fnExactCoproductOfRow : OpenClaim := { program := "ytbfliocnfdpnnaa", sum := "b1dce60ca6012214d8b904fc62181db645bd7030d4eb04ef5a656568a97e7073", func := "loop.example/g01303/laws.FnExactCoproductOf", spec := "fnExactCoproductOf", unfollowed := true, recurses := true, plainKeys := false, apart := false }
def FnExactCoproductOfSaid : Prop := fnExactCoproductOfRow.holds Try.pinned (OpenSpec.ofChange fnExactCoproductOfSpec)

/-- ITS FALSE NEIGHBOUR: 'it returns false'. Refute it at one input. -/
def fnExactCoproductOfWrong : ChangeSpec := { name := "fnExactCoproductOf", fn := fun _ => fun
  | [d] => { results := [.lit (.bool false)], args := [d] }
  | _ => none }
def FnExactCoproductOfWrongFalsely : Prop := fnExactCoproductOfRow.holds Try.pinned (OpenSpec.ofChange fnExactCoproductOfWrong)

/-- 'laws.FnExactFourTermSum': WHATEVER THE INPUT: true; the input reads as it did. -/
def fnExactFourTermSumSpec : ChangeSpec := { name := "fnExactFourTermSum", fn := fun _ => fun
  | [d1, d2, d3, d4] => { results := [.lit (.bool true)], args := [d1, d2, d3, d4] }
  | _ => none }
def fnExactFourTermSumRow : OpenClaim := { program := "ytbfliocnfdpnnaa", sum := "b1dce60ca6012214d8b904fc62181db645bd7030d4eb04ef5a656568a97e7073", func := "loop.example/g01303/laws.FnExactFourTermSum", spec := "fnExactFourTermSum", unfollowed := true, recurses := true, plainKeys := false, apart := false }
def FnExactFourTermSumSaid : Prop := fnExactFourTermSumRow.holds Try.pinned (OpenSpec.ofChange fnExactFourTermSumSpec)

/-- ITS FALSE NEIGHBOUR: 'it returns false'. Refute it at one input. -/
def fnExactFourTermSumWrong : ChangeSpec := { name := "fnExactFourTermSum", fn := fun _ => fun
  | [d1, d2, d3, d4] => { results := [.lit (.bool false)], args := [d1, d2, d3, d4] }
  | _ => none }
def FnExactFourTermSumWrongFalsely : Prop := fnExactFourTermSumRow.holds Try.pinned (OpenSpec.ofChange fnExactFourTermSumWrong)

/-- 'laws.FnExactWordOfChords': WHATEVER THE INPUT: true; the input reads as it did. -/
def fnExactWordOfChordsSpec : ChangeSpec := { name := "fnExactWordOfChords", fn := fun _ => fun
  | [d1, d2] => { results := [.lit (.bool true)], args := [d1, d2] }
  | _ => none }
def fnExactWordOfChordsRow : OpenClaim := { program := "ytbfliocnfdpnnaa", sum := "b1dce60ca6012214d8b904fc62181db645bd7030d4eb04ef5a656568a97e7073", func := "loop.example/g01303/laws.FnExactWordOfChords", spec := "fnExactWordOfChords", unfollowed := true, recurses := true, plainKeys := false, apart := false }
def FnExactWordOfChordsSaid : Prop := fnExactWordOfChordsRow.holds Try.pinned (OpenSpec.ofChange fnExactWordOfChordsSpec)

/-- ITS FALSE NEIGHBOUR: 'it returns false'. Refute it at one input. -/
def fnExactWordOfChordsWrong : ChangeSpec := { name := "fnExactWordOfChords", fn := fun _ => fun
  | [d1, d2] => { results := [.lit (.bool false)], args := [d1, d2] }
  | _ => none }
def FnExactWordOfChordsWrongFalsely : Prop := fnExactWordOfChordsRow.holds Try.pinned (OpenSpec.ofChange fnExactWordOfChordsWrong)

/-- 'laws.FnChords': WHATEVER THE INPUT: true; the input reads as it did. -/
def fnChordsSpec : ChangeSpec := { name := "fnChords", fn := fun _ => fun
  | [d] => { results := [.lit (.bool true)], args := [d] }
  | _ => none }
def fnChordsRow : OpenClaim := { program := "ytbfliocnfdpnnaa", sum := "b1dce60ca6012214d8b904fc62181db645bd7030d4eb04ef5a656568a97e7073", func := "loop.example/g01303/laws.FnChords", spec := "fnChords", unfollowed := true, recurses := true, plainKeys := false, apart := false }
def FnChordsSaid : Prop := fnChordsRow.holds Try.pinned (OpenSpec.ofChange fnChordsSpec)

/-- ITS FALSE NEIGHBOUR: 'it returns false'. Refute it at one input. -/
def fnChordsWrong : ChangeSpec := { name := "fnChords", fn := fun _ => fun
  | [d] => { results := [.lit (.bool false)], args := [d] }
  | _ => none }
def FnChordsWrongFalsely : Prop := fnChordsRow.holds Try.pinned (OpenSpec.ofChange fnChordsWrong)

/-- 'laws.FnExactIsPolynomial': WHATEVER THE INPUT: true; the input reads as it did. -/
def fnExactIsPolynomialSpec : ChangeSpec := { name := "fnExactIsPolynomial", fn := fun _ => fun
  | [d] => { results := [.lit (.bool true)], args := [d] }
  | _ => none }
def fnExactIsPolynomialRow : OpenClaim := { program := "ytbfliocnfdpnnaa", sum := "b1dce60ca6012214d8b904fc62181db645bd7030d4eb04ef5a656568a97e7073", func := "loop.example/g01303/laws.FnExactIsPolynomial", spec := "fnExactIsPolynomial", unfollowed := true, recurses := true, plainKeys := false, apart := false }
def FnExactIsPolynomialSaid : Prop := fnExactIsPolynomialRow.holds Try.pinned (OpenSpec.ofChange fnExactIsPolynomialSpec)

/-- ITS FALSE NEIGHBOUR: 'it returns false'. Refute it at one input. -/
def fnExactIsPolynomialWrong : ChangeSpec := { name := "fnExactIsPolynomial", fn := fun _ => fun
  | [d] => { results := [.lit (.bool false)], args := [d] }
  | _ => none }
def FnExactIsPolynomialWrongFalsely : Prop := fnExactIsPolynomialRow.holds Try.pinned (OpenSpec.ofChange fnExactIsPolynomialWrong)

/-- 'laws.FnExactAddPolynomials': WHATEVER THE INPUT: true; the input reads as it did. -/
def fnExactAddPolynomialsSpec : ChangeSpec := { name := "fnExactAddPolynomials", fn := fun _ => fun
  | [d1, d2, d3] => { results := [.lit (.bool true)], args := [d1, d2, d3] }
  | _ => none }
def fnExactAddPolynomialsRow : OpenClaim := { program := "ytbfliocnfdpnnaa", sum := "b1dce60ca6012214d8b904fc62181db645bd7030d4eb04ef5a656568a97e7073", func := "loop.example/g01303/laws.FnExactAddPolynomials", spec := "fnExactAddPolynomials", unfollowed := true, recurses := true, plainKeys := false, apart := false }
def FnExactAddPolynomialsSaid : Prop := fnExactAddPolynomialsRow.holds Try.pinned (OpenSpec.ofChange fnExactAddPolynomialsSpec)

/-- ITS FALSE NEIGHBOUR: 'it returns false'. Refute it at one input. -/
def fnExactAddPolynomialsWrong : ChangeSpec := { name := "fnExactAddPolynomials", fn := fun _ => fun
  | [d1, d2, d3] => { results := [.lit (.bool false)], args := [d1, d2, d3] }
  | _ => none }
def FnExactAddPolynomialsWrongFalsely : Prop := fnExactAddPolynomialsRow.holds Try.pinned (OpenSpec.ofChange fnExactAddPolynomialsWrong)

/-- 'laws.FnExactMultiplyPolynomials': WHATEVER THE INPUT: true; the input reads as it did. -/
def fnExactMultiplyPolynomialsSpec : ChangeSpec := { name := "fnExactMultiplyPolynomials", fn := fun _ => fun
  | [d1, d2] => { results := [.lit (.bool true)], args := [d1, d2] }
  | _ => none }
def fnExactMultiplyPolynomialsRow : OpenClaim := { program := "ytbfliocnfdpnnaa", sum := "b1dce60ca6012214d8b904fc62181db645bd7030d4eb04ef5a656568a97e7073", func := "loop.example/g01303/laws.FnExactMultiplyPolynomials", spec := "fnExactMultiplyPolynomials", unfollowed := true, recurses := true, plainKeys := false, apart := false }
def FnExactMultiplyPolynomialsSaid : Prop := fnExactMultiplyPolynomialsRow.holds Try.pinned (OpenSpec.ofChange fnExactMultiplyPolynomialsSpec)

/-- ITS FALSE NEIGHBOUR: 'it returns false'. Refute it at one input. -/
def fnExactMultiplyPolynomialsWrong : ChangeSpec := { name := "fnExactMultiplyPolynomials", fn := fun _ => fun
  | [d1, d2] => { results := [.lit (.bool false)], args := [d1, d2] }
  | _ => none }
def FnExactMultiplyPolynomialsWrongFalsely : Prop := fnExactMultiplyPolynomialsRow.holds Try.pinned (OpenSpec.ofChange fnExactMultiplyPolynomialsWrong)

/-- 'laws.FnExactValueOfPolynomial': WHATEVER THE INPUT: true; the input reads as it did. -/
def fnExactValueOfPolynomialSpec : ChangeSpec := { name := "fnExactValueOfPolynomial", fn := fun _ => fun
  | [d1, d2, d3] => { results := [.lit (.bool true)], args := [d1, d2, d3] }
  | _ => none }
def fnExactValueOfPolynomialRow : OpenClaim := { program := "ytbfliocnfdpnnaa", sum := "b1dce60ca6012214d8b904fc62181db645bd7030d4eb04ef5a656568a97e7073", func := "loop.example/g01303/laws.FnExactValueOfPolynomial", spec := "fnExactValueOfPolynomial", unfollowed := true, recurses := true, plainKeys := false, apart := false }
def FnExactValueOfPolynomialSaid : Prop := fnExactValueOfPolynomialRow.holds Try.pinned (OpenSpec.ofChange fnExactValueOfPolynomialSpec)

/-- ITS FALSE NEIGHBOUR: 'it returns false'. Refute it at one input. -/
def fnExactValueOfPolynomialWrong : ChangeSpec := { name := "fnExactValueOfPolynomial", fn := fun _ => fun
  | [d1, d2, d3] => { results := [.lit (.bool false)], args := [d1, d2, d3] }
  | _ => none }
def FnExactValueOfPolynomialWrongFalsely : Prop := fnExactValueOfPolynomialRow.holds Try.pinned (OpenSpec.ofChange fnExactValueOfPolynomialWrong)

/-- 'laws.FnExactCirclesOf': WHATEVER THE INPUT: true; the input reads as it did. -/
def fnExactCirclesOfSpec : ChangeSpec := { name := "fnExactCirclesOf", fn := fun _ => fun
  | [d1, d2] => { results := [.lit (.bool true)], args := [d1, d2] }
  | _ => none }
def fnExactCirclesOfRow : OpenClaim := { program := "ytbfliocnfdpnnaa", sum := "b1dce60ca6012214d8b904fc62181db645bd7030d4eb04ef5a656568a97e7073", func := "loop.example/g01303/laws.FnExactCirclesOf", spec := "fnExactCirclesOf", plainKeys := false, apart := false }
def FnExactCirclesOfSaid : Prop := fnExactCirclesOfRow.holds Try.pinned (OpenSpec.ofChange fnExactCirclesOfSpec)

/-- ITS FALSE NEIGHBOUR: 'it returns false'. Refute it at one input. -/
def fnExactCirclesOfWrong : ChangeSpec := { name := "fnExactCirclesOf", fn := fun _ => fun
  | [d1, d2] => { results := [.lit (.bool false)], args := [d1, d2] }
  | _ => none }
def FnExactCirclesOfWrongFalsely : Prop := fnExactCirclesOfRow.holds Try.pinned (OpenSpec.ofChange fnExactCirclesOfWrong)

/-- 'laws.FnExactConwayWeight': WHATEVER THE INPUT: true; the input reads as it did. -/
def fnExactConwayWeightSpec : ChangeSpec := { name := "fnExactConwayWeight", fn := fun _ => fun
  | [d] => { results := [.lit (.bool true)], args := [d] }
  | _ => none }
def fnExactConwayWeightRow : OpenClaim := { program := "ytbfliocnfdpnnaa", sum := "b1dce60ca6012214d8b904fc62181db645bd7030d4eb04ef5a656568a97e7073", func := "loop.example/g01303/laws.FnExactConwayWeight", spec := "fnExactConwayWeight", plainKeys := false, apart := false }
def FnExactConwayWeightSaid : Prop := fnExactConwayWeightRow.holds Try.pinned (OpenSpec.ofChange fnExactConwayWeightSpec)

/-- ITS FALSE NEIGHBOUR: 'it returns false'. Refute it at one input. -/
def fnExactConwayWeightWrong : ChangeSpec := { name := "fnExactConwayWeight", fn := fun _ => fun
  | [d] => { results := [.lit (.bool false)], args := [d] }
  | _ => none }
def FnExactConwayWeightWrongFalsely : Prop := fnExactConwayWeightRow.holds Try.pinned (OpenSpec.ofChange fnExactConwayWeightWrong)

/- THE SECOND FORM. 'bulk': how many values and letters a reading holds, each counted each time it is reached (what is shared counts as often as it is met; a slice's spare places count too). A statement '..UptoSaid' is the law's where the arguments, and the package variables that the reading takes, are together of bulk at most 1048576: NARROWER than '..Said'. Prove '..Said' where nothing that the law and all that it calls make is longer than what came in: it says more and counts as full. Else prove '..UptoSaid'. A law counts once. -/
mutual
def uptoBulk {H : Type} : DataW H → Nat
  | .lit (.string bytes) => bytes.length + 1
  | .lit _ => 1
  | .nil => 1
  | .ptr d => uptoBulk d + 1
  | .slice elems spare => uptoBulkAll elems + uptoBulkAll spare + 1
  | .agg parts => uptoBulkAll parts + 1
  | .iface _ d => uptoBulk d + 1
  | .map entries => uptoBulkEntries entries + 1
  | .held _ => 1
def uptoBulkAll {H : Type} : List (DataW H) → Nat
  | [] => 0
  | d :: r => uptoBulk d + uptoBulkAll r
def uptoBulkEntries {H : Type} : List (Lit × DataW H) → Nat
  | [] => 0
  | x :: r => uptoBulkEntry x + uptoBulkEntries r
def uptoBulkEntry {H : Type} : Lit × DataW H → Nat
  | (.string bytes, d) => bytes.length + uptoBulk d + 1
  | (_, d) => uptoBulk d + 1
 end
def uptoSmall : (H : Type) → List (DataW H) → Bool := fun _ ds => decide (uptoBulkAll ds ≤ 1048576)
def OpenSpec.upto (s : _root_.Go.ChangeSpec) : _root_.Go.OpenSpec := { _root_.Go.OpenSpec.ofChange s with cond := some uptoSmall }

/-- 'laws.FnExactAddSums', WHERE WHAT IT READS IS OF BULK AT MOST 1048576: true; the input reads as it did. -/
def fnExactAddSumsUptoRow : OpenClaim := { program := "ytbfliocnfdpnnaa", sum := "b1dce60ca6012214d8b904fc62181db645bd7030d4eb04ef5a656568a97e7073", func := "loop.example/g01303/laws.FnExactAddSums", spec := "fnExactAddSums", unfollowed := true, recurses := true, plainKeys := false, apart := false, narrowed := true }
def FnExactAddSumsUptoSaid : Prop := fnExactAddSumsUptoRow.holds Try.pinned (OpenSpec.upto fnExactAddSumsSpec)

/-- 'laws.FnExactJoinSums', WHERE WHAT IT READS IS OF BULK AT MOST 1048576: true; the input reads as it did. -/
def fnExactJoinSumsUptoRow : OpenClaim := { program := "ytbfliocnfdpnnaa", sum := "b1dce60ca6012214d8b904fc62181db645bd7030d4eb04ef5a656568a97e7073", func := "loop.example/g01303/laws.FnExactJoinSums", spec := "fnExactJoinSums", unfollowed := true, recurses := true, plainKeys := false, apart := false, narrowed := true }
def FnExactJoinSumsUptoSaid : Prop := fnExactJoinSumsUptoRow.holds Try.pinned (OpenSpec.upto fnExactJoinSumsSpec)

/-- 'laws.FnExactCoproductOf', WHERE WHAT IT READS IS OF BULK AT MOST 1048576: true; the input reads as it did. -/
def fnExactCoproductOfUptoRow : OpenClaim := { program := "ytbfliocnfdpnnaa", sum := "b1dce60ca6012214d8b904fc62181db645bd7030d4eb04ef5a656568a97e7073", func := "loop.example/g01303/laws.FnExactCoproductOf", spec := "fnExactCoproductOf", unfollowed := true, recurses := true, plainKeys := false, apart := false, narrowed := true }
def FnExactCoproductOfUptoSaid : Prop := fnExactCoproductOfUptoRow.holds Try.pinned (OpenSpec.upto fnExactCoproductOfSpec)

/-- 'laws.FnExactFourTermSum', WHERE WHAT IT READS IS OF BULK AT MOST 1048576: true; the input reads as it did. -/
def fnExactFourTermSumUptoRow : OpenClaim := { program := "ytbfliocnfdpnnaa", sum := "b1dce60ca6012214d8b904fc62181db645bd7030d4eb04ef5a656568a97e7073", func := "loop.example/g01303/laws.FnExactFourTermSum", spec := "fnExactFourTermSum", unfollowed := true, recurses := true, plainKeys := false, apart := false, narrowed := true }
def FnExactFourTermSumUptoSaid : Prop := fnExactFourTermSumUptoRow.holds Try.pinned (OpenSpec.upto fnExactFourTermSumSpec)

/-- 'laws.FnExactWordOfChords', WHERE WHAT IT READS IS OF BULK AT MOST 1048576: true; the input reads as it did. -/
def fnExactWordOfChordsUptoRow : OpenClaim := { program := "ytbfliocnfdpnnaa", sum := "b1dce60ca6012214d8b904fc62181db645bd7030d4eb04ef5a656568a97e7073", func := "loop.example/g01303/laws.FnExactWordOfChords", spec := "fnExactWordOfChords", unfollowed := true, recurses := true, plainKeys := false, apart := false, narrowed := true }
def FnExactWordOfChordsUptoSaid : Prop := fnExactWordOfChordsUptoRow.holds Try.pinned (OpenSpec.upto fnExactWordOfChordsSpec)

/-- 'laws.FnChords', WHERE WHAT IT READS IS OF BULK AT MOST 1048576: true; the input reads as it did. -/
def fnChordsUptoRow : OpenClaim := { program := "ytbfliocnfdpnnaa", sum := "b1dce60ca6012214d8b904fc62181db645bd7030d4eb04ef5a656568a97e7073", func := "loop.example/g01303/laws.FnChords", spec := "fnChords", unfollowed := true, recurses := true, plainKeys := false, apart := false, narrowed := true }
def FnChordsUptoSaid : Prop := fnChordsUptoRow.holds Try.pinned (OpenSpec.upto fnChordsSpec)

/-- 'laws.FnExactIsPolynomial', WHERE WHAT IT READS IS OF BULK AT MOST 1048576: true; the input reads as it did. -/
def fnExactIsPolynomialUptoRow : OpenClaim := { program := "ytbfliocnfdpnnaa", sum := "b1dce60ca6012214d8b904fc62181db645bd7030d4eb04ef5a656568a97e7073", func := "loop.example/g01303/laws.FnExactIsPolynomial", spec := "fnExactIsPolynomial", unfollowed := true, recurses := true, plainKeys := false, apart := false, narrowed := true }
def FnExactIsPolynomialUptoSaid : Prop := fnExactIsPolynomialUptoRow.holds Try.pinned (OpenSpec.upto fnExactIsPolynomialSpec)

/-- 'laws.FnExactAddPolynomials', WHERE WHAT IT READS IS OF BULK AT MOST 1048576: true; the input reads as it did. -/
def fnExactAddPolynomialsUptoRow : OpenClaim := { program := "ytbfliocnfdpnnaa", sum := "b1dce60ca6012214d8b904fc62181db645bd7030d4eb04ef5a656568a97e7073", func := "loop.example/g01303/laws.FnExactAddPolynomials", spec := "fnExactAddPolynomials", unfollowed := true, recurses := true, plainKeys := false, apart := false, narrowed := true }
def FnExactAddPolynomialsUptoSaid : Prop := fnExactAddPolynomialsUptoRow.holds Try.pinned (OpenSpec.upto fnExactAddPolynomialsSpec)

/-- 'laws.FnExactMultiplyPolynomials', WHERE WHAT IT READS IS OF BULK AT MOST 1048576: true; the input reads as it did. -/
def fnExactMultiplyPolynomialsUptoRow : OpenClaim := { program := "ytbfliocnfdpnnaa", sum := "b1dce60ca6012214d8b904fc62181db645bd7030d4eb04ef5a656568a97e7073", func := "loop.example/g01303/laws.FnExactMultiplyPolynomials", spec := "fnExactMultiplyPolynomials", unfollowed := true, recurses := true, plainKeys := false, apart := false, narrowed := true }
def FnExactMultiplyPolynomialsUptoSaid : Prop := fnExactMultiplyPolynomialsUptoRow.holds Try.pinned (OpenSpec.upto fnExactMultiplyPolynomialsSpec)

/-- 'laws.FnExactValueOfPolynomial', WHERE WHAT IT READS IS OF BULK AT MOST 1048576: true; the input reads as it did. -/
def fnExactValueOfPolynomialUptoRow : OpenClaim := { program := "ytbfliocnfdpnnaa", sum := "b1dce60ca6012214d8b904fc62181db645bd7030d4eb04ef5a656568a97e7073", func := "loop.example/g01303/laws.FnExactValueOfPolynomial", spec := "fnExactValueOfPolynomial", unfollowed := true, recurses := true, plainKeys := false, apart := false, narrowed := true }
def FnExactValueOfPolynomialUptoSaid : Prop := fnExactValueOfPolynomialUptoRow.holds Try.pinned (OpenSpec.upto fnExactValueOfPolynomialSpec)

/-- 'laws.FnExactCirclesOf', WHERE WHAT IT READS IS OF BULK AT MOST 1048576: true; the input reads as it did. -/
def fnExactCirclesOfUptoRow : OpenClaim := { program := "ytbfliocnfdpnnaa", sum := "b1dce60ca6012214d8b904fc62181db645bd7030d4eb04ef5a656568a97e7073", func := "loop.example/g01303/laws.FnExactCirclesOf", spec := "fnExactCirclesOf", plainKeys := false, apart := false, narrowed := true }
def FnExactCirclesOfUptoSaid : Prop := fnExactCirclesOfUptoRow.holds Try.pinned (OpenSpec.upto fnExactCirclesOfSpec)

/-- 'laws.FnExactConwayWeight', WHERE WHAT IT READS IS OF BULK AT MOST 1048576: true; the input reads as it did. -/
def fnExactConwayWeightUptoRow : OpenClaim := { program := "ytbfliocnfdpnnaa", sum := "b1dce60ca6012214d8b904fc62181db645bd7030d4eb04ef5a656568a97e7073", func := "loop.example/g01303/laws.FnExactConwayWeight", spec := "fnExactConwayWeight", plainKeys := false, apart := false, narrowed := true }
def FnExactConwayWeightUptoSaid : Prop := fnExactConwayWeightUptoRow.holds Try.pinned (OpenSpec.upto fnExactConwayWeightSpec)

end Rows
end Go.Proofs.Ytbfliocnfdpnnaa
