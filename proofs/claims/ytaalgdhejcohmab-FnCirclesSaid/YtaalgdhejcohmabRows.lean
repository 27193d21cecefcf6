/-
  No cell of these rows narrows 'for every input' (looked for: loops, veiled, ifaces, maps, wideKeys, modest, calm, conditions, laid).
  DERIVED. THE GIVEN ROWS OF THIS SEAT. 11 by the template 'for every input the law returns true; each argument reads behind the call as it read before'; 0 by the template 'total and deterministic' (their statements: YtaalgdhejcohmabTotals.lean).
  GIVEN WITH THE SEED: the statements are not yours to turn. If you find one false, say at which input.
  Laid BY PROGRAM, IN A SANDBOX (cutbox-rows.mjs): the forced cells as the released guide's own fill.sh prints them over the translation 281a0854cc9fddb4… (all of the seat's roots in one cut). By AI agents, Wed Nov 11 2026. No macro, syntax, notation, axiom, sorry.
-/
import Derived.Test.YtaalgdhejcohmabChecked
import GoSem.Claim
import GoSem.ClaimJoined
import GoSem.ClaimMapViews
import Derived.JoinedTies
import Derived.KernelRfl
namespace Go.Proofs.Ytaalgdhejcohmab
/- THE CELL 'sum', in the pinned program and in every row, IS THE sha256 OF THE DUMP (.gsa) THAT YtaalgdhejcohmabProg.lean LOADS. Nothing in Lean hashes anything: it is a label: what it is worth is what the hold of that sum in a sandbox is worth. -/
noncomputable def Try.pinned : Pinned := { name := "ytaalgdhejcohmab", sum := "281a0854cc9fddb414f5df9cd67cb50adbd0102292fc3a8f4293c8a295ef7227", checked := Try.checked }
namespace Rows
def none {H : Type} : Left H := { results := [], args := [] }

/-- 'laws.FnWords': WHATEVER THE INPUT: true; the input reads as it did. -/
def fnWordsSpec : ChangeSpec := { name := "fnWords", fn := fun _ => fun
  | [d] => { results := [.lit (.bool true)], args := [d] }
  | _ => none }
def fnWordsRow : OpenClaim := { program := "ytaalgdhejcohmab", sum := "281a0854cc9fddb414f5df9cd67cb50adbd0102292fc3a8f4293c8a295ef7227", func := "loop.example/g01303/laws.FnWords", spec := "fnWords", unfollowed := true, recurses := true, plainKeys := false, apart := false }
def FnWordsSaid : Prop := fnWordsRow.holds Try.pinned (OpenSpec.ofChange fnWordsSpec)

/-- ITS FALSE NEIGHBOUR: 'it returns false'. Refute it at one input. -/
def fnWordsWrong : ChangeSpec := { name := "fnWords", fn := fun _ => fun
  | [d] => { results := [.lit (.bool false)], args := [d] }
  | _ => none }
def FnWordsWrongFalsely : Prop := fnWordsRow.holds Try.pinned (OpenSpec.ofChange fnWordsWrong)

/-- 'laws.FnLists': WHATEVER THE INPUT: true; the input reads as it did. -/
def fnListsSpec : ChangeSpec := { name := "fnLists", fn := fun _ => fun
  | [d] => { results := [.lit (.bool true)], args := [d] }
  | _ => none }
def fnListsRow : OpenClaim := { program := "ytaalgdhejcohmab", sum := "281a0854cc9fddb414f5df9cd67cb50adbd0102292fc3a8f4293c8a295ef7227", func := "loop.example/g01303/laws.FnLists", spec := "fnLists", unfollowed := true, recurses := true, plainKeys := false, apart := false }
def FnListsSaid : Prop := fnListsRow.holds Try.pinned (OpenSpec.ofChange fnListsSpec)

/-- ITS FALSE NEIGHBOUR: 'it returns false'. Refute it at one input. -/
def fnListsWrong : ChangeSpec := { name := "fnLists", fn := fun _ => fun
  | [d] => { results := [.lit (.bool false)], args := [d] }
  | _ => none }
def FnListsWrongFalsely : Prop := fnListsRow.holds Try.pinned (OpenSpec.ofChange fnListsWrong)

/-- 'laws.FnCircles': WHATEVER THE INPUT: true; the input reads as it did. -/
def fnCirclesSpec : ChangeSpec := { name := "fnCircles", fn := fun _ => fun
  | [d] => { results := [.lit (.bool true)], args := [d] }
  | _ => none }
def fnCirclesRow : OpenClaim := { program := "ytaalgdhejcohmab", sum := "281a0854cc9fddb414f5df9cd67cb50adbd0102292fc3a8f4293c8a295ef7227", func := "loop.example/g01303/laws.FnCircles", spec := "fnCircles", unfollowed := true, recurses := true, plainKeys := false, apart := false }
def FnCirclesSaid : Prop := fnCirclesRow.holds Try.pinned (OpenSpec.ofChange fnCirclesSpec)

/-- ITS FALSE NEIGHBOUR: 'it returns false'. Refute it at one input. -/
def fnCirclesWrong : ChangeSpec := { name := "fnCircles", fn := fun _ => fun
  | [d] => { results := [.lit (.bool false)], args := [d] }
  | _ => none }
def FnCirclesWrongFalsely : Prop := fnCirclesRow.holds Try.pinned (OpenSpec.ofChange fnCirclesWrong)

/-- 'laws.FnExactWordsOf': WHATEVER THE INPUT: true; the input reads as it did. -/
def fnExactWordsOfSpec : ChangeSpec := { name := "fnExactWordsOf", fn := fun _ => fun
  | [d] => { results := [.lit (.bool true)], args := [d] }
  | _ => none }
def fnExactWordsOfRow : OpenClaim := { program := "ytaalgdhejcohmab", sum := "281a0854cc9fddb414f5df9cd67cb50adbd0102292fc3a8f4293c8a295ef7227", func := "loop.example/g01303/laws.FnExactWordsOf", spec := "fnExactWordsOf", unfollowed := true, recurses := true, plainKeys := false, apart := false }
def FnExactWordsOfSaid : Prop := fnExactWordsOfRow.holds Try.pinned (OpenSpec.ofChange fnExactWordsOfSpec)

/-- ITS FALSE NEIGHBOUR: 'it returns false'. Refute it at one input. -/
def fnExactWordsOfWrong : ChangeSpec := { name := "fnExactWordsOf", fn := fun _ => fun
  | [d] => { results := [.lit (.bool false)], args := [d] }
  | _ => none }
def FnExactWordsOfWrongFalsely : Prop := fnExactWordsOfRow.holds Try.pinned (OpenSpec.ofChange fnExactWordsOfWrong)

/-- 'laws.FnExactDiagramsOf': WHATEVER THE INPUT: true; the input reads as it did. -/
def fnExactDiagramsOfSpec : ChangeSpec := { name := "fnExactDiagramsOf", fn := fun _ => fun
  | [d] => { results := [.lit (.bool true)], args := [d] }
  | _ => none }
def fnExactDiagramsOfRow : OpenClaim := { program := "ytaalgdhejcohmab", sum := "281a0854cc9fddb414f5df9cd67cb50adbd0102292fc3a8f4293c8a295ef7227", func := "loop.example/g01303/laws.FnExactDiagramsOf", spec := "fnExactDiagramsOf", unfollowed := true, recurses := true, plainKeys := false, apart := false }
def FnExactDiagramsOfSaid : Prop := fnExactDiagramsOfRow.holds Try.pinned (OpenSpec.ofChange fnExactDiagramsOfSpec)

/-- ITS FALSE NEIGHBOUR: 'it returns false'. Refute it at one input. -/
def fnExactDiagramsOfWrong : ChangeSpec := { name := "fnExactDiagramsOf", fn := fun _ => fun
  | [d] => { results := [.lit (.bool false)], args := [d] }
  | _ => none }
def FnExactDiagramsOfWrongFalsely : Prop := fnExactDiagramsOfRow.holds Try.pinned (OpenSpec.ofChange fnExactDiagramsOfWrong)

/-- 'laws.FnExactPlaceInList': WHATEVER THE INPUT: true; the input reads as it did. -/
def fnExactPlaceInListSpec : ChangeSpec := { name := "fnExactPlaceInList", fn := fun _ => fun
  | [d] => { results := [.lit (.bool true)], args := [d] }
  | _ => none }
def fnExactPlaceInListRow : OpenClaim := { program := "ytaalgdhejcohmab", sum := "281a0854cc9fddb414f5df9cd67cb50adbd0102292fc3a8f4293c8a295ef7227", func := "loop.example/g01303/laws.FnExactPlaceInList", spec := "fnExactPlaceInList", unfollowed := true, recurses := true, plainKeys := false, apart := false }
def FnExactPlaceInListSaid : Prop := fnExactPlaceInListRow.holds Try.pinned (OpenSpec.ofChange fnExactPlaceInListSpec)

/-- ITS FALSE NEIGHBOUR: 'it returns false'. Refute it at one input. -/
def fnExactPlaceInListWrong : ChangeSpec := { name := "fnExactPlaceInList", fn := fun _ => fun
  | [d] => { results := [.lit (.bool false)], args := [d] }
  | _ => none }
def FnExactPlaceInListWrongFalsely : Prop := fnExactPlaceInListRow.holds Try.pinned (OpenSpec.ofChange fnExactPlaceInListWrong)

/-- 'laws.FnExactAddChord': WHATEVER THE INPUT: true; the input reads as it did. -/
def fnExactAddChordSpec : ChangeSpec := { name := "fnExactAddChord", fn := fun _ => fun
  | [d1, d2, d3] => { results := [.lit (.bool true)], args := [d1, d2, d3] }
  | _ => none }
def fnExactAddChordRow : OpenClaim := { program := "ytaalgdhejcohmab", sum := "281a0854cc9fddb414f5df9cd67cb50adbd0102292fc3a8f4293c8a295ef7227", func := "loop.example/g01303/laws.FnExactAddChord", spec := "fnExactAddChord", plainKeys := false, apart := false }
def FnExactAddChordSaid : Prop := fnExactAddChordRow.holds Try.pinned (OpenSpec.ofChange fnExactAddChordSpec)

/-- ITS FALSE NEIGHBOUR: 'it returns false'. Refute it at one input. -/
def fnExactAddChordWrong : ChangeSpec := { name := "fnExactAddChord", fn := fun _ => fun
  | [d1, d2, d3] => { results := [.lit (.bool false)], args := [d1, d2, d3] }
  | _ => none }
def FnExactAddChordWrongFalsely : Prop := fnExactAddChordRow.holds Try.pinned (OpenSpec.ofChange fnExactAddChordWrong)

/-- 'laws.FnChords': WHATEVER THE INPUT: true; the input reads as it did. -/
def fnChordsSpec : ChangeSpec := { name := "fnChords", fn := fun _ => fun
  | [d] => { results := [.lit (.bool true)], args := [d] }
  | _ => none }
def fnChordsRow : OpenClaim := { program := "ytaalgdhejcohmab", sum := "281a0854cc9fddb414f5df9cd67cb50adbd0102292fc3a8f4293c8a295ef7227", func := "loop.example/g01303/laws.FnChords", spec := "fnChords", unfollowed := true, recurses := true, plainKeys := false, apart := false }
def FnChordsSaid : Prop := fnChordsRow.holds Try.pinned (OpenSpec.ofChange fnChordsSpec)

/-- ITS FALSE NEIGHBOUR: 'it returns false'. Refute it at one input. -/
def fnChordsWrong : ChangeSpec := { name := "fnChords", fn := fun _ => fun
  | [d] => { results := [.lit (.bool false)], args := [d] }
  | _ => none }
def FnChordsWrongFalsely : Prop := fnChordsRow.holds Try.pinned (OpenSpec.ofChange fnChordsWrong)

/-- 'laws.FnExactIsWeightSystem': WHATEVER THE INPUT: true; the input reads as it did. -/
def fnExactIsWeightSystemSpec : ChangeSpec := { name := "fnExactIsWeightSystem", fn := fun _ => fun
  | [d1, d2, d3] => { results := [.lit (.bool true)], args := [d1, d2, d3] }
  | _ => none }
def fnExactIsWeightSystemRow : OpenClaim := { program := "ytaalgdhejcohmab", sum := "281a0854cc9fddb414f5df9cd67cb50adbd0102292fc3a8f4293c8a295ef7227", func := "loop.example/g01303/laws.FnExactIsWeightSystem", spec := "fnExactIsWeightSystem", unfollowed := true, recurses := true, plainKeys := false, apart := false }
def FnExactIsWeightSystemSaid : Prop := fnExactIsWeightSystemRow.holds Try.pinned (OpenSpec.ofChange fnExactIsWeightSystemSpec)

/-- ITS FALSE NEIGHBOUR: 'it returns false'. Refute it at one input. -/
def fnExactIsWeightSystemWrong : ChangeSpec := { name := "fnExactIsWeightSystem", fn := fun _ => fun
  | [d1, d2, d3] => { results := [.lit (.bool false)], args := [d1, d2, d3] }
  | _ => none }
def FnExactIsWeightSystemWrongFalsely : Prop := fnExactIsWeightSystemRow.holds Try.pinned (OpenSpec.ofChange fnExactIsWeightSystemWrong)

/-- 'laws.FnExactValueOfWeight': WHATEVER THE INPUT: true; the input reads as it did. -/
def fnExactValueOfWeightSpec : ChangeSpec := { name := "fnExactValueOfWeight", fn := fun _ => fun
  | [d1, d2, d3] => { results := [.lit (.bool true)], args := [d1, d2, d3] }
  | _ => none }
def fnExactValueOfWeightRow : OpenClaim := { program := "ytaalgdhejcohmab", sum := "281a0854cc9fddb414f5df9cd67cb50adbd0102292fc3a8f4293c8a295ef7227", func := "loop.example/g01303/laws.FnExactValueOfWeight", spec := "fnExactValueOfWeight", unfollowed := true, recurses := true, plainKeys := false, apart := false }
def FnExactValueOfWeightSaid : Prop := fnExactValueOfWeightRow.holds Try.pinned (OpenSpec.ofChange fnExactValueOfWeightSpec)

/-- ITS FALSE NEIGHBOUR: 'it returns false'. Refute it at one input. -/
def fnExactValueOfWeightWrong : ChangeSpec := { name := "fnExactValueOfWeight", fn := fun _ => fun
  | [d1, d2, d3] => { results := [.lit (.bool false)], args := [d1, d2, d3] }
  | _ => none }
def FnExactValueOfWeightWrongFalsely : Prop := fnExactValueOfWeightRow.holds Try.pinned (OpenSpec.ofChange fnExactValueOfWeightWrong)

/-- 'laws.FnExactDiagramRow': WHATEVER THE INPUT: true; the input reads as it did. -/
def fnExactDiagramRowSpec : ChangeSpec := { name := "fnExactDiagramRow", fn := fun _ => fun
  | [d1, d2] => { results := [.lit (.bool true)], args := [d1, d2] }
  | _ => none }
def fnExactDiagramRowRow : OpenClaim := { program := "ytaalgdhejcohmab", sum := "281a0854cc9fddb414f5df9cd67cb50adbd0102292fc3a8f4293c8a295ef7227", func := "loop.example/g01303/laws.FnExactDiagramRow", spec := "fnExactDiagramRow", unfollowed := true, recurses := true, plainKeys := false, apart := false }
def FnExactDiagramRowSaid : Prop := fnExactDiagramRowRow.holds Try.pinned (OpenSpec.ofChange fnExactDiagramRowSpec)

/-- ITS FALSE NEIGHBOUR: 'it returns false'. Refute it at one input. -/
def fnExactDiagramRowWrong : ChangeSpec := { name := "fnExactDiagramRow", fn := fun _ => fun
  | [d1, d2] => { results := [.lit (.bool false)], args := [d1, d2] }
  | _ => none }
def FnExactDiagramRowWrongFalsely : Prop := fnExactDiagramRowRow.holds Try.pinned (OpenSpec.ofChange fnExactDiagramRowWrong)

/- THE SECOND FORM. 'bulk': how many values and letters a reading holds, each counted each time it is reached (what is shared counts as often as it is met; a slice's spare places count too). A statement '..UptoSaid' is the law's where the arguments, and the package variables that the reading takes, are together of bulk at most 1048576: NARROWER than '..Said'. Prove '..Said' where nothing that the law and all that it calls make is longer than what came in: it says more and counts as full. Else prove '..UptoSaid'. A law counts once. -/
mutual
def uptoBulk {H : Type} : DataW H → Nat
  | .lit (.string bytes) => bytes.length + 1
  | .lit _ => 1
  | .nil => 1
  | .ptr d => uptoBulk d + 1
  | .slice elems spare => uptoBulkAll elems + uptoBulkAll spare + 1
  | .agg parts => uptoBulkAll parts + 1
  | .iface _ d => uptoBulk d + 1
  | .map entries => uptoBulkEntries entries + 1
  | .held _ => 1
def uptoBulkAll {H : Type} : List (DataW H) → Nat
  | [] => 0
  | d :: r => uptoBulk d + uptoBulkAll r
def uptoBulkEntries {H : Type} : List (Lit × DataW H) → Nat
  | [] => 0
  | x :: r => uptoBulkEntry x + uptoBulkEntries r
def uptoBulkEntry {H : Type} : Lit × DataW H → Nat
  | (.string bytes, d) => bytes.length + uptoBulk d + 1
  | (_, d) => uptoBulk d + 1
 end
def uptoSmall : (H : Type) → List (DataW H) → Bool := fun _ ds => decide (uptoBulkAll ds ≤ 1048576)
def OpenSpec.upto (s : _root_.Go.ChangeSpec) : _root_.Go.OpenSpec := { _root_.Go.OpenSpec.ofChange s with cond := some uptoSmall }

/-- 'laws.FnWords', WHERE WHAT IT READS IS OF BULK AT MOST 1048576: true; the input reads as it did. -/
def fnWordsUptoRow : OpenClaim := { program := "ytaalgdhejcohmab", sum := "281a0854cc9fddb414f5df9cd67cb50adbd0102292fc3a8f4293c8a295ef7227", func := "loop.example/g01303/laws.FnWords", spec := "fnWords", unfollowed := true, recurses := true, plainKeys := false, apart := false, narrowed := true }
def FnWordsUptoSaid : Prop := fnWordsUptoRow.holds Try.pinned (OpenSpec.upto fnWordsSpec)

/-- 'laws.FnLists', WHERE WHAT IT READS IS OF BULK AT MOST 1048576: true; the input reads as it did. -/
def fnListsUptoRow : OpenClaim := { program := "ytaalgdhejcohmab", sum := "281a0854cc9fddb414f5df9cd67cb50adbd0102292fc3a8f4293c8a295ef7227", func := "loop.example/g01303/laws.FnLists", spec := "fnLists", unfollowed := true, recurses := true, plainKeys := false, apart := false, narrowed := true }
def FnListsUptoSaid : Prop := fnListsUptoRow.holds Try.pinned (OpenSpec.upto fnListsSpec)

/-- 'laws.FnCircles', WHERE WHAT IT READS IS OF BULK AT MOST 1048576: true; the input reads as it did. -/
def fnCirclesUptoRow : OpenClaim := { program := "ytaalgdhejcohmab", sum := "281a0854cc9fddb414f5df9cd67cb50adbd0102292fc3a8f4293c8a295ef7227", func := "loop.example/g01303/laws.FnCircles", spec := "fnCircles", unfollowed := true, recurses := true, plainKeys := false, apart := false, narrowed := true }
def FnCirclesUptoSaid : Prop := fnCirclesUptoRow.holds Try.pinned (OpenSpec.upto fnCirclesSpec)

/-- 'laws.FnExactWordsOf', WHERE WHAT IT READS IS OF BULK AT MOST 1048576: true; the input reads as it did. -/
def fnExactWordsOfUptoRow : OpenClaim := { program := "ytaalgdhejcohmab", sum := "281a0854cc9fddb414f5df9cd67cb50adbd0102292fc3a8f4293c8a295ef7227", func := "loop.example/g01303/laws.FnExactWordsOf", spec := "fnExactWordsOf", unfollowed := true, recurses := true, plainKeys := false, apart := false, narrowed := true }
def FnExactWordsOfUptoSaid : Prop := fnExactWordsOfUptoRow.holds Try.pinned (OpenSpec.upto fnExactWordsOfSpec)

/-- 'laws.FnExactDiagramsOf', WHERE WHAT IT READS IS OF BULK AT MOST 1048576: true; the input reads as it did. -/
def fnExactDiagramsOfUptoRow : OpenClaim := { program := "ytaalgdhejcohmab", sum := "281a0854cc9fddb414f5df9cd67cb50adbd0102292fc3a8f4293c8a295ef7227", func := "loop.example/g01303/laws.FnExactDiagramsOf", spec := "fnExactDiagramsOf", unfollowed := true, recurses := true, plainKeys := false, apart := false, narrowed := true }
def FnExactDiagramsOfUptoSaid : Prop := fnExactDiagramsOfUptoRow.holds Try.pinned (OpenSpec.upto fnExactDiagramsOfSpec)

/-- 'laws.FnExactPlaceInList', WHERE WHAT IT READS IS OF BULK AT MOST 1048576: true; the input reads as it did. -/
def fnExactPlaceInListUptoRow : OpenClaim := { program := "ytaalgdhejcohmab", sum := "281a0854cc9fddb414f5df9cd67cb50adbd0102292fc3a8f4293c8a295ef7227", func := "loop.example/g01303/laws.FnExactPlaceInList", spec := "fnExactPlaceInList", unfollowed := true, recurses := true, plainKeys := false, apart := false, narrowed := true }
def FnExactPlaceInListUptoSaid : Prop := fnExactPlaceInListUptoRow.holds Try.pinned (OpenSpec.upto fnExactPlaceInListSpec)

/-- 'laws.FnExactAddChord', WHERE WHAT IT READS IS OF BULK AT MOST 1048576: true; the input reads as it did. -/
def fnExactAddChordUptoRow : OpenClaim := { program := "ytaalgdhejcohmab", sum := "281a0854cc9fddb414f5df9cd67cb50adbd0102292fc3a8f4293c8a295ef7227", func := "loop.example/g01303/laws.FnExactAddChord", spec := "fnExactAddChord", plainKeys := false, apart := false, narrowed := true }
def FnExactAddChordUptoSaid : Prop := fnExactAddChordUptoRow.holds Try.pinned (OpenSpec.upto fnExactAddChordSpec)

/-- 'laws.FnChords', WHERE WHAT IT READS IS OF BULK AT MOST 1048576: true; the input reads as it did. -/
def fnChordsUptoRow : OpenClaim := { program := "ytaalgdhejcohmab", sum := "281a0854cc9fddb414f5df9cd67cb50adbd0102292fc3a8f4293c8a295ef7227", func := "loop.example/g01303/laws.FnChords", spec := "fnChords", unfollowed := true, recurses := true, plainKeys := false, apart := false, narrowed := true }
def FnChordsUptoSaid : Prop := fnChordsUptoRow.holds Try.pinned (OpenSpec.upto fnChordsSpec)

/-- 'laws.FnExactIsWeightSystem', WHERE WHAT IT READS IS OF BULK AT MOST 1048576: true; the input reads as it did. -/
def fnExactIsWeightSystemUptoRow : OpenClaim := { program := "ytaalgdhejcohmab", sum := "281a0854cc9fddb414f5df9cd67cb50adbd0102292fc3a8f4293c8a295ef7227", func := "loop.example/g01303/laws.FnExactIsWeightSystem", spec := "fnExactIsWeightSystem", unfollowed := true, recurses := true, plainKeys := false, apart := false, narrowed := true }
def FnExactIsWeightSystemUptoSaid : Prop := fnExactIsWeightSystemUptoRow.holds Try.pinned (OpenSpec.upto fnExactIsWeightSystemSpec)

/-- 'laws.FnExactValueOfWeight', WHERE WHAT IT READS IS OF BULK AT MOST 1048576: true; the input reads as it did. -/
def fnExactValueOfWeightUptoRow : OpenClaim := { program := "ytaalgdhejcohmab", sum := "281a0854cc9fddb414f5df9cd67cb50adbd0102292fc3a8f4293c8a295ef7227", func := "loop.example/g01303/laws.FnExactValueOfWeight", spec := "fnExactValueOfWeight", unfollowed := true, recurses := true, plainKeys := false, apart := false, narrowed := true }
def FnExactValueOfWeightUptoSaid : Prop := fnExactValueOfWeightUptoRow.holds Try.pinned (OpenSpec.upto fnExactValueOfWeightSpec)

/-- 'laws.FnExactDiagramRow', WHERE WHAT IT READS IS OF BULK AT MOST 1048576: true; the input reads as it did. -/
def fnExactDiagramRowUptoRow : OpenClaim := { program := "ytaalgdhejcohmab", sum := "281a0854cc9fddb414f5df9cd67cb50adbd0102292fc3a8f4293c8a295ef7227", func := "loop.example/g01303/laws.FnExactDiagramRow", spec := "fnExactDiagramRow", unfollowed := true, recurses := true, plainKeys := false, apart := false, narrowed := true }
def FnExactDiagramRowUptoSaid : Prop := fnExactDiagramRowUptoRow.holds Try.pinned (OpenSpec.upto fnExactDiagramRowSpec)

end Rows
end Go.Proofs.Ytaalgdhejcohmab
