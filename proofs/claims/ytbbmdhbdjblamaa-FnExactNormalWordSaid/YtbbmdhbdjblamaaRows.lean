/-
  No cell of these rows narrows 'for every input' (looked for: loops, veiled, ifaces, maps, wideKeys, modest, calm, conditions, laid).
  DERIVED. THE GIVEN ROWS OF THIS SEAT. 12 by the template 'for every input the law returns true; each argument reads behind the call as it read before'; 0 by the template 'total and deterministic' (their statements: YtbbmdhbdjblamaaTotals.lean).
  GIVEN WITH THE SEED: the statements are not yours to turn. If you find one false, say at which input.
  Laid BY PROGRAM, IN A SANDBOX (cutbox-rows.mjs): the forced cells as the released guide's own fill.sh prints them over the translation 4f41090f5771d392… (all of the seat's roots in one cut). By AI agents, Wed Nov 11 2026. No macro, syntax, notation, axiom, sorry.
-/
import Derived.Test.YtbbmdhbdjblamaaChecked
import GoSem.Claim
import GoSem.ClaimJoined
import GoSem.ClaimMapViews
import Derived.JoinedTies
import Derived.KernelRfl
namespace Go.Proofs.Ytbbmdhbdjblamaa
/- THE CELL 'sum', in the pinned program and in every row, IS THE sha256 OF THE DUMP (.gsa) THAT YtbbmdhbdjblamaaProg.lean LOADS. Nothing in Lean hashes anything: it is a label: what it is worth is what the hold of that sum in a sandbox is worth. -/
noncomputable def Try.pinned : Pinned := { name := "ytbbmdhbdjblamaa", sum := "4f41090f5771d392e1a946838e025a51d59d05d488fef95c133a617407b55c94", checked := Try.checked }
namespace Rows
def none {H : Type} : Left H := { results := [], args := [] }

/-- 'laws.FnExactIsWord': WHATEVER THE INPUT: true; the input reads as it did. -/
def fnExactIsWordSpec : ChangeSpec := { name := "fnExactIsWord", fn := fun _ => fun
  | [d] => { results := [.lit (.bool true)], args := [d] }
  | _ => none }
def fnExactIsWordRow : OpenClaim := { program := "ytbbmdhbdjblamaa", sum := "4f41090f5771d392e1a946838e025a51d59d05d488fef95c133a617407b55c94", func := "loop.example/g01303/laws.FnExactIsWord", spec := "fnExactIsWord", plainKeys := false, apart := false }
def FnExactIsWordSaid : Prop := fnExactIsWordRow.holds Try.pinned (OpenSpec.ofChange fnExactIsWordSpec)

/-- ITS FALSE NEIGHBOUR: 'it returns false'. Refute it at one input. -/
def fnExactIsWordWrong : ChangeSpec := { name := "fnExactIsWord", fn := fun _ => fun
  | [d] => { results := [.lit (.bool false)], args := [d] }
  | _ => none }
def FnExactIsWordWrongFalsely : Prop := fnExactIsWordRow.holds Try.pinned (OpenSpec.ofChange fnExactIsWordWrong)

/-- 'laws.FnExactNormalWord': WHATEVER THE INPUT: true; the input reads as it did. -/
def fnExactNormalWordSpec : ChangeSpec := { name := "fnExactNormalWord", fn := fun _ => fun
  | [d] => { results := [.lit (.bool true)], args := [d] }
  | _ => none }
def fnExactNormalWordRow : OpenClaim := { program := "ytbbmdhbdjblamaa", sum := "4f41090f5771d392e1a946838e025a51d59d05d488fef95c133a617407b55c94", func := "loop.example/g01303/laws.FnExactNormalWord", spec := "fnExactNormalWord", plainKeys := false, apart := false }
def FnExactNormalWordSaid : Prop := fnExactNormalWordRow.holds Try.pinned (OpenSpec.ofChange fnExactNormalWordSpec)

/-- ITS FALSE NEIGHBOUR: 'it returns false'. Refute it at one input. -/
def fnExactNormalWordWrong : ChangeSpec := { name := "fnExactNormalWord", fn := fun _ => fun
  | [d] => { results := [.lit (.bool false)], args := [d] }
  | _ => none }
def FnExactNormalWordWrongFalsely : Prop := fnExactNormalWordRow.holds Try.pinned (OpenSpec.ofChange fnExactNormalWordWrong)

/-- 'laws.FnExactRotateWord': WHATEVER THE INPUT: true; the input reads as it did. -/
def fnExactRotateWordSpec : ChangeSpec := { name := "fnExactRotateWord", fn := fun _ => fun
  | [d1, d2] => { results := [.lit (.bool true)], args := [d1, d2] }
  | _ => none }
def fnExactRotateWordRow : OpenClaim := { program := "ytbbmdhbdjblamaa", sum := "4f41090f5771d392e1a946838e025a51d59d05d488fef95c133a617407b55c94", func := "loop.example/g01303/laws.FnExactRotateWord", spec := "fnExactRotateWord", plainKeys := false, apart := false }
def FnExactRotateWordSaid : Prop := fnExactRotateWordRow.holds Try.pinned (OpenSpec.ofChange fnExactRotateWordSpec)

/-- ITS FALSE NEIGHBOUR: 'it returns false'. Refute it at one input. -/
def fnExactRotateWordWrong : ChangeSpec := { name := "fnExactRotateWord", fn := fun _ => fun
  | [d1, d2] => { results := [.lit (.bool false)], args := [d1, d2] }
  | _ => none }
def FnExactRotateWordWrongFalsely : Prop := fnExactRotateWordRow.holds Try.pinned (OpenSpec.ofChange fnExactRotateWordWrong)

/-- 'laws.FnExactReflectWord': WHATEVER THE INPUT: true; the input reads as it did. -/
def fnExactReflectWordSpec : ChangeSpec := { name := "fnExactReflectWord", fn := fun _ => fun
  | [d] => { results := [.lit (.bool true)], args := [d] }
  | _ => none }
def fnExactReflectWordRow : OpenClaim := { program := "ytbbmdhbdjblamaa", sum := "4f41090f5771d392e1a946838e025a51d59d05d488fef95c133a617407b55c94", func := "loop.example/g01303/laws.FnExactReflectWord", spec := "fnExactReflectWord", plainKeys := false, apart := false }
def FnExactReflectWordSaid : Prop := fnExactReflectWordRow.holds Try.pinned (OpenSpec.ofChange fnExactReflectWordSpec)

/-- ITS FALSE NEIGHBOUR: 'it returns false'. Refute it at one input. -/
def fnExactReflectWordWrong : ChangeSpec := { name := "fnExactReflectWord", fn := fun _ => fun
  | [d] => { results := [.lit (.bool false)], args := [d] }
  | _ => none }
def FnExactReflectWordWrongFalsely : Prop := fnExactReflectWordRow.holds Try.pinned (OpenSpec.ofChange fnExactReflectWordWrong)

/-- 'laws.FnExactLeastRotation': WHATEVER THE INPUT: true; the input reads as it did. -/
def fnExactLeastRotationSpec : ChangeSpec := { name := "fnExactLeastRotation", fn := fun _ => fun
  | [d] => { results := [.lit (.bool true)], args := [d] }
  | _ => none }
def fnExactLeastRotationRow : OpenClaim := { program := "ytbbmdhbdjblamaa", sum := "4f41090f5771d392e1a946838e025a51d59d05d488fef95c133a617407b55c94", func := "loop.example/g01303/laws.FnExactLeastRotation", spec := "fnExactLeastRotation", plainKeys := false, apart := false }
def FnExactLeastRotationSaid : Prop := fnExactLeastRotationRow.holds Try.pinned (OpenSpec.ofChange fnExactLeastRotationSpec)

/-- ITS FALSE NEIGHBOUR: 'it returns false'. Refute it at one input. -/
def fnExactLeastRotationWrong : ChangeSpec := { name := "fnExactLeastRotation", fn := fun _ => fun
  | [d] => { results := [.lit (.bool false)], args := [d] }
  | _ => none }
def FnExactLeastRotationWrongFalsely : Prop := fnExactLeastRotationRow.holds Try.pinned (OpenSpec.ofChange fnExactLeastRotationWrong)

/-- 'laws.FnExactIsDiagram': WHATEVER THE INPUT: true; the input reads as it did. -/
def fnExactIsDiagramSpec : ChangeSpec := { name := "fnExactIsDiagram", fn := fun _ => fun
  | [d] => { results := [.lit (.bool true)], args := [d] }
  | _ => none }
def fnExactIsDiagramRow : OpenClaim := { program := "ytbbmdhbdjblamaa", sum := "4f41090f5771d392e1a946838e025a51d59d05d488fef95c133a617407b55c94", func := "loop.example/g01303/laws.FnExactIsDiagram", spec := "fnExactIsDiagram", plainKeys := false, apart := false }
def FnExactIsDiagramSaid : Prop := fnExactIsDiagramRow.holds Try.pinned (OpenSpec.ofChange fnExactIsDiagramSpec)

/-- ITS FALSE NEIGHBOUR: 'it returns false'. Refute it at one input. -/
def fnExactIsDiagramWrong : ChangeSpec := { name := "fnExactIsDiagram", fn := fun _ => fun
  | [d] => { results := [.lit (.bool false)], args := [d] }
  | _ => none }
def FnExactIsDiagramWrongFalsely : Prop := fnExactIsDiagramRow.holds Try.pinned (OpenSpec.ofChange fnExactIsDiagramWrong)

/-- 'laws.FnExactRotationNumber': WHATEVER THE INPUT: true; the input reads as it did. -/
def fnExactRotationNumberSpec : ChangeSpec := { name := "fnExactRotationNumber", fn := fun _ => fun
  | [d] => { results := [.lit (.bool true)], args := [d] }
  | _ => none }
def fnExactRotationNumberRow : OpenClaim := { program := "ytbbmdhbdjblamaa", sum := "4f41090f5771d392e1a946838e025a51d59d05d488fef95c133a617407b55c94", func := "loop.example/g01303/laws.FnExactRotationNumber", spec := "fnExactRotationNumber", plainKeys := false, apart := false }
def FnExactRotationNumberSaid : Prop := fnExactRotationNumberRow.holds Try.pinned (OpenSpec.ofChange fnExactRotationNumberSpec)

/-- ITS FALSE NEIGHBOUR: 'it returns false'. Refute it at one input. -/
def fnExactRotationNumberWrong : ChangeSpec := { name := "fnExactRotationNumber", fn := fun _ => fun
  | [d] => { results := [.lit (.bool false)], args := [d] }
  | _ => none }
def FnExactRotationNumberWrongFalsely : Prop := fnExactRotationNumberRow.holds Try.pinned (OpenSpec.ofChange fnExactRotationNumberWrong)

/-- 'laws.FnExactAreSameOnCircle': WHATEVER THE INPUT: true; the input reads as it did. -/
def fnExactAreSameOnCircleSpec : ChangeSpec := { name := "fnExactAreSameOnCircle", fn := fun _ => fun
  | [d1, d2] => { results := [.lit (.bool true)], args := [d1, d2] }
  | _ => none }
def fnExactAreSameOnCircleRow : OpenClaim := { program := "ytbbmdhbdjblamaa", sum := "4f41090f5771d392e1a946838e025a51d59d05d488fef95c133a617407b55c94", func := "loop.example/g01303/laws.FnExactAreSameOnCircle", spec := "fnExactAreSameOnCircle", plainKeys := false, apart := false }
def FnExactAreSameOnCircleSaid : Prop := fnExactAreSameOnCircleRow.holds Try.pinned (OpenSpec.ofChange fnExactAreSameOnCircleSpec)

/-- ITS FALSE NEIGHBOUR: 'it returns false'. Refute it at one input. -/
def fnExactAreSameOnCircleWrong : ChangeSpec := { name := "fnExactAreSameOnCircle", fn := fun _ => fun
  | [d1, d2] => { results := [.lit (.bool false)], args := [d1, d2] }
  | _ => none }
def FnExactAreSameOnCircleWrongFalsely : Prop := fnExactAreSameOnCircleRow.holds Try.pinned (OpenSpec.ofChange fnExactAreSameOnCircleWrong)

/-- 'laws.FnExactAreMirrored': WHATEVER THE INPUT: true; the input reads as it did. -/
def fnExactAreMirroredSpec : ChangeSpec := { name := "fnExactAreMirrored", fn := fun _ => fun
  | [d1, d2] => { results := [.lit (.bool true)], args := [d1, d2] }
  | _ => none }
def fnExactAreMirroredRow : OpenClaim := { program := "ytbbmdhbdjblamaa", sum := "4f41090f5771d392e1a946838e025a51d59d05d488fef95c133a617407b55c94", func := "loop.example/g01303/laws.FnExactAreMirrored", spec := "fnExactAreMirrored", plainKeys := false, apart := false }
def FnExactAreMirroredSaid : Prop := fnExactAreMirroredRow.holds Try.pinned (OpenSpec.ofChange fnExactAreMirroredSpec)

/-- ITS FALSE NEIGHBOUR: 'it returns false'. Refute it at one input. -/
def fnExactAreMirroredWrong : ChangeSpec := { name := "fnExactAreMirrored", fn := fun _ => fun
  | [d1, d2] => { results := [.lit (.bool false)], args := [d1, d2] }
  | _ => none }
def FnExactAreMirroredWrongFalsely : Prop := fnExactAreMirroredRow.holds Try.pinned (OpenSpec.ofChange fnExactAreMirroredWrong)

/-- 'laws.FnExactDeleteChord': WHATEVER THE INPUT: true; the input reads as it did. -/
def fnExactDeleteChordSpec : ChangeSpec := { name := "fnExactDeleteChord", fn := fun _ => fun
  | [d1, d2] => { results := [.lit (.bool true)], args := [d1, d2] }
  | _ => none }
def fnExactDeleteChordRow : OpenClaim := { program := "ytbbmdhbdjblamaa", sum := "4f41090f5771d392e1a946838e025a51d59d05d488fef95c133a617407b55c94", func := "loop.example/g01303/laws.FnExactDeleteChord", spec := "fnExactDeleteChord", unfollowed := true, recurses := true, plainKeys := false, apart := false }
def FnExactDeleteChordSaid : Prop := fnExactDeleteChordRow.holds Try.pinned (OpenSpec.ofChange fnExactDeleteChordSpec)

/-- ITS FALSE NEIGHBOUR: 'it returns false'. Refute it at one input. -/
def fnExactDeleteChordWrong : ChangeSpec := { name := "fnExactDeleteChord", fn := fun _ => fun
  | [d1, d2] => { results := [.lit (.bool false)], args := [d1, d2] }
  | _ => none }
def FnExactDeleteChordWrongFalsely : Prop := fnExactDeleteChordRow.holds Try.pinned (OpenSpec.ofChange fnExactDeleteChordWrong)

/-- 'laws.FnExactAddChord': WHATEVER THE INPUT: true; the input reads as it did. -/
def fnExactAddChordSpec : ChangeSpec := { name := "fnExactAddChord", fn := fun _ => fun
  | [d1, d2, d3] => { results := [.lit (.bool true)], args := [d1, d2, d3] }
  | _ => none }
def fnExactAddChordRow : OpenClaim := { program := "ytbbmdhbdjblamaa", sum := "4f41090f5771d392e1a946838e025a51d59d05d488fef95c133a617407b55c94", func := "loop.example/g01303/laws.FnExactAddChord", spec := "fnExactAddChord", plainKeys := false, apart := false }
def FnExactAddChordSaid : Prop := fnExactAddChordRow.holds Try.pinned (OpenSpec.ofChange fnExactAddChordSpec)

/-- ITS FALSE NEIGHBOUR: 'it returns false'. Refute it at one input. -/
def fnExactAddChordWrong : ChangeSpec := { name := "fnExactAddChord", fn := fun _ => fun
  | [d1, d2, d3] => { results := [.lit (.bool false)], args := [d1, d2, d3] }
  | _ => none }
def FnExactAddChordWrongFalsely : Prop := fnExactAddChordRow.holds Try.pinned (OpenSpec.ofChange fnExactAddChordWrong)

/-- 'laws.FnExactJoinWords': WHATEVER THE INPUT: true; the input reads as it did. -/
def fnExactJoinWordsSpec : ChangeSpec := { name := "fnExactJoinWords", fn := fun _ => fun
  | [d1, d2] => { results := [.lit (.bool true)], args := [d1, d2] }
  | _ => none }
def fnExactJoinWordsRow : OpenClaim := { program := "ytbbmdhbdjblamaa", sum := "4f41090f5771d392e1a946838e025a51d59d05d488fef95c133a617407b55c94", func := "loop.example/g01303/laws.FnExactJoinWords", spec := "fnExactJoinWords", plainKeys := false, apart := false }
def FnExactJoinWordsSaid : Prop := fnExactJoinWordsRow.holds Try.pinned (OpenSpec.ofChange fnExactJoinWordsSpec)

/-- ITS FALSE NEIGHBOUR: 'it returns false'. Refute it at one input. -/
def fnExactJoinWordsWrong : ChangeSpec := { name := "fnExactJoinWords", fn := fun _ => fun
  | [d1, d2] => { results := [.lit (.bool false)], args := [d1, d2] }
  | _ => none }
def FnExactJoinWordsWrongFalsely : Prop := fnExactJoinWordsRow.holds Try.pinned (OpenSpec.ofChange fnExactJoinWordsWrong)

/- THE SECOND FORM. 'bulk': how many values and letters a reading holds, each counted each time it is reached (what is shared counts as often as it is met; a slice's spare places count too). A statement '..UptoSaid' is the law's where the arguments, and the package variables that the reading takes, are together of bulk at most 1048576: NARROWER than '..Said'. Prove '..Said' where nothing that the law and all that it calls make is longer than what came in: it says more and counts as full. Else prove '..UptoSaid'. A law counts once. -/
mutual
def uptoBulk {H : Type} : DataW H → Nat
  | .lit (.string bytes) => bytes.length + 1
  | .lit _ => 1
  | .nil => 1
  | .ptr d => uptoBulk d + 1
  | .slice elems spare => uptoBulkAll elems + uptoBulkAll spare + 1
  | .agg parts => uptoBulkAll parts + 1
  | .iface _ d => uptoBulk d + 1
  | .map entries => uptoBulkEntries entries + 1
  | .held _ => 1
def uptoBulkAll {H : Type} : List (DataW H) → Nat
  | [] => 0
  | d :: r => uptoBulk d + uptoBulkAll r
def uptoBulkEntries {H : Type} : List (Lit × DataW H) → Nat
  | [] => 0
  | x :: r => uptoBulkEntry x + uptoBulkEntries r
def uptoBulkEntry {H : Type} : Lit × DataW H → Nat
  | (.string bytes, d) => bytes.length + uptoBulk d + 1
  | (_, d) => uptoBulk d + 1
 end
def uptoSmall : (H : Type) → List (DataW H) → Bool := fun _ ds => decide (uptoBulkAll ds ≤ 1048576)
def OpenSpec.upto (s : _root_.Go.ChangeSpec) : _root_.Go.OpenSpec := { _root_.Go.OpenSpec.ofChange s with cond := some uptoSmall }

/-- 'laws.FnExactIsWord', WHERE WHAT IT READS IS OF BULK AT MOST 1048576: true; the input reads as it did. -/
def fnExactIsWordUptoRow : OpenClaim := { program := "ytbbmdhbdjblamaa", sum := "4f41090f5771d392e1a946838e025a51d59d05d488fef95c133a617407b55c94", func := "loop.example/g01303/laws.FnExactIsWord", spec := "fnExactIsWord", plainKeys := false, apart := false, narrowed := true }
def FnExactIsWordUptoSaid : Prop := fnExactIsWordUptoRow.holds Try.pinned (OpenSpec.upto fnExactIsWordSpec)

/-- 'laws.FnExactNormalWord', WHERE WHAT IT READS IS OF BULK AT MOST 1048576: true; the input reads as it did. -/
def fnExactNormalWordUptoRow : OpenClaim := { program := "ytbbmdhbdjblamaa", sum := "4f41090f5771d392e1a946838e025a51d59d05d488fef95c133a617407b55c94", func := "loop.example/g01303/laws.FnExactNormalWord", spec := "fnExactNormalWord", plainKeys := false, apart := false, narrowed := true }
def FnExactNormalWordUptoSaid : Prop := fnExactNormalWordUptoRow.holds Try.pinned (OpenSpec.upto fnExactNormalWordSpec)

/-- 'laws.FnExactRotateWord', WHERE WHAT IT READS IS OF BULK AT MOST 1048576: true; the input reads as it did. -/
def fnExactRotateWordUptoRow : OpenClaim := { program := "ytbbmdhbdjblamaa", sum := "4f41090f5771d392e1a946838e025a51d59d05d488fef95c133a617407b55c94", func := "loop.example/g01303/laws.FnExactRotateWord", spec := "fnExactRotateWord", plainKeys := false, apart := false, narrowed := true }
def FnExactRotateWordUptoSaid : Prop := fnExactRotateWordUptoRow.holds Try.pinned (OpenSpec.upto fnExactRotateWordSpec)

/-- 'laws.FnExactReflectWord', WHERE WHAT IT READS IS OF BULK AT MOST 1048576: true; the input reads as it did. -/
def fnExactReflectWordUptoRow : OpenClaim := { program := "ytbbmdhbdjblamaa", sum := "4f41090f5771d392e1a946838e025a51d59d05d488fef95c133a617407b55c94", func := "loop.example/g01303/laws.FnExactReflectWord", spec := "fnExactReflectWord", plainKeys := false, apart := false, narrowed := true }
def FnExactReflectWordUptoSaid : Prop := fnExactReflectWordUptoRow.holds Try.pinned (OpenSpec.upto fnExactReflectWordSpec)

/-- 'laws.FnExactLeastRotation', WHERE WHAT IT READS IS OF BULK AT MOST 1048576: true; the input reads as it did. -/
def fnExactLeastRotationUptoRow : OpenClaim := { program := "ytbbmdhbdjblamaa", sum := "4f41090f5771d392e1a946838e025a51d59d05d488fef95c133a617407b55c94", func := "loop.example/g01303/laws.FnExactLeastRotation", spec := "fnExactLeastRotation", plainKeys := false, apart := false, narrowed := true }
def FnExactLeastRotationUptoSaid : Prop := fnExactLeastRotationUptoRow.holds Try.pinned (OpenSpec.upto fnExactLeastRotationSpec)

/-- 'laws.FnExactIsDiagram', WHERE WHAT IT READS IS OF BULK AT MOST 1048576: true; the input reads as it did. -/
def fnExactIsDiagramUptoRow : OpenClaim := { program := "ytbbmdhbdjblamaa", sum := "4f41090f5771d392e1a946838e025a51d59d05d488fef95c133a617407b55c94", func := "loop.example/g01303/laws.FnExactIsDiagram", spec := "fnExactIsDiagram", plainKeys := false, apart := false, narrowed := true }
def FnExactIsDiagramUptoSaid : Prop := fnExactIsDiagramUptoRow.holds Try.pinned (OpenSpec.upto fnExactIsDiagramSpec)

/-- 'laws.FnExactRotationNumber', WHERE WHAT IT READS IS OF BULK AT MOST 1048576: true; the input reads as it did. -/
def fnExactRotationNumberUptoRow : OpenClaim := { program := "ytbbmdhbdjblamaa", sum := "4f41090f5771d392e1a946838e025a51d59d05d488fef95c133a617407b55c94", func := "loop.example/g01303/laws.FnExactRotationNumber", spec := "fnExactRotationNumber", plainKeys := false, apart := false, narrowed := true }
def FnExactRotationNumberUptoSaid : Prop := fnExactRotationNumberUptoRow.holds Try.pinned (OpenSpec.upto fnExactRotationNumberSpec)

/-- 'laws.FnExactAreSameOnCircle', WHERE WHAT IT READS IS OF BULK AT MOST 1048576: true; the input reads as it did. -/
def fnExactAreSameOnCircleUptoRow : OpenClaim := { program := "ytbbmdhbdjblamaa", sum := "4f41090f5771d392e1a946838e025a51d59d05d488fef95c133a617407b55c94", func := "loop.example/g01303/laws.FnExactAreSameOnCircle", spec := "fnExactAreSameOnCircle", plainKeys := false, apart := false, narrowed := true }
def FnExactAreSameOnCircleUptoSaid : Prop := fnExactAreSameOnCircleUptoRow.holds Try.pinned (OpenSpec.upto fnExactAreSameOnCircleSpec)

/-- 'laws.FnExactAreMirrored', WHERE WHAT IT READS IS OF BULK AT MOST 1048576: true; the input reads as it did. -/
def fnExactAreMirroredUptoRow : OpenClaim := { program := "ytbbmdhbdjblamaa", sum := "4f41090f5771d392e1a946838e025a51d59d05d488fef95c133a617407b55c94", func := "loop.example/g01303/laws.FnExactAreMirrored", spec := "fnExactAreMirrored", plainKeys := false, apart := false, narrowed := true }
def FnExactAreMirroredUptoSaid : Prop := fnExactAreMirroredUptoRow.holds Try.pinned (OpenSpec.upto fnExactAreMirroredSpec)

/-- 'laws.FnExactDeleteChord', WHERE WHAT IT READS IS OF BULK AT MOST 1048576: true; the input reads as it did. -/
def fnExactDeleteChordUptoRow : OpenClaim := { program := "ytbbmdhbdjblamaa", sum := "4f41090f5771d392e1a946838e025a51d59d05d488fef95c133a617407b55c94", func := "loop.example/g01303/laws.FnExactDeleteChord", spec := "fnExactDeleteChord", unfollowed := true, recurses := true, plainKeys := false, apart := false, narrowed := true }
def FnExactDeleteChordUptoSaid : Prop := fnExactDeleteChordUptoRow.holds Try.pinned (OpenSpec.upto fnExactDeleteChordSpec)

/-- 'laws.FnExactAddChord', WHERE WHAT IT READS IS OF BULK AT MOST 1048576: true; the input reads as it did. -/
def fnExactAddChordUptoRow : OpenClaim := { program := "ytbbmdhbdjblamaa", sum := "4f41090f5771d392e1a946838e025a51d59d05d488fef95c133a617407b55c94", func := "loop.example/g01303/laws.FnExactAddChord", spec := "fnExactAddChord", plainKeys := false, apart := false, narrowed := true }
def FnExactAddChordUptoSaid : Prop := fnExactAddChordUptoRow.holds Try.pinned (OpenSpec.upto fnExactAddChordSpec)

/-- 'laws.FnExactJoinWords', WHERE WHAT IT READS IS OF BULK AT MOST 1048576: true; the input reads as it did. -/
def fnExactJoinWordsUptoRow : OpenClaim := { program := "ytbbmdhbdjblamaa", sum := "4f41090f5771d392e1a946838e025a51d59d05d488fef95c133a617407b55c94", func := "loop.example/g01303/laws.FnExactJoinWords", spec := "fnExactJoinWords", plainKeys := false, apart := false, narrowed := true }
def FnExactJoinWordsUptoSaid : Prop := fnExactJoinWordsUptoRow.holds Try.pinned (OpenSpec.upto fnExactJoinWordsSpec)

end Rows
end Go.Proofs.Ytbbmdhbdjblamaa
