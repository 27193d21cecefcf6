/-
  No cell of these rows narrows 'for every input' (looked for: loops, veiled, ifaces, maps, wideKeys, modest, calm, conditions, laid).
  DERIVED. THE GIVEN ROWS OF THIS SEAT. 12 by the template 'for every input the law returns true; each argument reads behind the call as it read before'; 0 by the template 'total and deterministic' (their statements: YtiacpdglojikpaaTotals.lean).
  GIVEN WITH THE SEED: the statements are not yours to turn. If you find one false, say at which input.
  Laid BY PROGRAM, IN A SANDBOX (cutbox-rows.mjs): the forced cells as the released guide's own fill.sh prints them over the translation e63990c664a43ce6… (all of the seat's roots in one cut). By AI agents, Wed Nov 11 2026. No macro, syntax, notation, axiom, sorry.
-/
import Derived.Test.YtiacpdglojikpaaChecked
import GoSem.Claim
import GoSem.ClaimJoined
import GoSem.ClaimMapViews
import Derived.JoinedTies
import Derived.KernelRfl
namespace Go.Proofs.Ytiacpdglojikpaa
/- THE CELL 'sum', in the pinned program and in every row, IS THE sha256 OF THE DUMP (.gsa) THAT YtiacpdglojikpaaProg.lean LOADS. Nothing in Lean hashes anything: it is a label: what it is worth is what the hold of that sum in a sandbox is worth. -/
noncomputable def Try.pinned : Pinned := { name := "ytiacpdglojikpaa", sum := "e63990c664a43ce682d212276d825ba9a724f0e22a1b22402046d3f1aefc28ed", checked := Try.checked }
namespace Rows
def none {H : Type} : Left H := { results := [], args := [] }

/-- 'laws.FnExactWordOfChords': WHATEVER THE INPUT: true; the input reads as it did. -/
def fnExactWordOfChordsSpec : ChangeSpec := { name := "fnExactWordOfChords", fn := fun _ => fun
  | [d1, d2] => { results := [.lit (.bool true)], args := [d1, d2] }
  | _ => none }
def fnExactWordOfChordsRow : OpenClaim := { program := "ytiacpdglojikpaa", sum := "e63990c664a43ce682d212276d825ba9a724f0e22a1b22402046d3f1aefc28ed", func := "loop.example/g01303/laws.FnExactWordOfChords", spec := "fnExactWordOfChords", unfollowed := true, recurses := true, apart := false }
def FnExactWordOfChordsSaid : Prop := fnExactWordOfChordsRow.holds Try.pinned (OpenSpec.ofChange fnExactWordOfChordsSpec)

/-- ITS FALSE NEIGHBOUR: 'it returns false'. Refute it at one input. -/
def fnExactWordOfChordsWrong : ChangeSpec := { name := "fnExactWordOfChords", fn := fun _ => fun
  | [d1, d2] => { results := [.lit (.bool false)], args := [d1, d2] }
  | _ => none }
def FnExactWordOfChordsWrongFalsely : Prop := fnExactWordOfChordsRow.holds Try.pinned (OpenSpec.ofChange fnExactWordOfChordsWrong)

/-- 'laws.FnExactCrossingRows': WHATEVER THE INPUT: true; the input reads as it did. -/
def fnExactCrossingRowsSpec : ChangeSpec := { name := "fnExactCrossingRows", fn := fun _ => fun
  | [d] => { results := [.lit (.bool true)], args := [d] }
  | _ => none }
def fnExactCrossingRowsRow : OpenClaim := { program := "ytiacpdglojikpaa", sum := "e63990c664a43ce682d212276d825ba9a724f0e22a1b22402046d3f1aefc28ed", func := "loop.example/g01303/laws.FnExactCrossingRows", spec := "fnExactCrossingRows", unfollowed := true, recurses := true, apart := false }
def FnExactCrossingRowsSaid : Prop := fnExactCrossingRowsRow.holds Try.pinned (OpenSpec.ofChange fnExactCrossingRowsSpec)

/-- ITS FALSE NEIGHBOUR: 'it returns false'. Refute it at one input. -/
def fnExactCrossingRowsWrong : ChangeSpec := { name := "fnExactCrossingRows", fn := fun _ => fun
  | [d] => { results := [.lit (.bool false)], args := [d] }
  | _ => none }
def FnExactCrossingRowsWrongFalsely : Prop := fnExactCrossingRowsRow.holds Try.pinned (OpenSpec.ofChange fnExactCrossingRowsWrong)

/-- 'laws.FnExactCountCrossings': WHATEVER THE INPUT: true; the input reads as it did. -/
def fnExactCountCrossingsSpec : ChangeSpec := { name := "fnExactCountCrossings", fn := fun _ => fun
  | [d] => { results := [.lit (.bool true)], args := [d] }
  | _ => none }
def fnExactCountCrossingsRow : OpenClaim := { program := "ytiacpdglojikpaa", sum := "e63990c664a43ce682d212276d825ba9a724f0e22a1b22402046d3f1aefc28ed", func := "loop.example/g01303/laws.FnExactCountCrossings", spec := "fnExactCountCrossings", unfollowed := true, recurses := true, apart := false }
def FnExactCountCrossingsSaid : Prop := fnExactCountCrossingsRow.holds Try.pinned (OpenSpec.ofChange fnExactCountCrossingsSpec)

/-- ITS FALSE NEIGHBOUR: 'it returns false'. Refute it at one input. -/
def fnExactCountCrossingsWrong : ChangeSpec := { name := "fnExactCountCrossings", fn := fun _ => fun
  | [d] => { results := [.lit (.bool false)], args := [d] }
  | _ => none }
def FnExactCountCrossingsWrongFalsely : Prop := fnExactCountCrossingsRow.holds Try.pinned (OpenSpec.ofChange fnExactCountCrossingsWrong)

/-- 'laws.FnExactPlacesOf': WHATEVER THE INPUT: true; the input reads as it did. -/
def fnExactPlacesOfSpec : ChangeSpec := { name := "fnExactPlacesOf", fn := fun _ => fun
  | [d1, d2] => { results := [.lit (.bool true)], args := [d1, d2] }
  | _ => none }
def fnExactPlacesOfRow : OpenClaim := { program := "ytiacpdglojikpaa", sum := "e63990c664a43ce682d212276d825ba9a724f0e22a1b22402046d3f1aefc28ed", func := "loop.example/g01303/laws.FnExactPlacesOf", spec := "fnExactPlacesOf", apart := false }
def FnExactPlacesOfSaid : Prop := fnExactPlacesOfRow.holds Try.pinned (OpenSpec.ofChange fnExactPlacesOfSpec)

/-- ITS FALSE NEIGHBOUR: 'it returns false'. Refute it at one input. -/
def fnExactPlacesOfWrong : ChangeSpec := { name := "fnExactPlacesOf", fn := fun _ => fun
  | [d1, d2] => { results := [.lit (.bool false)], args := [d1, d2] }
  | _ => none }
def FnExactPlacesOfWrongFalsely : Prop := fnExactPlacesOfRow.holds Try.pinned (OpenSpec.ofChange fnExactPlacesOfWrong)

/-- 'laws.FnExactWordText': WHATEVER THE INPUT: true; the input reads as it did. -/
def fnExactWordTextSpec : ChangeSpec := { name := "fnExactWordText", fn := fun _ => fun
  | [d] => { results := [.lit (.bool true)], args := [d] }
  | _ => none }
def fnExactWordTextRow : OpenClaim := { program := "ytiacpdglojikpaa", sum := "e63990c664a43ce682d212276d825ba9a724f0e22a1b22402046d3f1aefc28ed", func := "loop.example/g01303/laws.FnExactWordText", spec := "fnExactWordText", apart := false }
def FnExactWordTextSaid : Prop := fnExactWordTextRow.holds Try.pinned (OpenSpec.ofChange fnExactWordTextSpec)

/-- ITS FALSE NEIGHBOUR: 'it returns false'. Refute it at one input. -/
def fnExactWordTextWrong : ChangeSpec := { name := "fnExactWordText", fn := fun _ => fun
  | [d] => { results := [.lit (.bool false)], args := [d] }
  | _ => none }
def FnExactWordTextWrongFalsely : Prop := fnExactWordTextRow.holds Try.pinned (OpenSpec.ofChange fnExactWordTextWrong)

/-- 'laws.FnExactParseWord': WHATEVER THE INPUT: true; the input reads as it did. -/
def fnExactParseWordSpec : ChangeSpec := { name := "fnExactParseWord", fn := fun _ => fun
  | [d] => { results := [.lit (.bool true)], args := [d] }
  | _ => none }
def fnExactParseWordRow : OpenClaim := { program := "ytiacpdglojikpaa", sum := "e63990c664a43ce682d212276d825ba9a724f0e22a1b22402046d3f1aefc28ed", func := "loop.example/g01303/laws.FnExactParseWord", spec := "fnExactParseWord", apart := false }
def FnExactParseWordSaid : Prop := fnExactParseWordRow.holds Try.pinned (OpenSpec.ofChange fnExactParseWordSpec)

/-- ITS FALSE NEIGHBOUR: 'it returns false'. Refute it at one input. -/
def fnExactParseWordWrong : ChangeSpec := { name := "fnExactParseWord", fn := fun _ => fun
  | [d] => { results := [.lit (.bool false)], args := [d] }
  | _ => none }
def FnExactParseWordWrongFalsely : Prop := fnExactParseWordRow.holds Try.pinned (OpenSpec.ofChange fnExactParseWordWrong)

/-- 'laws.FnExactSymmetryNumber': WHATEVER THE INPUT: true; the input reads as it did. -/
def fnExactSymmetryNumberSpec : ChangeSpec := { name := "fnExactSymmetryNumber", fn := fun _ => fun
  | [d] => { results := [.lit (.bool true)], args := [d] }
  | _ => none }
def fnExactSymmetryNumberRow : OpenClaim := { program := "ytiacpdglojikpaa", sum := "e63990c664a43ce682d212276d825ba9a724f0e22a1b22402046d3f1aefc28ed", func := "loop.example/g01303/laws.FnExactSymmetryNumber", spec := "fnExactSymmetryNumber", apart := false }
def FnExactSymmetryNumberSaid : Prop := fnExactSymmetryNumberRow.holds Try.pinned (OpenSpec.ofChange fnExactSymmetryNumberSpec)

/-- ITS FALSE NEIGHBOUR: 'it returns false'. Refute it at one input. -/
def fnExactSymmetryNumberWrong : ChangeSpec := { name := "fnExactSymmetryNumber", fn := fun _ => fun
  | [d] => { results := [.lit (.bool false)], args := [d] }
  | _ => none }
def FnExactSymmetryNumberWrongFalsely : Prop := fnExactSymmetryNumberRow.holds Try.pinned (OpenSpec.ofChange fnExactSymmetryNumberWrong)

/-- 'laws.FnExactBorderCircles': WHATEVER THE INPUT: true; the input reads as it did. -/
def fnExactBorderCirclesSpec : ChangeSpec := { name := "fnExactBorderCircles", fn := fun _ => fun
  | [d] => { results := [.lit (.bool true)], args := [d] }
  | _ => none }
def fnExactBorderCirclesRow : OpenClaim := { program := "ytiacpdglojikpaa", sum := "e63990c664a43ce682d212276d825ba9a724f0e22a1b22402046d3f1aefc28ed", func := "loop.example/g01303/laws.FnExactBorderCircles", spec := "fnExactBorderCircles", apart := false }
def FnExactBorderCirclesSaid : Prop := fnExactBorderCirclesRow.holds Try.pinned (OpenSpec.ofChange fnExactBorderCirclesSpec)

/-- ITS FALSE NEIGHBOUR: 'it returns false'. Refute it at one input. -/
def fnExactBorderCirclesWrong : ChangeSpec := { name := "fnExactBorderCircles", fn := fun _ => fun
  | [d] => { results := [.lit (.bool false)], args := [d] }
  | _ => none }
def FnExactBorderCirclesWrongFalsely : Prop := fnExactBorderCirclesRow.holds Try.pinned (OpenSpec.ofChange fnExactBorderCirclesWrong)

/-- 'laws.FnExactGenusOf': WHATEVER THE INPUT: true; the input reads as it did. -/
def fnExactGenusOfSpec : ChangeSpec := { name := "fnExactGenusOf", fn := fun _ => fun
  | [d] => { results := [.lit (.bool true)], args := [d] }
  | _ => none }
def fnExactGenusOfRow : OpenClaim := { program := "ytiacpdglojikpaa", sum := "e63990c664a43ce682d212276d825ba9a724f0e22a1b22402046d3f1aefc28ed", func := "loop.example/g01303/laws.FnExactGenusOf", spec := "fnExactGenusOf", apart := false }
def FnExactGenusOfSaid : Prop := fnExactGenusOfRow.holds Try.pinned (OpenSpec.ofChange fnExactGenusOfSpec)

/-- ITS FALSE NEIGHBOUR: 'it returns false'. Refute it at one input. -/
def fnExactGenusOfWrong : ChangeSpec := { name := "fnExactGenusOf", fn := fun _ => fun
  | [d] => { results := [.lit (.bool false)], args := [d] }
  | _ => none }
def FnExactGenusOfWrongFalsely : Prop := fnExactGenusOfRow.holds Try.pinned (OpenSpec.ofChange fnExactGenusOfWrong)

/-- 'laws.FnExactCrossingRank': WHATEVER THE INPUT: true; the input reads as it did. -/
def fnExactCrossingRankSpec : ChangeSpec := { name := "fnExactCrossingRank", fn := fun _ => fun
  | [d] => { results := [.lit (.bool true)], args := [d] }
  | _ => none }
def fnExactCrossingRankRow : OpenClaim := { program := "ytiacpdglojikpaa", sum := "e63990c664a43ce682d212276d825ba9a724f0e22a1b22402046d3f1aefc28ed", func := "loop.example/g01303/laws.FnExactCrossingRank", spec := "fnExactCrossingRank", unfollowed := true, recurses := true, apart := false }
def FnExactCrossingRankSaid : Prop := fnExactCrossingRankRow.holds Try.pinned (OpenSpec.ofChange fnExactCrossingRankSpec)

/-- ITS FALSE NEIGHBOUR: 'it returns false'. Refute it at one input. -/
def fnExactCrossingRankWrong : ChangeSpec := { name := "fnExactCrossingRank", fn := fun _ => fun
  | [d] => { results := [.lit (.bool false)], args := [d] }
  | _ => none }
def FnExactCrossingRankWrongFalsely : Prop := fnExactCrossingRankRow.holds Try.pinned (OpenSpec.ofChange fnExactCrossingRankWrong)

/-- 'laws.FnExactPartsOf': WHATEVER THE INPUT: true; the input reads as it did. -/
def fnExactPartsOfSpec : ChangeSpec := { name := "fnExactPartsOf", fn := fun _ => fun
  | [d] => { results := [.lit (.bool true)], args := [d] }
  | _ => none }
def fnExactPartsOfRow : OpenClaim := { program := "ytiacpdglojikpaa", sum := "e63990c664a43ce682d212276d825ba9a724f0e22a1b22402046d3f1aefc28ed", func := "loop.example/g01303/laws.FnExactPartsOf", spec := "fnExactPartsOf", unfollowed := true, recurses := true, apart := false }
def FnExactPartsOfSaid : Prop := fnExactPartsOfRow.holds Try.pinned (OpenSpec.ofChange fnExactPartsOfSpec)

/-- ITS FALSE NEIGHBOUR: 'it returns false'. Refute it at one input. -/
def fnExactPartsOfWrong : ChangeSpec := { name := "fnExactPartsOf", fn := fun _ => fun
  | [d] => { results := [.lit (.bool false)], args := [d] }
  | _ => none }
def FnExactPartsOfWrongFalsely : Prop := fnExactPartsOfRow.holds Try.pinned (OpenSpec.ofChange fnExactPartsOfWrong)

/-- 'laws.FnExactBlocksOf': WHATEVER THE INPUT: true; the input reads as it did. -/
def fnExactBlocksOfSpec : ChangeSpec := { name := "fnExactBlocksOf", fn := fun _ => fun
  | [d] => { results := [.lit (.bool true)], args := [d] }
  | _ => none }
def fnExactBlocksOfRow : OpenClaim := { program := "ytiacpdglojikpaa", sum := "e63990c664a43ce682d212276d825ba9a724f0e22a1b22402046d3f1aefc28ed", func := "loop.example/g01303/laws.FnExactBlocksOf", spec := "fnExactBlocksOf", apart := false }
def FnExactBlocksOfSaid : Prop := fnExactBlocksOfRow.holds Try.pinned (OpenSpec.ofChange fnExactBlocksOfSpec)

/-- ITS FALSE NEIGHBOUR: 'it returns false'. Refute it at one input. -/
def fnExactBlocksOfWrong : ChangeSpec := { name := "fnExactBlocksOf", fn := fun _ => fun
  | [d] => { results := [.lit (.bool false)], args := [d] }
  | _ => none }
def FnExactBlocksOfWrongFalsely : Prop := fnExactBlocksOfRow.holds Try.pinned (OpenSpec.ofChange fnExactBlocksOfWrong)

/- THE SECOND FORM. 'bulk': how many values and letters a reading holds, each counted each time it is reached (what is shared counts as often as it is met; a slice's spare places count too). A statement '..UptoSaid' is the law's where the arguments, and the package variables that the reading takes, are together of bulk at most 1048576: NARROWER than '..Said'. Prove '..Said' where nothing that the law and all that it calls make is longer than what came in: it says more and counts as full. Else prove '..UptoSaid'. A law counts once. -/
mutual
def uptoBulk {H : Type} : DataW H → Nat
  | .lit (.string bytes) => bytes.length + 1
  | .lit _ => 1
  | .nil => 1
  | .ptr d => uptoBulk d + 1
  | .slice elems spare => uptoBulkAll elems + uptoBulkAll spare + 1
  | .agg parts => uptoBulkAll parts + 1
  | .iface _ d => uptoBulk d + 1
  | .map entries => uptoBulkEntries entries + 1
  | .held _ => 1
def uptoBulkAll {H : Type} : List (DataW H) → Nat
  | [] => 0
  | d :: r => uptoBulk d + uptoBulkAll r
def uptoBulkEntries {H : Type} : List (Lit × DataW H) → Nat
  | [] => 0
  | x :: r => uptoBulkEntry x + uptoBulkEntries r
def uptoBulkEntry {H : Type} : Lit × DataW H → Nat
  | (.string bytes, d) => bytes.length + uptoBulk d + 1
  | (_, d) => uptoBulk d + 1
 end
def uptoSmall : (H : Type) → List (DataW H) → Bool := fun _ ds => decide (uptoBulkAll ds ≤ 1048576)
def OpenSpec.upto (s : _root_.Go.ChangeSpec) : _root_.Go.OpenSpec := { _root_.Go.OpenSpec.ofChange s with cond := some uptoSmall }

/-- 'laws.FnExactWordOfChords', WHERE WHAT IT READS IS OF BULK AT MOST 1048576: true; the input reads as it did. -/
def fnExactWordOfChordsUptoRow : OpenClaim := { program := "ytiacpdglojikpaa", sum := "e63990c664a43ce682d212276d825ba9a724f0e22a1b22402046d3f1aefc28ed", func := "loop.example/g01303/laws.FnExactWordOfChords", spec := "fnExactWordOfChords", unfollowed := true, recurses := true, apart := false, narrowed := true }
def FnExactWordOfChordsUptoSaid : Prop := fnExactWordOfChordsUptoRow.holds Try.pinned (OpenSpec.upto fnExactWordOfChordsSpec)

/-- 'laws.FnExactCrossingRows', WHERE WHAT IT READS IS OF BULK AT MOST 1048576: true; the input reads as it did. -/
def fnExactCrossingRowsUptoRow : OpenClaim := { program := "ytiacpdglojikpaa", sum := "e63990c664a43ce682d212276d825ba9a724f0e22a1b22402046d3f1aefc28ed", func := "loop.example/g01303/laws.FnExactCrossingRows", spec := "fnExactCrossingRows", unfollowed := true, recurses := true, apart := false, narrowed := true }
def FnExactCrossingRowsUptoSaid : Prop := fnExactCrossingRowsUptoRow.holds Try.pinned (OpenSpec.upto fnExactCrossingRowsSpec)

/-- 'laws.FnExactCountCrossings', WHERE WHAT IT READS IS OF BULK AT MOST 1048576: true; the input reads as it did. -/
def fnExactCountCrossingsUptoRow : OpenClaim := { program := "ytiacpdglojikpaa", sum := "e63990c664a43ce682d212276d825ba9a724f0e22a1b22402046d3f1aefc28ed", func := "loop.example/g01303/laws.FnExactCountCrossings", spec := "fnExactCountCrossings", unfollowed := true, recurses := true, apart := false, narrowed := true }
def FnExactCountCrossingsUptoSaid : Prop := fnExactCountCrossingsUptoRow.holds Try.pinned (OpenSpec.upto fnExactCountCrossingsSpec)

/-- 'laws.FnExactPlacesOf', WHERE WHAT IT READS IS OF BULK AT MOST 1048576: true; the input reads as it did. -/
def fnExactPlacesOfUptoRow : OpenClaim := { program := "ytiacpdglojikpaa", sum := "e63990c664a43ce682d212276d825ba9a724f0e22a1b22402046d3f1aefc28ed", func := "loop.example/g01303/laws.FnExactPlacesOf", spec := "fnExactPlacesOf", apart := false, narrowed := true }
def FnExactPlacesOfUptoSaid : Prop := fnExactPlacesOfUptoRow.holds Try.pinned (OpenSpec.upto fnExactPlacesOfSpec)

/-- 'laws.FnExactWordText', WHERE WHAT IT READS IS OF BULK AT MOST 1048576: true; the input reads as it did. -/
def fnExactWordTextUptoRow : OpenClaim := { program := "ytiacpdglojikpaa", sum := "e63990c664a43ce682d212276d825ba9a724f0e22a1b22402046d3f1aefc28ed", func := "loop.example/g01303/laws.FnExactWordText", spec := "fnExactWordText", apart := false, narrowed := true }
def FnExactWordTextUptoSaid : Prop := fnExactWordTextUptoRow.holds Try.pinned (OpenSpec.upto fnExactWordTextSpec)

/-- 'laws.FnExactParseWord', WHERE WHAT IT READS IS OF BULK AT MOST 1048576: true; the input reads as it did. -/
def fnExactParseWordUptoRow : OpenClaim := { program := "ytiacpdglojikpaa", sum := "e63990c664a43ce682d212276d825ba9a724f0e22a1b22402046d3f1aefc28ed", func := "loop.example/g01303/laws.FnExactParseWord", spec := "fnExactParseWord", apart := false, narrowed := true }
def FnExactParseWordUptoSaid : Prop := fnExactParseWordUptoRow.holds Try.pinned (OpenSpec.upto fnExactParseWordSpec)

/-- 'laws.FnExactSymmetryNumber', WHERE WHAT IT READS IS OF BULK AT MOST 1048576: true; the input reads as it did. -/
def fnExactSymmetryNumberUptoRow : OpenClaim := { program := "ytiacpdglojikpaa", sum := "e63990c664a43ce682d212276d825ba9a724f0e22a1b22402046d3f1aefc28ed", func := "loop.example/g01303/laws.FnExactSymmetryNumber", spec := "fnExactSymmetryNumber", apart := false, narrowed := true }
def FnExactSymmetryNumberUptoSaid : Prop := fnExactSymmetryNumberUptoRow.holds Try.pinned (OpenSpec.upto fnExactSymmetryNumberSpec)

/-- 'laws.FnExactBorderCircles', WHERE WHAT IT READS IS OF BULK AT MOST 1048576: true; the input reads as it did. -/
def fnExactBorderCirclesUptoRow : OpenClaim := { program := "ytiacpdglojikpaa", sum := "e63990c664a43ce682d212276d825ba9a724f0e22a1b22402046d3f1aefc28ed", func := "loop.example/g01303/laws.FnExactBorderCircles", spec := "fnExactBorderCircles", apart := false, narrowed := true }
def FnExactBorderCirclesUptoSaid : Prop := fnExactBorderCirclesUptoRow.holds Try.pinned (OpenSpec.upto fnExactBorderCirclesSpec)

/-- 'laws.FnExactGenusOf', WHERE WHAT IT READS IS OF BULK AT MOST 1048576: true; the input reads as it did. -/
def fnExactGenusOfUptoRow : OpenClaim := { program := "ytiacpdglojikpaa", sum := "e63990c664a43ce682d212276d825ba9a724f0e22a1b22402046d3f1aefc28ed", func := "loop.example/g01303/laws.FnExactGenusOf", spec := "fnExactGenusOf", apart := false, narrowed := true }
def FnExactGenusOfUptoSaid : Prop := fnExactGenusOfUptoRow.holds Try.pinned (OpenSpec.upto fnExactGenusOfSpec)

/-- 'laws.FnExactCrossingRank', WHERE WHAT IT READS IS OF BULK AT MOST 1048576: true; the input reads as it did. -/
def fnExactCrossingRankUptoRow : OpenClaim := { program := "ytiacpdglojikpaa", sum := "e63990c664a43ce682d212276d825ba9a724f0e22a1b22402046d3f1aefc28ed", func := "loop.example/g01303/laws.FnExactCrossingRank", spec := "fnExactCrossingRank", unfollowed := true, recurses := true, apart := false, narrowed := true }
def FnExactCrossingRankUptoSaid : Prop := fnExactCrossingRankUptoRow.holds Try.pinned (OpenSpec.upto fnExactCrossingRankSpec)

/-- 'laws.FnExactPartsOf', WHERE WHAT IT READS IS OF BULK AT MOST 1048576: true; the input reads as it did. -/
def fnExactPartsOfUptoRow : OpenClaim := { program := "ytiacpdglojikpaa", sum := "e63990c664a43ce682d212276d825ba9a724f0e22a1b22402046d3f1aefc28ed", func := "loop.example/g01303/laws.FnExactPartsOf", spec := "fnExactPartsOf", unfollowed := true, recurses := true, apart := false, narrowed := true }
def FnExactPartsOfUptoSaid : Prop := fnExactPartsOfUptoRow.holds Try.pinned (OpenSpec.upto fnExactPartsOfSpec)

/-- 'laws.FnExactBlocksOf', WHERE WHAT IT READS IS OF BULK AT MOST 1048576: true; the input reads as it did. -/
def fnExactBlocksOfUptoRow : OpenClaim := { program := "ytiacpdglojikpaa", sum := "e63990c664a43ce682d212276d825ba9a724f0e22a1b22402046d3f1aefc28ed", func := "loop.example/g01303/laws.FnExactBlocksOf", spec := "fnExactBlocksOf", apart := false, narrowed := true }
def FnExactBlocksOfUptoSaid : Prop := fnExactBlocksOfUptoRow.holds Try.pinned (OpenSpec.upto fnExactBlocksOfSpec)

end Rows
end Go.Proofs.Ytiacpdglojikpaa
