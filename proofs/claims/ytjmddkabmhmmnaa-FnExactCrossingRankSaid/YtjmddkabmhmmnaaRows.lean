/-
  No cell of these rows narrows 'for every input' (looked for: loops, veiled, ifaces, maps, wideKeys, modest, calm, conditions, laid).
  DERIVED. THE GIVEN ROWS OF THIS SEAT. 12 by the template 'for every input the law returns true; each argument reads behind the call as it read before'; 0 by the template 'total and deterministic' (their statements: YtjmddkabmhmmnaaTotals.lean).
  GIVEN WITH THE SEED: the statements are not yours to turn. If you find one false, say at which input.
  Laid BY PROGRAM, IN A SANDBOX (cutbox-rows.mjs): the forced cells as the released guide's own fill.sh prints them over the translation c38ad3f2342f046d… (all of the seat's roots in one cut). By AI agents, Wed Nov 11 2026. No macro, syntax, notation, axiom, sorry.
-/
import Derived.Test.YtjmddkabmhmmnaaChecked
import GoSem.Claim
import GoSem.ClaimJoined
import GoSem.ClaimMapViews
import Derived.JoinedTies
import Derived.KernelRfl
namespace Go.Proofs.Ytjmddkabmhmmnaa
/- THE CELL 'sum', in the pinned program and in every row, IS THE sha256 OF THE DUMP (.gsa) THAT YtjmddkabmhmmnaaProg.lean LOADS. Nothing in Lean hashes anything: it is a label: what it is worth is what the hold of that sum in a sandbox is worth. -/
noncomputable def Try.pinned : Pinned := { name := "ytjmddkabmhmmnaa", sum := "c38ad3f2342f046dfdea44cd745d83d579f8513c71453016df07c7f9fa736b1e", checked := Try.checked }
namespace Rows
def none {H : Type} : Left H := { results := [], args := [] }

/-- 'laws.FnExactWordOfChords': WHATEVER THE INPUT: true; the input reads as it did. -/
def fnExactWordOfChordsSpec : ChangeSpec := { name := "fnExactWordOfChords", fn := fun _ => fun
  | [d1, d2] => { results := [.lit (.bool true)], args := [d1, d2] }
  | _ => none }
def fnExactWordOfChordsRow : OpenClaim := { program := "ytjmddkabmhmmnaa", sum := "c38ad3f2342f046dfdea44cd745d83d579f8513c71453016df07c7f9fa736b1e", func := "loop.example/g01303/laws.FnExactWordOfChords", spec := "fnExactWordOfChords", unfollowed := true, recurses := true, plainKeys := false, apart := false }
def FnExactWordOfChordsSaid : Prop := fnExactWordOfChordsRow.holds Try.pinned (OpenSpec.ofChange fnExactWordOfChordsSpec)

/-- ITS FALSE NEIGHBOUR: 'it returns false'. Refute it at one input. -/
def fnExactWordOfChordsWrong : ChangeSpec := { name := "fnExactWordOfChords", fn := fun _ => fun
  | [d1, d2] => { results := [.lit (.bool false)], args := [d1, d2] }
  | _ => none }
def FnExactWordOfChordsWrongFalsely : Prop := fnExactWordOfChordsRow.holds Try.pinned (OpenSpec.ofChange fnExactWordOfChordsWrong)

/-- 'laws.FnExactCrossingRows': WHATEVER THE INPUT: true; the input reads as it did. -/
def fnExactCrossingRowsSpec : ChangeSpec := { name := "fnExactCrossingRows", fn := fun _ => fun
  | [d] => { results := [.lit (.bool true)], args := [d] }
  | _ => none }
def fnExactCrossingRowsRow : OpenClaim := { program := "ytjmddkabmhmmnaa", sum := "c38ad3f2342f046dfdea44cd745d83d579f8513c71453016df07c7f9fa736b1e", func := "loop.example/g01303/laws.FnExactCrossingRows", spec := "fnExactCrossingRows", unfollowed := true, recurses := true, plainKeys := false, apart := false }
def FnExactCrossingRowsSaid : Prop := fnExactCrossingRowsRow.holds Try.pinned (OpenSpec.ofChange fnExactCrossingRowsSpec)

/-- ITS FALSE NEIGHBOUR: 'it returns false'. Refute it at one input. -/
def fnExactCrossingRowsWrong : ChangeSpec := { name := "fnExactCrossingRows", fn := fun _ => fun
  | [d] => { results := [.lit (.bool false)], args := [d] }
  | _ => none }
def FnExactCrossingRowsWrongFalsely : Prop := fnExactCrossingRowsRow.holds Try.pinned (OpenSpec.ofChange fnExactCrossingRowsWrong)

/-- 'laws.FnExactCountCrossings': WHATEVER THE INPUT: true; the input reads as it did. -/
def fnExactCountCrossingsSpec : ChangeSpec := { name := "fnExactCountCrossings", fn := fun _ => fun
  | [d] => { results := [.lit (.bool true)], args := [d] }
  | _ => none }
def fnExactCountCrossingsRow : OpenClaim := { program := "ytjmddkabmhmmnaa", sum := "c38ad3f2342f046dfdea44cd745d83d579f8513c71453016df07c7f9fa736b1e", func := "loop.example/g01303/laws.FnExactCountCrossings", spec := "fnExactCountCrossings", unfollowed := true, recurses := true, plainKeys := false, apart := false }
def FnExactCountCrossingsSaid : Prop := fnExactCountCrossingsRow.holds Try.pinned (OpenSpec.ofChange fnExactCountCrossingsSpec)

/-- ITS FALSE NEIGHBOUR: 'it returns false'. Refute it at one input. -/
def fnExactCountCrossingsWrong : ChangeSpec := { name := "fnExactCountCrossings", fn := fun _ => fun
  | [d] => { results := [.lit (.bool false)], args := [d] }
  | _ => none }
def FnExactCountCrossingsWrongFalsely : Prop := fnExactCountCrossingsRow.holds Try.pinned (OpenSpec.ofChange fnExactCountCrossingsWrong)

/-- 'laws.FnExactRotationNumber': WHATEVER THE INPUT: true; the input reads as it did. -/
def fnExactRotationNumberSpec : ChangeSpec := { name := "fnExactRotationNumber", fn := fun _ => fun
  | [d] => { results := [.lit (.bool true)], args := [d] }
  | _ => none }
def fnExactRotationNumberRow : OpenClaim := { program := "ytjmddkabmhmmnaa", sum := "c38ad3f2342f046dfdea44cd745d83d579f8513c71453016df07c7f9fa736b1e", func := "loop.example/g01303/laws.FnExactRotationNumber", spec := "fnExactRotationNumber", plainKeys := false, apart := false }
def FnExactRotationNumberSaid : Prop := fnExactRotationNumberRow.holds Try.pinned (OpenSpec.ofChange fnExactRotationNumberSpec)

/-- ITS FALSE NEIGHBOUR: 'it returns false'. Refute it at one input. -/
def fnExactRotationNumberWrong : ChangeSpec := { name := "fnExactRotationNumber", fn := fun _ => fun
  | [d] => { results := [.lit (.bool false)], args := [d] }
  | _ => none }
def FnExactRotationNumberWrongFalsely : Prop := fnExactRotationNumberRow.holds Try.pinned (OpenSpec.ofChange fnExactRotationNumberWrong)

/-- 'laws.FnExactDegreesOf': WHATEVER THE INPUT: true; the input reads as it did. -/
def fnExactDegreesOfSpec : ChangeSpec := { name := "fnExactDegreesOf", fn := fun _ => fun
  | [d] => { results := [.lit (.bool true)], args := [d] }
  | _ => none }
def fnExactDegreesOfRow : OpenClaim := { program := "ytjmddkabmhmmnaa", sum := "c38ad3f2342f046dfdea44cd745d83d579f8513c71453016df07c7f9fa736b1e", func := "loop.example/g01303/laws.FnExactDegreesOf", spec := "fnExactDegreesOf", unfollowed := true, recurses := true, plainKeys := false, apart := false }
def FnExactDegreesOfSaid : Prop := fnExactDegreesOfRow.holds Try.pinned (OpenSpec.ofChange fnExactDegreesOfSpec)

/-- ITS FALSE NEIGHBOUR: 'it returns false'. Refute it at one input. -/
def fnExactDegreesOfWrong : ChangeSpec := { name := "fnExactDegreesOf", fn := fun _ => fun
  | [d] => { results := [.lit (.bool false)], args := [d] }
  | _ => none }
def FnExactDegreesOfWrongFalsely : Prop := fnExactDegreesOfRow.holds Try.pinned (OpenSpec.ofChange fnExactDegreesOfWrong)

/-- 'laws.FnExactIsolatedChords': WHATEVER THE INPUT: true; the input reads as it did. -/
def fnExactIsolatedChordsSpec : ChangeSpec := { name := "fnExactIsolatedChords", fn := fun _ => fun
  | [d] => { results := [.lit (.bool true)], args := [d] }
  | _ => none }
def fnExactIsolatedChordsRow : OpenClaim := { program := "ytjmddkabmhmmnaa", sum := "c38ad3f2342f046dfdea44cd745d83d579f8513c71453016df07c7f9fa736b1e", func := "loop.example/g01303/laws.FnExactIsolatedChords", spec := "fnExactIsolatedChords", unfollowed := true, recurses := true, plainKeys := false, apart := false }
def FnExactIsolatedChordsSaid : Prop := fnExactIsolatedChordsRow.holds Try.pinned (OpenSpec.ofChange fnExactIsolatedChordsSpec)

/-- ITS FALSE NEIGHBOUR: 'it returns false'. Refute it at one input. -/
def fnExactIsolatedChordsWrong : ChangeSpec := { name := "fnExactIsolatedChords", fn := fun _ => fun
  | [d] => { results := [.lit (.bool false)], args := [d] }
  | _ => none }
def FnExactIsolatedChordsWrongFalsely : Prop := fnExactIsolatedChordsRow.holds Try.pinned (OpenSpec.ofChange fnExactIsolatedChordsWrong)

/-- 'laws.FnExactCountNested': WHATEVER THE INPUT: true; the input reads as it did. -/
def fnExactCountNestedSpec : ChangeSpec := { name := "fnExactCountNested", fn := fun _ => fun
  | [d] => { results := [.lit (.bool true)], args := [d] }
  | _ => none }
def fnExactCountNestedRow : OpenClaim := { program := "ytjmddkabmhmmnaa", sum := "c38ad3f2342f046dfdea44cd745d83d579f8513c71453016df07c7f9fa736b1e", func := "loop.example/g01303/laws.FnExactCountNested", spec := "fnExactCountNested", unfollowed := true, recurses := true, plainKeys := false, apart := false }
def FnExactCountNestedSaid : Prop := fnExactCountNestedRow.holds Try.pinned (OpenSpec.ofChange fnExactCountNestedSpec)

/-- ITS FALSE NEIGHBOUR: 'it returns false'. Refute it at one input. -/
def fnExactCountNestedWrong : ChangeSpec := { name := "fnExactCountNested", fn := fun _ => fun
  | [d] => { results := [.lit (.bool false)], args := [d] }
  | _ => none }
def FnExactCountNestedWrongFalsely : Prop := fnExactCountNestedRow.holds Try.pinned (OpenSpec.ofChange fnExactCountNestedWrong)

/-- 'laws.FnExactCountApart': WHATEVER THE INPUT: true; the input reads as it did. -/
def fnExactCountApartSpec : ChangeSpec := { name := "fnExactCountApart", fn := fun _ => fun
  | [d] => { results := [.lit (.bool true)], args := [d] }
  | _ => none }
def fnExactCountApartRow : OpenClaim := { program := "ytjmddkabmhmmnaa", sum := "c38ad3f2342f046dfdea44cd745d83d579f8513c71453016df07c7f9fa736b1e", func := "loop.example/g01303/laws.FnExactCountApart", spec := "fnExactCountApart", unfollowed := true, recurses := true, plainKeys := false, apart := false }
def FnExactCountApartSaid : Prop := fnExactCountApartRow.holds Try.pinned (OpenSpec.ofChange fnExactCountApartSpec)

/-- ITS FALSE NEIGHBOUR: 'it returns false'. Refute it at one input. -/
def fnExactCountApartWrong : ChangeSpec := { name := "fnExactCountApart", fn := fun _ => fun
  | [d] => { results := [.lit (.bool false)], args := [d] }
  | _ => none }
def FnExactCountApartWrongFalsely : Prop := fnExactCountApartRow.holds Try.pinned (OpenSpec.ofChange fnExactCountApartWrong)

/-- 'laws.FnExactCountWords': WHATEVER THE INPUT: true; the input reads as it did. -/
def fnExactCountWordsSpec : ChangeSpec := { name := "fnExactCountWords", fn := fun _ => fun
  | [d] => { results := [.lit (.bool true)], args := [d] }
  | _ => none }
def fnExactCountWordsRow : OpenClaim := { program := "ytjmddkabmhmmnaa", sum := "c38ad3f2342f046dfdea44cd745d83d579f8513c71453016df07c7f9fa736b1e", func := "loop.example/g01303/laws.FnExactCountWords", spec := "fnExactCountWords", plainKeys := false, apart := false }
def FnExactCountWordsSaid : Prop := fnExactCountWordsRow.holds Try.pinned (OpenSpec.ofChange fnExactCountWordsSpec)

/-- ITS FALSE NEIGHBOUR: 'it returns false'. Refute it at one input. -/
def fnExactCountWordsWrong : ChangeSpec := { name := "fnExactCountWords", fn := fun _ => fun
  | [d] => { results := [.lit (.bool false)], args := [d] }
  | _ => none }
def FnExactCountWordsWrongFalsely : Prop := fnExactCountWordsRow.holds Try.pinned (OpenSpec.ofChange fnExactCountWordsWrong)

/-- 'laws.FnExactBlocksOf': WHATEVER THE INPUT: true; the input reads as it did. -/
def fnExactBlocksOfSpec : ChangeSpec := { name := "fnExactBlocksOf", fn := fun _ => fun
  | [d] => { results := [.lit (.bool true)], args := [d] }
  | _ => none }
def fnExactBlocksOfRow : OpenClaim := { program := "ytjmddkabmhmmnaa", sum := "c38ad3f2342f046dfdea44cd745d83d579f8513c71453016df07c7f9fa736b1e", func := "loop.example/g01303/laws.FnExactBlocksOf", spec := "fnExactBlocksOf", plainKeys := false, apart := false }
def FnExactBlocksOfSaid : Prop := fnExactBlocksOfRow.holds Try.pinned (OpenSpec.ofChange fnExactBlocksOfSpec)

/-- ITS FALSE NEIGHBOUR: 'it returns false'. Refute it at one input. -/
def fnExactBlocksOfWrong : ChangeSpec := { name := "fnExactBlocksOf", fn := fun _ => fun
  | [d] => { results := [.lit (.bool false)], args := [d] }
  | _ => none }
def FnExactBlocksOfWrongFalsely : Prop := fnExactBlocksOfRow.holds Try.pinned (OpenSpec.ofChange fnExactBlocksOfWrong)

/-- 'laws.FnExactSymmetryNumber': WHATEVER THE INPUT: true; the input reads as it did. -/
def fnExactSymmetryNumberSpec : ChangeSpec := { name := "fnExactSymmetryNumber", fn := fun _ => fun
  | [d] => { results := [.lit (.bool true)], args := [d] }
  | _ => none }
def fnExactSymmetryNumberRow : OpenClaim := { program := "ytjmddkabmhmmnaa", sum := "c38ad3f2342f046dfdea44cd745d83d579f8513c71453016df07c7f9fa736b1e", func := "loop.example/g01303/laws.FnExactSymmetryNumber", spec := "fnExactSymmetryNumber", plainKeys := false, apart := false }
def FnExactSymmetryNumberSaid : Prop := fnExactSymmetryNumberRow.holds Try.pinned (OpenSpec.ofChange fnExactSymmetryNumberSpec)

/-- ITS FALSE NEIGHBOUR: 'it returns false'. Refute it at one input. -/
def fnExactSymmetryNumberWrong : ChangeSpec := { name := "fnExactSymmetryNumber", fn := fun _ => fun
  | [d] => { results := [.lit (.bool false)], args := [d] }
  | _ => none }
def FnExactSymmetryNumberWrongFalsely : Prop := fnExactSymmetryNumberRow.holds Try.pinned (OpenSpec.ofChange fnExactSymmetryNumberWrong)

/-- 'laws.FnExactCrossingRank': WHATEVER THE INPUT: true; the input reads as it did. -/
def fnExactCrossingRankSpec : ChangeSpec := { name := "fnExactCrossingRank", fn := fun _ => fun
  | [d] => { results := [.lit (.bool true)], args := [d] }
  | _ => none }
def fnExactCrossingRankRow : OpenClaim := { program := "ytjmddkabmhmmnaa", sum := "c38ad3f2342f046dfdea44cd745d83d579f8513c71453016df07c7f9fa736b1e", func := "loop.example/g01303/laws.FnExactCrossingRank", spec := "fnExactCrossingRank", unfollowed := true, recurses := true, plainKeys := false, apart := false }
def FnExactCrossingRankSaid : Prop := fnExactCrossingRankRow.holds Try.pinned (OpenSpec.ofChange fnExactCrossingRankSpec)

/-- ITS FALSE NEIGHBOUR: 'it returns false'. Refute it at one input. -/
def fnExactCrossingRankWrong : ChangeSpec := { name := "fnExactCrossingRank", fn := fun _ => fun
  | [d] => { results := [.lit (.bool false)], args := [d] }
  | _ => none }
def FnExactCrossingRankWrongFalsely : Prop := fnExactCrossingRankRow.holds Try.pinned (OpenSpec.ofChange fnExactCrossingRankWrong)

/- THE SECOND FORM. 'bulk': how many values and letters a reading holds, each counted each time it is reached (what is shared counts as often as it is met; a slice's spare places count too). A statement '..UptoSaid' is the law's where the arguments, and the package variables that the reading takes, are together of bulk at most 1048576: NARROWER than '..Said'. Prove '..Said' where nothing that the law and all that it calls make is longer than what came in: it says more and counts as full. Else prove '..UptoSaid'. A law counts once. -/
mutual
def uptoBulk {H : Type} : DataW H → Nat
  | .lit (.string bytes) => bytes.length + 1
  | .lit _ => 1
  | .nil => 1
  | .ptr d => uptoBulk d + 1
  | .slice elems spare => uptoBulkAll elems + uptoBulkAll spare + 1
  | .agg parts => uptoBulkAll parts + 1
  | .iface _ d => uptoBulk d + 1
  | .map entries => uptoBulkEntries entries + 1
  | .held _ => 1
def uptoBulkAll {H : Type} : List (DataW H) → Nat
  | [] => 0
  | d :: r => uptoBulk d + uptoBulkAll r
def uptoBulkEntries {H : Type} : List (Lit × DataW H) → Nat
  | [] => 0
  | x :: r => uptoBulkEntry x + uptoBulkEntries r
def uptoBulkEntry {H : Type} : Lit × DataW H → Nat
  | (.string bytes, d) => bytes.length + uptoBulk d + 1
  | (_, d) => uptoBulk d + 1
 end
def uptoSmall : (H : Type) → List (DataW H) → Bool := fun _ ds => decide (uptoBulkAll ds ≤ 1048576)
def OpenSpec.upto (s : _root_.Go.ChangeSpec) : _root_.Go.OpenSpec := { _root_.Go.OpenSpec.ofChange s with cond := some uptoSmall }

/-- 'laws.FnExactWordOfChords', WHERE WHAT IT READS IS OF BULK AT MOST 1048576: true; the input reads as it did. -/
def fnExactWordOfChordsUptoRow : OpenClaim := { program := "ytjmddkabmhmmnaa", sum := "c38ad3f2342f046dfdea44cd745d83d579f8513c71453016df07c7f9fa736b1e", func := "loop.example/g01303/laws.FnExactWordOfChords", spec := "fnExactWordOfChords", unfollowed := true, recurses := true, plainKeys := false, apart := false, narrowed := true }
def FnExactWordOfChordsUptoSaid : Prop := fnExactWordOfChordsUptoRow.holds Try.pinned (OpenSpec.upto fnExactWordOfChordsSpec)

/-- 'laws.FnExactCrossingRows', WHERE WHAT IT READS IS OF BULK AT MOST 1048576: true; the input reads as it did. -/
def fnExactCrossingRowsUptoRow : OpenClaim := { program := "ytjmddkabmhmmnaa", sum := "c38ad3f2342f046dfdea44cd745d83d579f8513c71453016df07c7f9fa736b1e", func := "loop.example/g01303/laws.FnExactCrossingRows", spec := "fnExactCrossingRows", unfollowed := true, recurses := true, plainKeys := false, apart := false, narrowed := true }
def FnExactCrossingRowsUptoSaid : Prop := fnExactCrossingRowsUptoRow.holds Try.pinned (OpenSpec.upto fnExactCrossingRowsSpec)

/-- 'laws.FnExactCountCrossings', WHERE WHAT IT READS IS OF BULK AT MOST 1048576: true; the input reads as it did. -/
def fnExactCountCrossingsUptoRow : OpenClaim := { program := "ytjmddkabmhmmnaa", sum := "c38ad3f2342f046dfdea44cd745d83d579f8513c71453016df07c7f9fa736b1e", func := "loop.example/g01303/laws.FnExactCountCrossings", spec := "fnExactCountCrossings", unfollowed := true, recurses := true, plainKeys := false, apart := false, narrowed := true }
def FnExactCountCrossingsUptoSaid : Prop := fnExactCountCrossingsUptoRow.holds Try.pinned (OpenSpec.upto fnExactCountCrossingsSpec)

/-- 'laws.FnExactRotationNumber', WHERE WHAT IT READS IS OF BULK AT MOST 1048576: true; the input reads as it did. -/
def fnExactRotationNumberUptoRow : OpenClaim := { program := "ytjmddkabmhmmnaa", sum := "c38ad3f2342f046dfdea44cd745d83d579f8513c71453016df07c7f9fa736b1e", func := "loop.example/g01303/laws.FnExactRotationNumber", spec := "fnExactRotationNumber", plainKeys := false, apart := false, narrowed := true }
def FnExactRotationNumberUptoSaid : Prop := fnExactRotationNumberUptoRow.holds Try.pinned (OpenSpec.upto fnExactRotationNumberSpec)

/-- 'laws.FnExactDegreesOf', WHERE WHAT IT READS IS OF BULK AT MOST 1048576: true; the input reads as it did. -/
def fnExactDegreesOfUptoRow : OpenClaim := { program := "ytjmddkabmhmmnaa", sum := "c38ad3f2342f046dfdea44cd745d83d579f8513c71453016df07c7f9fa736b1e", func := "loop.example/g01303/laws.FnExactDegreesOf", spec := "fnExactDegreesOf", unfollowed := true, recurses := true, plainKeys := false, apart := false, narrowed := true }
def FnExactDegreesOfUptoSaid : Prop := fnExactDegreesOfUptoRow.holds Try.pinned (OpenSpec.upto fnExactDegreesOfSpec)

/-- 'laws.FnExactIsolatedChords', WHERE WHAT IT READS IS OF BULK AT MOST 1048576: true; the input reads as it did. -/
def fnExactIsolatedChordsUptoRow : OpenClaim := { program := "ytjmddkabmhmmnaa", sum := "c38ad3f2342f046dfdea44cd745d83d579f8513c71453016df07c7f9fa736b1e", func := "loop.example/g01303/laws.FnExactIsolatedChords", spec := "fnExactIsolatedChords", unfollowed := true, recurses := true, plainKeys := false, apart := false, narrowed := true }
def FnExactIsolatedChordsUptoSaid : Prop := fnExactIsolatedChordsUptoRow.holds Try.pinned (OpenSpec.upto fnExactIsolatedChordsSpec)

/-- 'laws.FnExactCountNested', WHERE WHAT IT READS IS OF BULK AT MOST 1048576: true; the input reads as it did. -/
def fnExactCountNestedUptoRow : OpenClaim := { program := "ytjmddkabmhmmnaa", sum := "c38ad3f2342f046dfdea44cd745d83d579f8513c71453016df07c7f9fa736b1e", func := "loop.example/g01303/laws.FnExactCountNested", spec := "fnExactCountNested", unfollowed := true, recurses := true, plainKeys := false, apart := false, narrowed := true }
def FnExactCountNestedUptoSaid : Prop := fnExactCountNestedUptoRow.holds Try.pinned (OpenSpec.upto fnExactCountNestedSpec)

/-- 'laws.FnExactCountApart', WHERE WHAT IT READS IS OF BULK AT MOST 1048576: true; the input reads as it did. -/
def fnExactCountApartUptoRow : OpenClaim := { program := "ytjmddkabmhmmnaa", sum := "c38ad3f2342f046dfdea44cd745d83d579f8513c71453016df07c7f9fa736b1e", func := "loop.example/g01303/laws.FnExactCountApart", spec := "fnExactCountApart", unfollowed := true, recurses := true, plainKeys := false, apart := false, narrowed := true }
def FnExactCountApartUptoSaid : Prop := fnExactCountApartUptoRow.holds Try.pinned (OpenSpec.upto fnExactCountApartSpec)

/-- 'laws.FnExactCountWords', WHERE WHAT IT READS IS OF BULK AT MOST 1048576: true; the input reads as it did. -/
def fnExactCountWordsUptoRow : OpenClaim := { program := "ytjmddkabmhmmnaa", sum := "c38ad3f2342f046dfdea44cd745d83d579f8513c71453016df07c7f9fa736b1e", func := "loop.example/g01303/laws.FnExactCountWords", spec := "fnExactCountWords", plainKeys := false, apart := false, narrowed := true }
def FnExactCountWordsUptoSaid : Prop := fnExactCountWordsUptoRow.holds Try.pinned (OpenSpec.upto fnExactCountWordsSpec)

/-- 'laws.FnExactBlocksOf', WHERE WHAT IT READS IS OF BULK AT MOST 1048576: true; the input reads as it did. -/
def fnExactBlocksOfUptoRow : OpenClaim := { program := "ytjmddkabmhmmnaa", sum := "c38ad3f2342f046dfdea44cd745d83d579f8513c71453016df07c7f9fa736b1e", func := "loop.example/g01303/laws.FnExactBlocksOf", spec := "fnExactBlocksOf", plainKeys := false, apart := false, narrowed := true }
def FnExactBlocksOfUptoSaid : Prop := fnExactBlocksOfUptoRow.holds Try.pinned (OpenSpec.upto fnExactBlocksOfSpec)

/-- 'laws.FnExactSymmetryNumber', WHERE WHAT IT READS IS OF BULK AT MOST 1048576: true; the input reads as it did. -/
def fnExactSymmetryNumberUptoRow : OpenClaim := { program := "ytjmddkabmhmmnaa", sum := "c38ad3f2342f046dfdea44cd745d83d579f8513c71453016df07c7f9fa736b1e", func := "loop.example/g01303/laws.FnExactSymmetryNumber", spec := "fnExactSymmetryNumber", plainKeys := false, apart := false, narrowed := true }
def FnExactSymmetryNumberUptoSaid : Prop := fnExactSymmetryNumberUptoRow.holds Try.pinned (OpenSpec.upto fnExactSymmetryNumberSpec)

/-- 'laws.FnExactCrossingRank', WHERE WHAT IT READS IS OF BULK AT MOST 1048576: true; the input reads as it did. -/
def fnExactCrossingRankUptoRow : OpenClaim := { program := "ytjmddkabmhmmnaa", sum := "c38ad3f2342f046dfdea44cd745d83d579f8513c71453016df07c7f9fa736b1e", func := "loop.example/g01303/laws.FnExactCrossingRank", spec := "fnExactCrossingRank", unfollowed := true, recurses := true, plainKeys := false, apart := false, narrowed := true }
def FnExactCrossingRankUptoSaid : Prop := fnExactCrossingRankUptoRow.holds Try.pinned (OpenSpec.upto fnExactCrossingRankSpec)

end Rows
end Go.Proofs.Ytjmddkabmhmmnaa
