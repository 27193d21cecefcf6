/-
  No cell of these rows narrows 'for every input' (looked for: loops, veiled, ifaces, maps, wideKeys, modest, calm, conditions, laid).
  DERIVED. THE GIVEN ROWS OF THIS SEAT. 12 by the template 'for every input the law returns true; each argument reads behind the call as it read before'; 0 by the template 'total and deterministic' (their statements: YtofcldplgkejiaaTotals.lean).
  GIVEN WITH THE SEED: the statements are not yours to turn. If you find one false, say at which input.
  Laid BY PROGRAM, IN A SANDBOX (cutbox-rows.mjs): the forced cells as the released guide's own fill.sh prints them over the translation cc38b5b4168eeedb… (all of the seat's roots in one cut). By AI agents, Wed Nov 11 2026. No macro, syntax, notation, axiom, sorry.
-/
import Derived.Test.YtofcldplgkejiaaChecked
import GoSem.Claim
import GoSem.ClaimJoined
import GoSem.ClaimMapViews
import Derived.JoinedTies
import Derived.KernelRfl
namespace Go.Proofs.Ytofcldplgkejiaa
/- THE CELL 'sum', in the pinned program and in every row, IS THE sha256 OF THE DUMP (.gsa) THAT YtofcldplgkejiaaProg.lean LOADS. Nothing in Lean hashes anything: it is a label: what it is worth is what the hold of that sum in a sandbox is worth. -/
noncomputable def Try.pinned : Pinned := { name := "ytofcldplgkejiaa", sum := "cc38b5b4168eeedbda177960a3dd9534b02fa1c5fdcc142bd9a7219b2292f245", checked := Try.checked }
namespace Rows
def none {H : Type} : Left H := { results := [], args := [] }

/-- 'laws.FnExactSumOfWord': WHATEVER THE INPUT: true; the input reads as it did. -/
def fnExactSumOfWordSpec : ChangeSpec := { name := "fnExactSumOfWord", fn := fun _ => fun
  | [d1, d2, d3] => { results := [.lit (.bool true)], args := [d1, d2, d3] }
  | _ => none }
def fnExactSumOfWordRow : OpenClaim := { program := "ytofcldplgkejiaa", sum := "cc38b5b4168eeedbda177960a3dd9534b02fa1c5fdcc142bd9a7219b2292f245", func := "loop.example/g01303/laws.FnExactSumOfWord", spec := "fnExactSumOfWord", unfollowed := true, recurses := true, plainKeys := false, apart := false }
def FnExactSumOfWordSaid : Prop := fnExactSumOfWordRow.holds Try.pinned (OpenSpec.ofChange fnExactSumOfWordSpec)

/-- ITS FALSE NEIGHBOUR: 'it returns false'. Refute it at one input. -/
def fnExactSumOfWordWrong : ChangeSpec := { name := "fnExactSumOfWord", fn := fun _ => fun
  | [d1, d2, d3] => { results := [.lit (.bool false)], args := [d1, d2, d3] }
  | _ => none }
def FnExactSumOfWordWrongFalsely : Prop := fnExactSumOfWordRow.holds Try.pinned (OpenSpec.ofChange fnExactSumOfWordWrong)

/-- 'laws.FnExactAddSums': WHATEVER THE INPUT: true; the input reads as it did. -/
def fnExactAddSumsSpec : ChangeSpec := { name := "fnExactAddSums", fn := fun _ => fun
  | [d1, d2, d3] => { results := [.lit (.bool true)], args := [d1, d2, d3] }
  | _ => none }
def fnExactAddSumsRow : OpenClaim := { program := "ytofcldplgkejiaa", sum := "cc38b5b4168eeedbda177960a3dd9534b02fa1c5fdcc142bd9a7219b2292f245", func := "loop.example/g01303/laws.FnExactAddSums", spec := "fnExactAddSums", unfollowed := true, recurses := true, plainKeys := false, apart := false }
def FnExactAddSumsSaid : Prop := fnExactAddSumsRow.holds Try.pinned (OpenSpec.ofChange fnExactAddSumsSpec)

/-- ITS FALSE NEIGHBOUR: 'it returns false'. Refute it at one input. -/
def fnExactAddSumsWrong : ChangeSpec := { name := "fnExactAddSums", fn := fun _ => fun
  | [d1, d2, d3] => { results := [.lit (.bool false)], args := [d1, d2, d3] }
  | _ => none }
def FnExactAddSumsWrongFalsely : Prop := fnExactAddSumsRow.holds Try.pinned (OpenSpec.ofChange fnExactAddSumsWrong)

/-- 'laws.FnExactJoinSums': WHATEVER THE INPUT: true; the input reads as it did. -/
def fnExactJoinSumsSpec : ChangeSpec := { name := "fnExactJoinSums", fn := fun _ => fun
  | [d1, d2] => { results := [.lit (.bool true)], args := [d1, d2] }
  | _ => none }
def fnExactJoinSumsRow : OpenClaim := { program := "ytofcldplgkejiaa", sum := "cc38b5b4168eeedbda177960a3dd9534b02fa1c5fdcc142bd9a7219b2292f245", func := "loop.example/g01303/laws.FnExactJoinSums", spec := "fnExactJoinSums", unfollowed := true, recurses := true, plainKeys := false, apart := false }
def FnExactJoinSumsSaid : Prop := fnExactJoinSumsRow.holds Try.pinned (OpenSpec.ofChange fnExactJoinSumsSpec)

/-- ITS FALSE NEIGHBOUR: 'it returns false'. Refute it at one input. -/
def fnExactJoinSumsWrong : ChangeSpec := { name := "fnExactJoinSums", fn := fun _ => fun
  | [d1, d2] => { results := [.lit (.bool false)], args := [d1, d2] }
  | _ => none }
def FnExactJoinSumsWrongFalsely : Prop := fnExactJoinSumsRow.holds Try.pinned (OpenSpec.ofChange fnExactJoinSumsWrong)

/-- 'laws.FnExactCoefficientAt': WHATEVER THE INPUT: true; the input reads as it did. -/
def fnExactCoefficientAtSpec : ChangeSpec := { name := "fnExactCoefficientAt", fn := fun _ => fun
  | [d1, d2] => { results := [.lit (.bool true)], args := [d1, d2] }
  | _ => none }
def fnExactCoefficientAtRow : OpenClaim := { program := "ytofcldplgkejiaa", sum := "cc38b5b4168eeedbda177960a3dd9534b02fa1c5fdcc142bd9a7219b2292f245", func := "loop.example/g01303/laws.FnExactCoefficientAt", spec := "fnExactCoefficientAt", plainKeys := false, apart := false }
def FnExactCoefficientAtSaid : Prop := fnExactCoefficientAtRow.holds Try.pinned (OpenSpec.ofChange fnExactCoefficientAtSpec)

/-- ITS FALSE NEIGHBOUR: 'it returns false'. Refute it at one input. -/
def fnExactCoefficientAtWrong : ChangeSpec := { name := "fnExactCoefficientAt", fn := fun _ => fun
  | [d1, d2] => { results := [.lit (.bool false)], args := [d1, d2] }
  | _ => none }
def FnExactCoefficientAtWrongFalsely : Prop := fnExactCoefficientAtRow.holds Try.pinned (OpenSpec.ofChange fnExactCoefficientAtWrong)

/-- 'laws.FnExactDerivativeOf': WHATEVER THE INPUT: true; the input reads as it did. -/
def fnExactDerivativeOfSpec : ChangeSpec := { name := "fnExactDerivativeOf", fn := fun _ => fun
  | [d] => { results := [.lit (.bool true)], args := [d] }
  | _ => none }
def fnExactDerivativeOfRow : OpenClaim := { program := "ytofcldplgkejiaa", sum := "cc38b5b4168eeedbda177960a3dd9534b02fa1c5fdcc142bd9a7219b2292f245", func := "loop.example/g01303/laws.FnExactDerivativeOf", spec := "fnExactDerivativeOf", unfollowed := true, recurses := true, plainKeys := false, apart := false }
def FnExactDerivativeOfSaid : Prop := fnExactDerivativeOfRow.holds Try.pinned (OpenSpec.ofChange fnExactDerivativeOfSpec)

/-- ITS FALSE NEIGHBOUR: 'it returns false'. Refute it at one input. -/
def fnExactDerivativeOfWrong : ChangeSpec := { name := "fnExactDerivativeOf", fn := fun _ => fun
  | [d] => { results := [.lit (.bool false)], args := [d] }
  | _ => none }
def FnExactDerivativeOfWrongFalsely : Prop := fnExactDerivativeOfRow.holds Try.pinned (OpenSpec.ofChange fnExactDerivativeOfWrong)

/-- 'laws.FnExactCircleSum': WHATEVER THE INPUT: true; the input reads as it did. -/
def fnExactCircleSumSpec : ChangeSpec := { name := "fnExactCircleSum", fn := fun _ => fun
  | [d] => { results := [.lit (.bool true)], args := [d] }
  | _ => none }
def fnExactCircleSumRow : OpenClaim := { program := "ytofcldplgkejiaa", sum := "cc38b5b4168eeedbda177960a3dd9534b02fa1c5fdcc142bd9a7219b2292f245", func := "loop.example/g01303/laws.FnExactCircleSum", spec := "fnExactCircleSum", unfollowed := true, recurses := true, plainKeys := false, apart := false }
def FnExactCircleSumSaid : Prop := fnExactCircleSumRow.holds Try.pinned (OpenSpec.ofChange fnExactCircleSumSpec)

/-- ITS FALSE NEIGHBOUR: 'it returns false'. Refute it at one input. -/
def fnExactCircleSumWrong : ChangeSpec := { name := "fnExactCircleSum", fn := fun _ => fun
  | [d] => { results := [.lit (.bool false)], args := [d] }
  | _ => none }
def FnExactCircleSumWrongFalsely : Prop := fnExactCircleSumRow.holds Try.pinned (OpenSpec.ofChange fnExactCircleSumWrong)

/-- 'laws.FnExactReflectSum': WHATEVER THE INPUT: true; the input reads as it did. -/
def fnExactReflectSumSpec : ChangeSpec := { name := "fnExactReflectSum", fn := fun _ => fun
  | [d] => { results := [.lit (.bool true)], args := [d] }
  | _ => none }
def fnExactReflectSumRow : OpenClaim := { program := "ytofcldplgkejiaa", sum := "cc38b5b4168eeedbda177960a3dd9534b02fa1c5fdcc142bd9a7219b2292f245", func := "loop.example/g01303/laws.FnExactReflectSum", spec := "fnExactReflectSum", unfollowed := true, recurses := true, plainKeys := false, apart := false }
def FnExactReflectSumSaid : Prop := fnExactReflectSumRow.holds Try.pinned (OpenSpec.ofChange fnExactReflectSumSpec)

/-- ITS FALSE NEIGHBOUR: 'it returns false'. Refute it at one input. -/
def fnExactReflectSumWrong : ChangeSpec := { name := "fnExactReflectSum", fn := fun _ => fun
  | [d] => { results := [.lit (.bool false)], args := [d] }
  | _ => none }
def FnExactReflectSumWrongFalsely : Prop := fnExactReflectSumRow.holds Try.pinned (OpenSpec.ofChange fnExactReflectSumWrong)

/-- 'laws.FnExactPartOfSum': WHATEVER THE INPUT: true; the input reads as it did. -/
def fnExactPartOfSumSpec : ChangeSpec := { name := "fnExactPartOfSum", fn := fun _ => fun
  | [d1, d2] => { results := [.lit (.bool true)], args := [d1, d2] }
  | _ => none }
def fnExactPartOfSumRow : OpenClaim := { program := "ytofcldplgkejiaa", sum := "cc38b5b4168eeedbda177960a3dd9534b02fa1c5fdcc142bd9a7219b2292f245", func := "loop.example/g01303/laws.FnExactPartOfSum", spec := "fnExactPartOfSum", unfollowed := true, recurses := true, plainKeys := false, apart := false }
def FnExactPartOfSumSaid : Prop := fnExactPartOfSumRow.holds Try.pinned (OpenSpec.ofChange fnExactPartOfSumSpec)

/-- ITS FALSE NEIGHBOUR: 'it returns false'. Refute it at one input. -/
def fnExactPartOfSumWrong : ChangeSpec := { name := "fnExactPartOfSum", fn := fun _ => fun
  | [d1, d2] => { results := [.lit (.bool false)], args := [d1, d2] }
  | _ => none }
def FnExactPartOfSumWrongFalsely : Prop := fnExactPartOfSumRow.holds Try.pinned (OpenSpec.ofChange fnExactPartOfSumWrong)

/-- 'laws.FnExactRotateSum': WHATEVER THE INPUT: true; the input reads as it did. -/
def fnExactRotateSumSpec : ChangeSpec := { name := "fnExactRotateSum", fn := fun _ => fun
  | [d1, d2] => { results := [.lit (.bool true)], args := [d1, d2] }
  | _ => none }
def fnExactRotateSumRow : OpenClaim := { program := "ytofcldplgkejiaa", sum := "cc38b5b4168eeedbda177960a3dd9534b02fa1c5fdcc142bd9a7219b2292f245", func := "loop.example/g01303/laws.FnExactRotateSum", spec := "fnExactRotateSum", unfollowed := true, recurses := true, plainKeys := false, apart := false }
def FnExactRotateSumSaid : Prop := fnExactRotateSumRow.holds Try.pinned (OpenSpec.ofChange fnExactRotateSumSpec)

/-- ITS FALSE NEIGHBOUR: 'it returns false'. Refute it at one input. -/
def fnExactRotateSumWrong : ChangeSpec := { name := "fnExactRotateSum", fn := fun _ => fun
  | [d1, d2] => { results := [.lit (.bool false)], args := [d1, d2] }
  | _ => none }
def FnExactRotateSumWrongFalsely : Prop := fnExactRotateSumRow.holds Try.pinned (OpenSpec.ofChange fnExactRotateSumWrong)

/-- 'laws.FnExactCoproductOf': WHATEVER THE INPUT: true; the input reads as it did. -/
def fnExactCoproductOfSpec : ChangeSpec := { name := "fnExactCoproductOf", fn := fun _ => fun
  | [d] => { results := [.lit (.bool true)], args := [d] }
  | _ => none }
def fnExactCoproductOfRow : OpenClaim := { program := "ytofcldplgkejiaa", sum := "cc38b5b4168eeedbda177960a3dd9534b02fa1c5fdcc142bd9a7219b2292f245", func := "loop.example/g01303/laws.FnExactCoproductOf", spec := "fnExactCoproductOf", unfollowed := true, recurses := true, plainKeys := false, apart := false }
def FnExactCoproductOfSaid : Prop := fnExactCoproductOfRow.holds Try.pinned (OpenSpec.ofChange fnExactCoproductOfSpec)

/-- ITS FALSE NEIGHBOUR: 'it returns false'. Refute it at one input. -/
def fnExactCoproductOfWrong : ChangeSpec := { name := "fnExactCoproductOf", fn := fun _ => fun
  | [d] => { results := [.lit (.bool false)], args := [d] }
  | _ => none }
def FnExactCoproductOfWrongFalsely : Prop := fnExactCoproductOfRow.holds Try.pinned (OpenSpec.ofChange fnExactCoproductOfWrong)

/-- 'laws.FnExactFourTermSum': WHATEVER THE INPUT: true; the input reads as it did. -/
def fnExactFourTermSumSpec : ChangeSpec := { name := "fnExactFourTermSum", fn := fun _ => fun
  | [d1, d2, d3, d4] => { results := [.lit (.bool true)], args := [d1, d2, d3, d4] }
  | _ => none }
def fnExactFourTermSumRow : OpenClaim := { program := "ytofcldplgkejiaa", sum := "cc38b5b4168eeedbda177960a3dd9534b02fa1c5fdcc142bd9a7219b2292f245", func := "loop.example/g01303/laws.FnExactFourTermSum", spec := "fnExactFourTermSum", unfollowed := true, recurses := true, plainKeys := false, apart := false }
def FnExactFourTermSumSaid : Prop := fnExactFourTermSumRow.holds Try.pinned (OpenSpec.ofChange fnExactFourTermSumSpec)

/-- ITS FALSE NEIGHBOUR: 'it returns false'. Refute it at one input. -/
def fnExactFourTermSumWrong : ChangeSpec := { name := "fnExactFourTermSum", fn := fun _ => fun
  | [d1, d2, d3, d4] => { results := [.lit (.bool false)], args := [d1, d2, d3, d4] }
  | _ => none }
def FnExactFourTermSumWrongFalsely : Prop := fnExactFourTermSumRow.holds Try.pinned (OpenSpec.ofChange fnExactFourTermSumWrong)

/-- 'laws.FnExactNewDesk': WHATEVER THE INPUT: true; the input reads as it did. -/
def fnExactNewDeskSpec : ChangeSpec := { name := "fnExactNewDesk", fn := fun _ => fun
  | [] => { results := [.lit (.bool true)], args := [] }
  | _ => none }
def fnExactNewDeskRow : OpenClaim := { program := "ytofcldplgkejiaa", sum := "cc38b5b4168eeedbda177960a3dd9534b02fa1c5fdcc142bd9a7219b2292f245", func := "loop.example/g01303/laws.FnExactNewDesk", spec := "fnExactNewDesk", plainKeys := false, apart := false }
def FnExactNewDeskSaid : Prop := fnExactNewDeskRow.holds Try.pinned (OpenSpec.ofChange fnExactNewDeskSpec)

/-- ITS FALSE NEIGHBOUR: 'it returns false'. Refute it at one input. -/
def fnExactNewDeskWrong : ChangeSpec := { name := "fnExactNewDesk", fn := fun _ => fun
  | [] => { results := [.lit (.bool false)], args := [] }
  | _ => none }
def FnExactNewDeskWrongFalsely : Prop := fnExactNewDeskRow.holds Try.pinned (OpenSpec.ofChange fnExactNewDeskWrong)

/- THE SECOND FORM. 'bulk': how many values and letters a reading holds, each counted each time it is reached (what is shared counts as often as it is met; a slice's spare places count too). A statement '..UptoSaid' is the law's where the arguments, and the package variables that the reading takes, are together of bulk at most 1048576: NARROWER than '..Said'. Prove '..Said' where nothing that the law and all that it calls make is longer than what came in: it says more and counts as full. Else prove '..UptoSaid'. A law counts once. -/
mutual
def uptoBulk {H : Type} : DataW H → Nat
  | .lit (.string bytes) => bytes.length + 1
  | .lit _ => 1
  | .nil => 1
  | .ptr d => uptoBulk d + 1
  | .slice elems spare => uptoBulkAll elems + uptoBulkAll spare + 1
  | .agg parts => uptoBulkAll parts + 1
  | .iface _ d => uptoBulk d + 1
  | .map entries => uptoBulkEntries entries + 1
  | .held _ => 1
def uptoBulkAll {H : Type} : List (DataW H) → Nat
  | [] => 0
  | d :: r => uptoBulk d + uptoBulkAll r
def uptoBulkEntries {H : Type} : List (Lit × DataW H) → Nat
  | [] => 0
  | x :: r => uptoBulkEntry x + uptoBulkEntries r
def uptoBulkEntry {H : Type} : Lit × DataW H → Nat
  | (.string bytes, d) => bytes.length + uptoBulk d + 1
  | (_, d) => uptoBulk d + 1
 end
def uptoSmall : (H : Type) → List (DataW H) → Bool := fun _ ds => decide (uptoBulkAll ds ≤ 1048576)
def OpenSpec.upto (s : _root_.Go.ChangeSpec) : _root_.Go.OpenSpec := { _root_.Go.OpenSpec.ofChange s with cond := some uptoSmall }

/-- 'laws.FnExactSumOfWord', WHERE WHAT IT READS IS OF BULK AT MOST 1048576: true; the input reads as it did. -/
def fnExactSumOfWordUptoRow : OpenClaim := { program := "ytofcldplgkejiaa", sum := "cc38b5b4168eeedbda177960a3dd9534b02fa1c5fdcc142bd9a7219b2292f245", func := "loop.example/g01303/laws.FnExactSumOfWord", spec := "fnExactSumOfWord", unfollowed := true, recurses := true, plainKeys := false, apart := false, narrowed := true }
def FnExactSumOfWordUptoSaid : Prop := fnExactSumOfWordUptoRow.holds Try.pinned (OpenSpec.upto fnExactSumOfWordSpec)

/-- 'laws.FnExactAddSums', WHERE WHAT IT READS IS OF BULK AT MOST 1048576: true; the input reads as it did. -/
def fnExactAddSumsUptoRow : OpenClaim := { program := "ytofcldplgkejiaa", sum := "cc38b5b4168eeedbda177960a3dd9534b02fa1c5fdcc142bd9a7219b2292f245", func := "loop.example/g01303/laws.FnExactAddSums", spec := "fnExactAddSums", unfollowed := true, recurses := true, plainKeys := false, apart := false, narrowed := true }
def FnExactAddSumsUptoSaid : Prop := fnExactAddSumsUptoRow.holds Try.pinned (OpenSpec.upto fnExactAddSumsSpec)

/-- 'laws.FnExactJoinSums', WHERE WHAT IT READS IS OF BULK AT MOST 1048576: true; the input reads as it did. -/
def fnExactJoinSumsUptoRow : OpenClaim := { program := "ytofcldplgkejiaa", sum := "cc38b5b4168eeedbda177960a3dd9534b02fa1c5fdcc142bd9a7219b2292f245", func := "loop.example/g01303/laws.FnExactJoinSums", spec := "fnExactJoinSums", unfollowed := true, recurses := true, plainKeys := false, apart := false, narrowed := true }
def FnExactJoinSumsUptoSaid : Prop := fnExactJoinSumsUptoRow.holds Try.pinned (OpenSpec.upto fnExactJoinSumsSpec)

/-- 'laws.FnExactCoefficientAt', WHERE WHAT IT READS IS OF BULK AT MOST 1048576: true; the input reads as it did. -/
def fnExactCoefficientAtUptoRow : OpenClaim := { program := "ytofcldplgkejiaa", sum := "cc38b5b4168eeedbda177960a3dd9534b02fa1c5fdcc142bd9a7219b2292f245", func := "loop.example/g01303/laws.FnExactCoefficientAt", spec := "fnExactCoefficientAt", plainKeys := false, apart := false, narrowed := true }
def FnExactCoefficientAtUptoSaid : Prop := fnExactCoefficientAtUptoRow.holds Try.pinned (OpenSpec.upto fnExactCoefficientAtSpec)

/-- 'laws.FnExactDerivativeOf', WHERE WHAT IT READS IS OF BULK AT MOST 1048576: true; the input reads as it did. -/
def fnExactDerivativeOfUptoRow : OpenClaim := { program := "ytofcldplgkejiaa", sum := "cc38b5b4168eeedbda177960a3dd9534b02fa1c5fdcc142bd9a7219b2292f245", func := "loop.example/g01303/laws.FnExactDerivativeOf", spec := "fnExactDerivativeOf", unfollowed := true, recurses := true, plainKeys := false, apart := false, narrowed := true }
def FnExactDerivativeOfUptoSaid : Prop := fnExactDerivativeOfUptoRow.holds Try.pinned (OpenSpec.upto fnExactDerivativeOfSpec)

/-- 'laws.FnExactCircleSum', WHERE WHAT IT READS IS OF BULK AT MOST 1048576: true; the input reads as it did. -/
def fnExactCircleSumUptoRow : OpenClaim := { program := "ytofcldplgkejiaa", sum := "cc38b5b4168eeedbda177960a3dd9534b02fa1c5fdcc142bd9a7219b2292f245", func := "loop.example/g01303/laws.FnExactCircleSum", spec := "fnExactCircleSum", unfollowed := true, recurses := true, plainKeys := false, apart := false, narrowed := true }
def FnExactCircleSumUptoSaid : Prop := fnExactCircleSumUptoRow.holds Try.pinned (OpenSpec.upto fnExactCircleSumSpec)

/-- 'laws.FnExactReflectSum', WHERE WHAT IT READS IS OF BULK AT MOST 1048576: true; the input reads as it did. -/
def fnExactReflectSumUptoRow : OpenClaim := { program := "ytofcldplgkejiaa", sum := "cc38b5b4168eeedbda177960a3dd9534b02fa1c5fdcc142bd9a7219b2292f245", func := "loop.example/g01303/laws.FnExactReflectSum", spec := "fnExactReflectSum", unfollowed := true, recurses := true, plainKeys := false, apart := false, narrowed := true }
def FnExactReflectSumUptoSaid : Prop := fnExactReflectSumUptoRow.holds Try.pinned (OpenSpec.upto fnExactReflectSumSpec)

/-- 'laws.FnExactPartOfSum', WHERE WHAT IT READS IS OF BULK AT MOST 1048576: true; the input reads as it did. -/
def fnExactPartOfSumUptoRow : OpenClaim := { program := "ytofcldplgkejiaa", sum := "cc38b5b4168eeedbda177960a3dd9534b02fa1c5fdcc142bd9a7219b2292f245", func := "loop.example/g01303/laws.FnExactPartOfSum", spec := "fnExactPartOfSum", unfollowed := true, recurses := true, plainKeys := false, apart := false, narrowed := true }
def FnExactPartOfSumUptoSaid : Prop := fnExactPartOfSumUptoRow.holds Try.pinned (OpenSpec.upto fnExactPartOfSumSpec)

/-- 'laws.FnExactRotateSum', WHERE WHAT IT READS IS OF BULK AT MOST 1048576: true; the input reads as it did. -/
def fnExactRotateSumUptoRow : OpenClaim := { program := "ytofcldplgkejiaa", sum := "cc38b5b4168eeedbda177960a3dd9534b02fa1c5fdcc142bd9a7219b2292f245", func := "loop.example/g01303/laws.FnExactRotateSum", spec := "fnExactRotateSum", unfollowed := true, recurses := true, plainKeys := false, apart := false, narrowed := true }
def FnExactRotateSumUptoSaid : Prop := fnExactRotateSumUptoRow.holds Try.pinned (OpenSpec.upto fnExactRotateSumSpec)

/-- 'laws.FnExactCoproductOf', WHERE WHAT IT READS IS OF BULK AT MOST 1048576: true; the input reads as it did. -/
def fnExactCoproductOfUptoRow : OpenClaim := { program := "ytofcldplgkejiaa", sum := "cc38b5b4168eeedbda177960a3dd9534b02fa1c5fdcc142bd9a7219b2292f245", func := "loop.example/g01303/laws.FnExactCoproductOf", spec := "fnExactCoproductOf", unfollowed := true, recurses := true, plainKeys := false, apart := false, narrowed := true }
def FnExactCoproductOfUptoSaid : Prop := fnExactCoproductOfUptoRow.holds Try.pinned (OpenSpec.upto fnExactCoproductOfSpec)

/-- 'laws.FnExactFourTermSum', WHERE WHAT IT READS IS OF BULK AT MOST 1048576: true; the input reads as it did. -/
def fnExactFourTermSumUptoRow : OpenClaim := { program := "ytofcldplgkejiaa", sum := "cc38b5b4168eeedbda177960a3dd9534b02fa1c5fdcc142bd9a7219b2292f245", func := "loop.example/g01303/laws.FnExactFourTermSum", spec := "fnExactFourTermSum", unfollowed := true, recurses := true, plainKeys := false, apart := false, narrowed := true }
def FnExactFourTermSumUptoSaid : Prop := fnExactFourTermSumUptoRow.holds Try.pinned (OpenSpec.upto fnExactFourTermSumSpec)

/-- 'laws.FnExactNewDesk', WHERE WHAT IT READS IS OF BULK AT MOST 1048576: true; the input reads as it did. -/
def fnExactNewDeskUptoRow : OpenClaim := { program := "ytofcldplgkejiaa", sum := "cc38b5b4168eeedbda177960a3dd9534b02fa1c5fdcc142bd9a7219b2292f245", func := "loop.example/g01303/laws.FnExactNewDesk", spec := "fnExactNewDesk", plainKeys := false, apart := false, narrowed := true }
def FnExactNewDeskUptoSaid : Prop := fnExactNewDeskUptoRow.holds Try.pinned (OpenSpec.upto fnExactNewDeskSpec)

end Rows
end Go.Proofs.Ytofcldplgkejiaa
