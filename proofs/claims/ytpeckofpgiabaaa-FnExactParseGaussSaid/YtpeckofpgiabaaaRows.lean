/-
  No cell of these rows narrows 'for every input' (looked for: loops, veiled, ifaces, maps, wideKeys, modest, calm, conditions, laid).
  DERIVED. THE GIVEN ROWS OF THIS SEAT. 6 by the template 'for every input the law returns true; each argument reads behind the call as it read before'; 0 by the template 'total and deterministic' (their statements: YtpeckofpgiabaaaTotals.lean).
  GIVEN WITH THE SEED: the statements are not yours to turn. If you find one false, say at which input.
  Laid BY PROGRAM, IN A SANDBOX (cutbox-rows.mjs): the forced cells as the released guide's own fill.sh prints them over the translation 2de9aed451f19ef8… (all of the seat's roots in one cut). By AI agents, Wed Nov 11 2026. No macro, syntax, notation, axiom, sorry.
-/
import Derived.Test.YtpeckofpgiabaaaChecked
import GoSem.Claim
import GoSem.ClaimJoined
import GoSem.ClaimMapViews
import Derived.JoinedTies
import Derived.KernelRfl
namespace Go.Proofs.Ytpeckofpgiabaaa
/- THE CELL 'sum', in the pinned program and in every row, IS THE sha256 OF THE DUMP (.gsa) THAT YtpeckofpgiabaaaProg.lean LOADS. Nothing in Lean hashes anything: it is a label: what it is worth is what the hold of that sum in a sandbox is worth. -/
noncomputable def Try.pinned : Pinned := { name := "ytpeckofpgiabaaa", sum := "2de9aed451f19ef8269325c57a388002ea277ab6a65f4981820b9d4c49e9f503", checked := Try.checked }
namespace Rows
def none {H : Type} : Left H := { results := [], args := [] }

/-- 'laws.FnExactIsGauss': WHATEVER THE INPUT: true; the input reads as it did. -/
def fnExactIsGaussSpec : ChangeSpec := { name := "fnExactIsGauss", fn := fun _ => fun
  | [d] => { results := [.lit (.bool true)], args := [d] }
  | _ => none }
def fnExactIsGaussRow : OpenClaim := { program := "ytpeckofpgiabaaa", sum := "2de9aed451f19ef8269325c57a388002ea277ab6a65f4981820b9d4c49e9f503", func := "loop.example/g01303/laws.FnExactIsGauss", spec := "fnExactIsGauss", unfollowed := true, recurses := true, apart := false }
def FnExactIsGaussSaid : Prop := fnExactIsGaussRow.holds Try.pinned (OpenSpec.ofChange fnExactIsGaussSpec)

/-- ITS FALSE NEIGHBOUR: 'it returns false'. Refute it at one input. -/
def fnExactIsGaussWrong : ChangeSpec := { name := "fnExactIsGauss", fn := fun _ => fun
  | [d] => { results := [.lit (.bool false)], args := [d] }
  | _ => none }
def FnExactIsGaussWrongFalsely : Prop := fnExactIsGaussRow.holds Try.pinned (OpenSpec.ofChange fnExactIsGaussWrong)

/-- 'laws.FnExactWritheOf': WHATEVER THE INPUT: true; the input reads as it did. -/
def fnExactWritheOfSpec : ChangeSpec := { name := "fnExactWritheOf", fn := fun _ => fun
  | [d] => { results := [.lit (.bool true)], args := [d] }
  | _ => none }
def fnExactWritheOfRow : OpenClaim := { program := "ytpeckofpgiabaaa", sum := "2de9aed451f19ef8269325c57a388002ea277ab6a65f4981820b9d4c49e9f503", func := "loop.example/g01303/laws.FnExactWritheOf", spec := "fnExactWritheOf", unfollowed := true, recurses := true, apart := false }
def FnExactWritheOfSaid : Prop := fnExactWritheOfRow.holds Try.pinned (OpenSpec.ofChange fnExactWritheOfSpec)

/-- ITS FALSE NEIGHBOUR: 'it returns false'. Refute it at one input. -/
def fnExactWritheOfWrong : ChangeSpec := { name := "fnExactWritheOf", fn := fun _ => fun
  | [d] => { results := [.lit (.bool false)], args := [d] }
  | _ => none }
def FnExactWritheOfWrongFalsely : Prop := fnExactWritheOfRow.holds Try.pinned (OpenSpec.ofChange fnExactWritheOfWrong)

/-- 'laws.FnExactCountPattern': WHATEVER THE INPUT: true; the input reads as it did. -/
def fnExactCountPatternSpec : ChangeSpec := { name := "fnExactCountPattern", fn := fun _ => fun
  | [d1, d2] => { results := [.lit (.bool true)], args := [d1, d2] }
  | _ => none }
def fnExactCountPatternRow : OpenClaim := { program := "ytpeckofpgiabaaa", sum := "2de9aed451f19ef8269325c57a388002ea277ab6a65f4981820b9d4c49e9f503", func := "loop.example/g01303/laws.FnExactCountPattern", spec := "fnExactCountPattern", unfollowed := true, recurses := true, apart := false }
def FnExactCountPatternSaid : Prop := fnExactCountPatternRow.holds Try.pinned (OpenSpec.ofChange fnExactCountPatternSpec)

/-- ITS FALSE NEIGHBOUR: 'it returns false'. Refute it at one input. -/
def fnExactCountPatternWrong : ChangeSpec := { name := "fnExactCountPattern", fn := fun _ => fun
  | [d1, d2] => { results := [.lit (.bool false)], args := [d1, d2] }
  | _ => none }
def FnExactCountPatternWrongFalsely : Prop := fnExactCountPatternRow.holds Try.pinned (OpenSpec.ofChange fnExactCountPatternWrong)

/-- 'laws.FnExactSecondNumber': WHATEVER THE INPUT: true; the input reads as it did. -/
def fnExactSecondNumberSpec : ChangeSpec := { name := "fnExactSecondNumber", fn := fun _ => fun
  | [d] => { results := [.lit (.bool true)], args := [d] }
  | _ => none }
def fnExactSecondNumberRow : OpenClaim := { program := "ytpeckofpgiabaaa", sum := "2de9aed451f19ef8269325c57a388002ea277ab6a65f4981820b9d4c49e9f503", func := "loop.example/g01303/laws.FnExactSecondNumber", spec := "fnExactSecondNumber", unfollowed := true, recurses := true, apart := false }
def FnExactSecondNumberSaid : Prop := fnExactSecondNumberRow.holds Try.pinned (OpenSpec.ofChange fnExactSecondNumberSpec)

/-- ITS FALSE NEIGHBOUR: 'it returns false'. Refute it at one input. -/
def fnExactSecondNumberWrong : ChangeSpec := { name := "fnExactSecondNumber", fn := fun _ => fun
  | [d] => { results := [.lit (.bool false)], args := [d] }
  | _ => none }
def FnExactSecondNumberWrongFalsely : Prop := fnExactSecondNumberRow.holds Try.pinned (OpenSpec.ofChange fnExactSecondNumberWrong)

/-- 'laws.FnExactGaussText': WHATEVER THE INPUT: true; the input reads as it did. -/
def fnExactGaussTextSpec : ChangeSpec := { name := "fnExactGaussText", fn := fun _ => fun
  | [d] => { results := [.lit (.bool true)], args := [d] }
  | _ => none }
def fnExactGaussTextRow : OpenClaim := { program := "ytpeckofpgiabaaa", sum := "2de9aed451f19ef8269325c57a388002ea277ab6a65f4981820b9d4c49e9f503", func := "loop.example/g01303/laws.FnExactGaussText", spec := "fnExactGaussText", inPlace := ["internal/abi.NoEscape"], unfollowed := true, recurses := true, apart := false }
def FnExactGaussTextSaid : Prop := fnExactGaussTextRow.holds Try.pinned (OpenSpec.ofChange fnExactGaussTextSpec)

/-- ITS FALSE NEIGHBOUR: 'it returns false'. Refute it at one input. -/
def fnExactGaussTextWrong : ChangeSpec := { name := "fnExactGaussText", fn := fun _ => fun
  | [d] => { results := [.lit (.bool false)], args := [d] }
  | _ => none }
def FnExactGaussTextWrongFalsely : Prop := fnExactGaussTextRow.holds Try.pinned (OpenSpec.ofChange fnExactGaussTextWrong)

/-- 'laws.FnExactParseGauss': WHATEVER THE INPUT: true; the input reads as it did. -/
def fnExactParseGaussSpec : ChangeSpec := { name := "fnExactParseGauss", fn := fun _ => fun
  | [d] => { results := [.lit (.bool true)], args := [d] }
  | _ => none }
def fnExactParseGaussRow : OpenClaim := { program := "ytpeckofpgiabaaa", sum := "2de9aed451f19ef8269325c57a388002ea277ab6a65f4981820b9d4c49e9f503", func := "loop.example/g01303/laws.FnExactParseGauss", spec := "fnExactParseGauss", inPlace := ["internal/abi.NoEscape"], unfollowed := true, recurses := true, apart := false }
def FnExactParseGaussSaid : Prop := fnExactParseGaussRow.holds Try.pinned (OpenSpec.ofChange fnExactParseGaussSpec)

/-- ITS FALSE NEIGHBOUR: 'it returns false'. Refute it at one input. -/
def fnExactParseGaussWrong : ChangeSpec := { name := "fnExactParseGauss", fn := fun _ => fun
  | [d] => { results := [.lit (.bool false)], args := [d] }
  | _ => none }
def FnExactParseGaussWrongFalsely : Prop := fnExactParseGaussRow.holds Try.pinned (OpenSpec.ofChange fnExactParseGaussWrong)

/- THE SECOND FORM. 'bulk': how many values and letters a reading holds, each counted each time it is reached (what is shared counts as often as it is met; a slice's spare places count too). A statement '..UptoSaid' is the law's where the arguments, and the package variables that the reading takes, are together of bulk at most 1048576: NARROWER than '..Said'. Prove '..Said' where nothing that the law and all that it calls make is longer than what came in: it says more and counts as full. Else prove '..UptoSaid'. A law counts once. -/
mutual
def uptoBulk {H : Type} : DataW H → Nat
  | .lit (.string bytes) => bytes.length + 1
  | .lit _ => 1
  | .nil => 1
  | .ptr d => uptoBulk d + 1
  | .slice elems spare => uptoBulkAll elems + uptoBulkAll spare + 1
  | .agg parts => uptoBulkAll parts + 1
  | .iface _ d => uptoBulk d + 1
  | .map entries => uptoBulkEntries entries + 1
  | .held _ => 1
def uptoBulkAll {H : Type} : List (DataW H) → Nat
  | [] => 0
  | d :: r => uptoBulk d + uptoBulkAll r
def uptoBulkEntries {H : Type} : List (Lit × DataW H) → Nat
  | [] => 0
  | x :: r => uptoBulkEntry x + uptoBulkEntries r
def uptoBulkEntry {H : Type} : Lit × DataW H → Nat
  | (.string bytes, d) => bytes.length + uptoBulk d + 1
  | (_, d) => uptoBulk d + 1
 end
def uptoSmall : (H : Type) → List (DataW H) → Bool := fun _ ds => decide (uptoBulkAll ds ≤ 1048576)
def OpenSpec.upto (s : _root_.Go.ChangeSpec) : _root_.Go.OpenSpec := { _root_.Go.OpenSpec.ofChange s with cond := some uptoSmall }

/-- 'laws.FnExactIsGauss', WHERE WHAT IT READS IS OF BULK AT MOST 1048576: true; the input reads as it did. -/
def fnExactIsGaussUptoRow : OpenClaim := { program := "ytpeckofpgiabaaa", sum := "2de9aed451f19ef8269325c57a388002ea277ab6a65f4981820b9d4c49e9f503", func := "loop.example/g01303/laws.FnExactIsGauss", spec := "fnExactIsGauss", unfollowed := true, recurses := true, apart := false, narrowed := true }
def FnExactIsGaussUptoSaid : Prop := fnExactIsGaussUptoRow.holds Try.pinned (OpenSpec.upto fnExactIsGaussSpec)

/-- 'laws.FnExactWritheOf', WHERE WHAT IT READS IS OF BULK AT MOST 1048576: true; the input reads as it did. -/
def fnExactWritheOfUptoRow : OpenClaim := { program := "ytpeckofpgiabaaa", sum := "2de9aed451f19ef8269325c57a388002ea277ab6a65f4981820b9d4c49e9f503", func := "loop.example/g01303/laws.FnExactWritheOf", spec := "fnExactWritheOf", unfollowed := true, recurses := true, apart := false, narrowed := true }
def FnExactWritheOfUptoSaid : Prop := fnExactWritheOfUptoRow.holds Try.pinned (OpenSpec.upto fnExactWritheOfSpec)

/-- 'laws.FnExactCountPattern', WHERE WHAT IT READS IS OF BULK AT MOST 1048576: true; the input reads as it did. -/
def fnExactCountPatternUptoRow : OpenClaim := { program := "ytpeckofpgiabaaa", sum := "2de9aed451f19ef8269325c57a388002ea277ab6a65f4981820b9d4c49e9f503", func := "loop.example/g01303/laws.FnExactCountPattern", spec := "fnExactCountPattern", unfollowed := true, recurses := true, apart := false, narrowed := true }
def FnExactCountPatternUptoSaid : Prop := fnExactCountPatternUptoRow.holds Try.pinned (OpenSpec.upto fnExactCountPatternSpec)

/-- 'laws.FnExactSecondNumber', WHERE WHAT IT READS IS OF BULK AT MOST 1048576: true; the input reads as it did. -/
def fnExactSecondNumberUptoRow : OpenClaim := { program := "ytpeckofpgiabaaa", sum := "2de9aed451f19ef8269325c57a388002ea277ab6a65f4981820b9d4c49e9f503", func := "loop.example/g01303/laws.FnExactSecondNumber", spec := "fnExactSecondNumber", unfollowed := true, recurses := true, apart := false, narrowed := true }
def FnExactSecondNumberUptoSaid : Prop := fnExactSecondNumberUptoRow.holds Try.pinned (OpenSpec.upto fnExactSecondNumberSpec)

/-- 'laws.FnExactGaussText', WHERE WHAT IT READS IS OF BULK AT MOST 1048576: true; the input reads as it did. -/
def fnExactGaussTextUptoRow : OpenClaim := { program := "ytpeckofpgiabaaa", sum := "2de9aed451f19ef8269325c57a388002ea277ab6a65f4981820b9d4c49e9f503", func := "loop.example/g01303/laws.FnExactGaussText", spec := "fnExactGaussText", inPlace := ["internal/abi.NoEscape"], unfollowed := true, recurses := true, apart := false, narrowed := true }
def FnExactGaussTextUptoSaid : Prop := fnExactGaussTextUptoRow.holds Try.pinned (OpenSpec.upto fnExactGaussTextSpec)

/-- 'laws.FnExactParseGauss', WHERE WHAT IT READS IS OF BULK AT MOST 1048576: true; the input reads as it did. -/
def fnExactParseGaussUptoRow : OpenClaim := { program := "ytpeckofpgiabaaa", sum := "2de9aed451f19ef8269325c57a388002ea277ab6a65f4981820b9d4c49e9f503", func := "loop.example/g01303/laws.FnExactParseGauss", spec := "fnExactParseGauss", inPlace := ["internal/abi.NoEscape"], unfollowed := true, recurses := true, apart := false, narrowed := true }
def FnExactParseGaussUptoSaid : Prop := fnExactParseGaussUptoRow.holds Try.pinned (OpenSpec.upto fnExactParseGaussSpec)

end Rows
end Go.Proofs.Ytpeckofpgiabaaa
