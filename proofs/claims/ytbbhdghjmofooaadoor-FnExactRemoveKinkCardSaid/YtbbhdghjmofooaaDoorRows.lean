/-
  NARROWER THAN 'FOR EVERY INPUT', by the rows' own cells (each row's printed sentence says how): FnExactReverseGauss: laid · FnExactMirrorGauss: laid · FnExactSwitchChord: laid · FnExactRotateGauss: laid · FnExactAddKink: laid · FnExactRemoveKink: laid.
  DERIVED. THE GIVEN ROWS OF THIS SEAT. 6 by the template 'for every input the law returns true; each argument reads behind the call as it read before'; 0 by the template 'total and deterministic' (their statements: YtbbhdghjmofooaaDoorTotals.lean).
  GIVEN WITH THE SEED: the statements are not yours to turn. If you find one false, say at which input.
  Laid BY PROGRAM, IN A SANDBOX (cutbox-rows.mjs): the forced cells as the released guide's own fill.sh prints them over the translation d3b9c9b297b5f557… (all of the seat's roots in one cut). By AI agents, Wed Nov 11 2026. No macro, syntax, notation, axiom, sorry.
-/
import Derived.Test.YtbbhdghjmofooaaDoorChecked
import GoSem.Claim
import GoSem.ClaimJoined
import GoSem.ClaimMapViews
import Derived.JoinedTies
import Derived.KernelRfl
namespace Go.Proofs.YtbbhdghjmofooaaDoor
/- THE CELL 'sum', in the pinned program and in every row, IS THE sha256 OF THE DUMP (.gsa) THAT YtbbhdghjmofooaaDoorProg.lean LOADS. Nothing in Lean hashes anything: it is a label: what it is worth is what the hold of that sum in a sandbox is worth. -/
noncomputable def Tryd.pinned : Pinned := { name := "ytbbhdghjmofooaadoor", sum := "d3b9c9b297b5f557fda7e79440546515a622a19983270afd59e245f0ef513a76", checked := Tryd.checked }
namespace Rows
def none {H : Type} : Left H := { results := [], args := [] }

/- WHAT THE LISTED PACKAGE-LEVEL VARIABLES READ AS WHEN THE CALL BEGINS. Each datum BY PROGRAM (the guide's laid-datum.mjs) off the statement by which the dump's own 'gosem.cut.vars' lays the variable. In a bare row this is a premise. The card (YtbbhdghjmofooaaDoorCards.lean) ties it to the program's text. -/
def laid_errors_errorType {H : Type} : DataW H := .iface "internal/reflectlite.rtype" (.agg [.ptr (.lit (.string [101, 114, 114, 111, 114]))])

/-- 'laws.FnExactReverseGauss': WHATEVER THE INPUT: true; the input reads as it did. -/
def fnExactReverseGaussSpec : ChangeSpec := { name := "fnExactReverseGauss", fn := fun _ => fun
  | [d] => { results := [.lit (.bool true)], args := [d] }
  | _ => none }
def fnExactReverseGaussRow : OpenClaim := { program := "ytbbhdghjmofooaadoor", sum := "d3b9c9b297b5f557fda7e79440546515a622a19983270afd59e245f0ef513a76", func := "loop.example/g01303/laws.FnExactReverseGauss", spec := "fnExactReverseGauss", inPlace := ["internal/reflectlite.ValueOf", "(internal/reflectlite.Value).Type", "(internal/reflectlite.Value).IsNil", "internal/reflectlite.TypeOf", "(internal/reflectlite.Value).Elem", "(internal/reflectlite.Value).Set"], unfollowed := true, recurses := true, named := ["errors.errorType"], apart := false, laid := [("errors.errorType", laid_errors_errorType)] }
def FnExactReverseGaussSaid : Prop := fnExactReverseGaussRow.holds Tryd.pinned (OpenSpec.ofChange fnExactReverseGaussSpec)

/-- ITS FALSE NEIGHBOUR: 'it returns false'. Refute it at one input. -/
def fnExactReverseGaussWrong : ChangeSpec := { name := "fnExactReverseGauss", fn := fun _ => fun
  | [d] => { results := [.lit (.bool false)], args := [d] }
  | _ => none }
def FnExactReverseGaussWrongFalsely : Prop := fnExactReverseGaussRow.holds Tryd.pinned (OpenSpec.ofChange fnExactReverseGaussWrong)

/-- 'laws.FnExactMirrorGauss': WHATEVER THE INPUT: true; the input reads as it did. -/
def fnExactMirrorGaussSpec : ChangeSpec := { name := "fnExactMirrorGauss", fn := fun _ => fun
  | [d] => { results := [.lit (.bool true)], args := [d] }
  | _ => none }
def fnExactMirrorGaussRow : OpenClaim := { program := "ytbbhdghjmofooaadoor", sum := "d3b9c9b297b5f557fda7e79440546515a622a19983270afd59e245f0ef513a76", func := "loop.example/g01303/laws.FnExactMirrorGauss", spec := "fnExactMirrorGauss", inPlace := ["internal/reflectlite.ValueOf", "(internal/reflectlite.Value).Type", "(internal/reflectlite.Value).IsNil", "internal/reflectlite.TypeOf", "(internal/reflectlite.Value).Elem", "(internal/reflectlite.Value).Set"], unfollowed := true, recurses := true, named := ["errors.errorType"], apart := false, laid := [("errors.errorType", laid_errors_errorType)] }
def FnExactMirrorGaussSaid : Prop := fnExactMirrorGaussRow.holds Tryd.pinned (OpenSpec.ofChange fnExactMirrorGaussSpec)

/-- ITS FALSE NEIGHBOUR: 'it returns false'. Refute it at one input. -/
def fnExactMirrorGaussWrong : ChangeSpec := { name := "fnExactMirrorGauss", fn := fun _ => fun
  | [d] => { results := [.lit (.bool false)], args := [d] }
  | _ => none }
def FnExactMirrorGaussWrongFalsely : Prop := fnExactMirrorGaussRow.holds Tryd.pinned (OpenSpec.ofChange fnExactMirrorGaussWrong)

/-- 'laws.FnExactSwitchChord': WHATEVER THE INPUT: true; the input reads as it did. -/
def fnExactSwitchChordSpec : ChangeSpec := { name := "fnExactSwitchChord", fn := fun _ => fun
  | [d1, d2] => { results := [.lit (.bool true)], args := [d1, d2] }
  | _ => none }
def fnExactSwitchChordRow : OpenClaim := { program := "ytbbhdghjmofooaadoor", sum := "d3b9c9b297b5f557fda7e79440546515a622a19983270afd59e245f0ef513a76", func := "loop.example/g01303/laws.FnExactSwitchChord", spec := "fnExactSwitchChord", inPlace := ["internal/reflectlite.ValueOf", "(internal/reflectlite.Value).Type", "(internal/reflectlite.Value).IsNil", "internal/reflectlite.TypeOf", "(internal/reflectlite.Value).Elem", "(internal/reflectlite.Value).Set"], unfollowed := true, recurses := true, named := ["errors.errorType"], apart := false, laid := [("errors.errorType", laid_errors_errorType)] }
def FnExactSwitchChordSaid : Prop := fnExactSwitchChordRow.holds Tryd.pinned (OpenSpec.ofChange fnExactSwitchChordSpec)

/-- ITS FALSE NEIGHBOUR: 'it returns false'. Refute it at one input. -/
def fnExactSwitchChordWrong : ChangeSpec := { name := "fnExactSwitchChord", fn := fun _ => fun
  | [d1, d2] => { results := [.lit (.bool false)], args := [d1, d2] }
  | _ => none }
def FnExactSwitchChordWrongFalsely : Prop := fnExactSwitchChordRow.holds Tryd.pinned (OpenSpec.ofChange fnExactSwitchChordWrong)

/-- 'laws.FnExactRotateGauss': WHATEVER THE INPUT: true; the input reads as it did. -/
def fnExactRotateGaussSpec : ChangeSpec := { name := "fnExactRotateGauss", fn := fun _ => fun
  | [d1, d2] => { results := [.lit (.bool true)], args := [d1, d2] }
  | _ => none }
def fnExactRotateGaussRow : OpenClaim := { program := "ytbbhdghjmofooaadoor", sum := "d3b9c9b297b5f557fda7e79440546515a622a19983270afd59e245f0ef513a76", func := "loop.example/g01303/laws.FnExactRotateGauss", spec := "fnExactRotateGauss", inPlace := ["internal/reflectlite.ValueOf", "(internal/reflectlite.Value).Type", "(internal/reflectlite.Value).IsNil", "internal/reflectlite.TypeOf", "(internal/reflectlite.Value).Elem", "(internal/reflectlite.Value).Set"], unfollowed := true, recurses := true, named := ["errors.errorType"], apart := false, laid := [("errors.errorType", laid_errors_errorType)] }
def FnExactRotateGaussSaid : Prop := fnExactRotateGaussRow.holds Tryd.pinned (OpenSpec.ofChange fnExactRotateGaussSpec)

/-- ITS FALSE NEIGHBOUR: 'it returns false'. Refute it at one input. -/
def fnExactRotateGaussWrong : ChangeSpec := { name := "fnExactRotateGauss", fn := fun _ => fun
  | [d1, d2] => { results := [.lit (.bool false)], args := [d1, d2] }
  | _ => none }
def FnExactRotateGaussWrongFalsely : Prop := fnExactRotateGaussRow.holds Tryd.pinned (OpenSpec.ofChange fnExactRotateGaussWrong)

/-- 'laws.FnExactAddKink': WHATEVER THE INPUT: true; the input reads as it did. -/
def fnExactAddKinkSpec : ChangeSpec := { name := "fnExactAddKink", fn := fun _ => fun
  | [d1, d2, d3, d4] => { results := [.lit (.bool true)], args := [d1, d2, d3, d4] }
  | _ => none }
def fnExactAddKinkRow : OpenClaim := { program := "ytbbhdghjmofooaadoor", sum := "d3b9c9b297b5f557fda7e79440546515a622a19983270afd59e245f0ef513a76", func := "loop.example/g01303/laws.FnExactAddKink", spec := "fnExactAddKink", inPlace := ["internal/reflectlite.ValueOf", "(internal/reflectlite.Value).Type", "(internal/reflectlite.Value).IsNil", "internal/reflectlite.TypeOf", "(internal/reflectlite.Value).Elem", "(internal/reflectlite.Value).Set"], unfollowed := true, recurses := true, named := ["errors.errorType"], apart := false, laid := [("errors.errorType", laid_errors_errorType)] }
def FnExactAddKinkSaid : Prop := fnExactAddKinkRow.holds Tryd.pinned (OpenSpec.ofChange fnExactAddKinkSpec)

/-- ITS FALSE NEIGHBOUR: 'it returns false'. Refute it at one input. -/
def fnExactAddKinkWrong : ChangeSpec := { name := "fnExactAddKink", fn := fun _ => fun
  | [d1, d2, d3, d4] => { results := [.lit (.bool false)], args := [d1, d2, d3, d4] }
  | _ => none }
def FnExactAddKinkWrongFalsely : Prop := fnExactAddKinkRow.holds Tryd.pinned (OpenSpec.ofChange fnExactAddKinkWrong)

/-- 'laws.FnExactRemoveKink': WHATEVER THE INPUT: true; the input reads as it did. -/
def fnExactRemoveKinkSpec : ChangeSpec := { name := "fnExactRemoveKink", fn := fun _ => fun
  | [d1, d2] => { results := [.lit (.bool true)], args := [d1, d2] }
  | _ => none }
def fnExactRemoveKinkRow : OpenClaim := { program := "ytbbhdghjmofooaadoor", sum := "d3b9c9b297b5f557fda7e79440546515a622a19983270afd59e245f0ef513a76", func := "loop.example/g01303/laws.FnExactRemoveKink", spec := "fnExactRemoveKink", inPlace := ["internal/reflectlite.ValueOf", "(internal/reflectlite.Value).Type", "(internal/reflectlite.Value).IsNil", "internal/reflectlite.TypeOf", "(internal/reflectlite.Value).Elem", "(internal/reflectlite.Value).Set"], unfollowed := true, recurses := true, named := ["errors.errorType"], apart := false, laid := [("errors.errorType", laid_errors_errorType)] }
def FnExactRemoveKinkSaid : Prop := fnExactRemoveKinkRow.holds Tryd.pinned (OpenSpec.ofChange fnExactRemoveKinkSpec)

/-- ITS FALSE NEIGHBOUR: 'it returns false'. Refute it at one input. -/
def fnExactRemoveKinkWrong : ChangeSpec := { name := "fnExactRemoveKink", fn := fun _ => fun
  | [d1, d2] => { results := [.lit (.bool false)], args := [d1, d2] }
  | _ => none }
def FnExactRemoveKinkWrongFalsely : Prop := fnExactRemoveKinkRow.holds Tryd.pinned (OpenSpec.ofChange fnExactRemoveKinkWrong)

/- THE SECOND FORM. 'bulk': how many values and letters a reading holds, each counted each time it is reached (what is shared counts as often as it is met; a slice's spare places count too). A statement '..UptoSaid' is the law's where the arguments, and the package variables that the reading takes, are together of bulk at most 1048576: NARROWER than '..Said'. Prove '..Said' where nothing that the law and all that it calls make is longer than what came in: it says more and counts as full. Else prove '..UptoSaid'. A law counts once. -/
mutual
def uptoBulk {H : Type} : DataW H → Nat
  | .lit (.string bytes) => bytes.length + 1
  | .lit _ => 1
  | .nil => 1
  | .ptr d => uptoBulk d + 1
  | .slice elems spare => uptoBulkAll elems + uptoBulkAll spare + 1
  | .agg parts => uptoBulkAll parts + 1
  | .iface _ d => uptoBulk d + 1
  | .map entries => uptoBulkEntries entries + 1
  | .held _ => 1
def uptoBulkAll {H : Type} : List (DataW H) → Nat
  | [] => 0
  | d :: r => uptoBulk d + uptoBulkAll r
def uptoBulkEntries {H : Type} : List (Lit × DataW H) → Nat
  | [] => 0
  | x :: r => uptoBulkEntry x + uptoBulkEntries r
def uptoBulkEntry {H : Type} : Lit × DataW H → Nat
  | (.string bytes, d) => bytes.length + uptoBulk d + 1
  | (_, d) => uptoBulk d + 1
 end
def uptoSmall : (H : Type) → List (DataW H) → Bool := fun _ ds => decide (uptoBulkAll ds ≤ 1048576)
def OpenSpec.upto (s : _root_.Go.ChangeSpec) : _root_.Go.OpenSpec := { _root_.Go.OpenSpec.ofChange s with cond := some uptoSmall }

/-- 'laws.FnExactReverseGauss', WHERE WHAT IT READS IS OF BULK AT MOST 1048576: true; the input reads as it did. -/
def fnExactReverseGaussUptoRow : OpenClaim := { program := "ytbbhdghjmofooaadoor", sum := "d3b9c9b297b5f557fda7e79440546515a622a19983270afd59e245f0ef513a76", func := "loop.example/g01303/laws.FnExactReverseGauss", spec := "fnExactReverseGauss", inPlace := ["internal/reflectlite.ValueOf", "(internal/reflectlite.Value).Type", "(internal/reflectlite.Value).IsNil", "internal/reflectlite.TypeOf", "(internal/reflectlite.Value).Elem", "(internal/reflectlite.Value).Set"], unfollowed := true, recurses := true, named := ["errors.errorType"], apart := false, laid := [("errors.errorType", laid_errors_errorType)], narrowed := true }
def FnExactReverseGaussUptoSaid : Prop := fnExactReverseGaussUptoRow.holds Tryd.pinned (OpenSpec.upto fnExactReverseGaussSpec)

/-- 'laws.FnExactMirrorGauss', WHERE WHAT IT READS IS OF BULK AT MOST 1048576: true; the input reads as it did. -/
def fnExactMirrorGaussUptoRow : OpenClaim := { program := "ytbbhdghjmofooaadoor", sum := "d3b9c9b297b5f557fda7e79440546515a622a19983270afd59e245f0ef513a76", func := "loop.example/g01303/laws.FnExactMirrorGauss", spec := "fnExactMirrorGauss", inPlace := ["internal/reflectlite.ValueOf", "(internal/reflectlite.Value).Type", "(internal/reflectlite.Value).IsNil", "internal/reflectlite.TypeOf", "(internal/reflectlite.Value).Elem", "(internal/reflectlite.Value).Set"], unfollowed := true, recurses := true, named := ["errors.errorType"], apart := false, laid := [("errors.errorType", laid_errors_errorType)], narrowed := true }
def FnExactMirrorGaussUptoSaid : Prop := fnExactMirrorGaussUptoRow.holds Tryd.pinned (OpenSpec.upto fnExactMirrorGaussSpec)

/-- 'laws.FnExactSwitchChord', WHERE WHAT IT READS IS OF BULK AT MOST 1048576: true; the input reads as it did. -/
def fnExactSwitchChordUptoRow : OpenClaim := { program := "ytbbhdghjmofooaadoor", sum := "d3b9c9b297b5f557fda7e79440546515a622a19983270afd59e245f0ef513a76", func := "loop.example/g01303/laws.FnExactSwitchChord", spec := "fnExactSwitchChord", inPlace := ["internal/reflectlite.ValueOf", "(internal/reflectlite.Value).Type", "(internal/reflectlite.Value).IsNil", "internal/reflectlite.TypeOf", "(internal/reflectlite.Value).Elem", "(internal/reflectlite.Value).Set"], unfollowed := true, recurses := true, named := ["errors.errorType"], apart := false, laid := [("errors.errorType", laid_errors_errorType)], narrowed := true }
def FnExactSwitchChordUptoSaid : Prop := fnExactSwitchChordUptoRow.holds Tryd.pinned (OpenSpec.upto fnExactSwitchChordSpec)

/-- 'laws.FnExactRotateGauss', WHERE WHAT IT READS IS OF BULK AT MOST 1048576: true; the input reads as it did. -/
def fnExactRotateGaussUptoRow : OpenClaim := { program := "ytbbhdghjmofooaadoor", sum := "d3b9c9b297b5f557fda7e79440546515a622a19983270afd59e245f0ef513a76", func := "loop.example/g01303/laws.FnExactRotateGauss", spec := "fnExactRotateGauss", inPlace := ["internal/reflectlite.ValueOf", "(internal/reflectlite.Value).Type", "(internal/reflectlite.Value).IsNil", "internal/reflectlite.TypeOf", "(internal/reflectlite.Value).Elem", "(internal/reflectlite.Value).Set"], unfollowed := true, recurses := true, named := ["errors.errorType"], apart := false, laid := [("errors.errorType", laid_errors_errorType)], narrowed := true }
def FnExactRotateGaussUptoSaid : Prop := fnExactRotateGaussUptoRow.holds Tryd.pinned (OpenSpec.upto fnExactRotateGaussSpec)

/-- 'laws.FnExactAddKink', WHERE WHAT IT READS IS OF BULK AT MOST 1048576: true; the input reads as it did. -/
def fnExactAddKinkUptoRow : OpenClaim := { program := "ytbbhdghjmofooaadoor", sum := "d3b9c9b297b5f557fda7e79440546515a622a19983270afd59e245f0ef513a76", func := "loop.example/g01303/laws.FnExactAddKink", spec := "fnExactAddKink", inPlace := ["internal/reflectlite.ValueOf", "(internal/reflectlite.Value).Type", "(internal/reflectlite.Value).IsNil", "internal/reflectlite.TypeOf", "(internal/reflectlite.Value).Elem", "(internal/reflectlite.Value).Set"], unfollowed := true, recurses := true, named := ["errors.errorType"], apart := false, laid := [("errors.errorType", laid_errors_errorType)], narrowed := true }
def FnExactAddKinkUptoSaid : Prop := fnExactAddKinkUptoRow.holds Tryd.pinned (OpenSpec.upto fnExactAddKinkSpec)

/-- 'laws.FnExactRemoveKink', WHERE WHAT IT READS IS OF BULK AT MOST 1048576: true; the input reads as it did. -/
def fnExactRemoveKinkUptoRow : OpenClaim := { program := "ytbbhdghjmofooaadoor", sum := "d3b9c9b297b5f557fda7e79440546515a622a19983270afd59e245f0ef513a76", func := "loop.example/g01303/laws.FnExactRemoveKink", spec := "fnExactRemoveKink", inPlace := ["internal/reflectlite.ValueOf", "(internal/reflectlite.Value).Type", "(internal/reflectlite.Value).IsNil", "internal/reflectlite.TypeOf", "(internal/reflectlite.Value).Elem", "(internal/reflectlite.Value).Set"], unfollowed := true, recurses := true, named := ["errors.errorType"], apart := false, laid := [("errors.errorType", laid_errors_errorType)], narrowed := true }
def FnExactRemoveKinkUptoSaid : Prop := fnExactRemoveKinkUptoRow.holds Tryd.pinned (OpenSpec.upto fnExactRemoveKinkSpec)

end Rows
end Go.Proofs.YtbbhdghjmofooaaDoor
