/-
  NARROWER THAN 'FOR EVERY INPUT', by the rows' own cells (each row's printed sentence says how): FnExactPartsOfWeb: ifaces, laid · FnExactLoopsOfWeb: ifaces, laid · FnExactThreeWebs: ifaces, laid.
  DERIVED. THE GIVEN ROWS OF THIS SEAT. 3 by the template 'for every input the law returns true; each argument reads behind the call as it read before'; 0 by the template 'total and deterministic' (their statements: YthpddknpiiiccaaDoorTotals.lean).
  GIVEN WITH THE SEED: the statements are not yours to turn. If you find one false, say at which input.
  Laid BY PROGRAM, IN A SANDBOX (cutbox-rows.mjs): the forced cells as the released guide's own fill.sh prints them over the translation dc52212d5a8dcd76… (all of the seat's roots in one cut). By AI agents, Wed Nov 11 2026. No macro, syntax, notation, axiom, sorry.
-/
import Derived.Test.YthpddknpiiiccaaDoorChecked
import GoSem.Claim
import GoSem.ClaimJoined
import GoSem.ClaimMapViews
import Derived.JoinedTies
import Derived.KernelRfl
namespace Go.Proofs.YthpddknpiiiccaaDoor
/- THE CELL 'sum', in the pinned program and in every row, IS THE sha256 OF THE DUMP (.gsa) THAT YthpddknpiiiccaaDoorProg.lean LOADS. Nothing in Lean hashes anything: it is a label: what it is worth is what the hold of that sum in a sandbox is worth. -/
noncomputable def Tryd.pinned : Pinned := { name := "ythpddknpiiiccaadoor", sum := "dc52212d5a8dcd7614545727506db1cef61a257f07396e56db43e7fd8cc9fda2", checked := Tryd.checked }
namespace Rows
def none {H : Type} : Left H := { results := [], args := [] }

/- WHAT THE LISTED PACKAGE-LEVEL VARIABLES READ AS WHEN THE CALL BEGINS. Each datum BY PROGRAM (the guide's laid-datum.mjs) off the statement by which the dump's own 'gosem.cut.vars' lays the variable. In a bare row this is a premise. The card (YthpddknpiiiccaaDoorCards.lean) ties it to the program's text. -/
def laid_loop_example_g01303_impl_errNoWeb {H : Type} : DataW H := .iface "*errors.errorString" (.ptr (.agg [.lit (.string [110, 111, 32, 119, 101, 98])]))

/-- 'laws.FnExactPartsOfWeb': WHATEVER THE INPUT: true; the input reads as it did. -/
def fnExactPartsOfWebSpec : ChangeSpec := { name := "fnExactPartsOfWeb", vars := ["loop.example/g01303/impl.errNoWeb"], fn := fun _ => fun
  | [d, g1] => { results := [.lit (.bool true)], args := [d], vars := [g1] }
  | _ => none }
def fnExactPartsOfWebRow : OpenClaim := { program := "ythpddknpiiiccaadoor", sum := "dc52212d5a8dcd7614545727506db1cef61a257f07396e56db43e7fd8cc9fda2", func := "loop.example/g01303/laws.FnExactPartsOfWeb", spec := "fnExactPartsOfWeb", unfollowed := true, recurses := true, named := ["loop.example/g01303/impl.errNoWeb"], ifaces := true, apart := false, laid := [("loop.example/g01303/impl.errNoWeb", laid_loop_example_g01303_impl_errNoWeb)] }
def FnExactPartsOfWebSaid : Prop := fnExactPartsOfWebRow.holds Tryd.pinned (OpenSpec.ofChange fnExactPartsOfWebSpec)

/-- ITS FALSE NEIGHBOUR: 'it returns false'. Refute it at one input. -/
def fnExactPartsOfWebWrong : ChangeSpec := { name := "fnExactPartsOfWeb", vars := ["loop.example/g01303/impl.errNoWeb"], fn := fun _ => fun
  | [d, g1] => { results := [.lit (.bool false)], args := [d], vars := [g1] }
  | _ => none }
def FnExactPartsOfWebWrongFalsely : Prop := fnExactPartsOfWebRow.holds Tryd.pinned (OpenSpec.ofChange fnExactPartsOfWebWrong)

/-- 'laws.FnExactLoopsOfWeb': WHATEVER THE INPUT: true; the input reads as it did. -/
def fnExactLoopsOfWebSpec : ChangeSpec := { name := "fnExactLoopsOfWeb", vars := ["loop.example/g01303/impl.errNoWeb"], fn := fun _ => fun
  | [d, g1] => { results := [.lit (.bool true)], args := [d], vars := [g1] }
  | _ => none }
def fnExactLoopsOfWebRow : OpenClaim := { program := "ythpddknpiiiccaadoor", sum := "dc52212d5a8dcd7614545727506db1cef61a257f07396e56db43e7fd8cc9fda2", func := "loop.example/g01303/laws.FnExactLoopsOfWeb", spec := "fnExactLoopsOfWeb", unfollowed := true, recurses := true, named := ["loop.example/g01303/impl.errNoWeb"], ifaces := true, apart := false, laid := [("loop.example/g01303/impl.errNoWeb", laid_loop_example_g01303_impl_errNoWeb)] }
def FnExactLoopsOfWebSaid : Prop := fnExactLoopsOfWebRow.holds Tryd.pinned (OpenSpec.ofChange fnExactLoopsOfWebSpec)

/-- ITS FALSE NEIGHBOUR: 'it returns false'. Refute it at one input. -/
def fnExactLoopsOfWebWrong : ChangeSpec := { name := "fnExactLoopsOfWeb", vars := ["loop.example/g01303/impl.errNoWeb"], fn := fun _ => fun
  | [d, g1] => { results := [.lit (.bool false)], args := [d], vars := [g1] }
  | _ => none }
def FnExactLoopsOfWebWrongFalsely : Prop := fnExactLoopsOfWebRow.holds Tryd.pinned (OpenSpec.ofChange fnExactLoopsOfWebWrong)

/-- 'laws.FnExactThreeWebs': WHATEVER THE INPUT: true; the input reads as it did. -/
def fnExactThreeWebsSpec : ChangeSpec := { name := "fnExactThreeWebs", vars := ["loop.example/g01303/impl.errNoWeb"], fn := fun _ => fun
  | [d1, d2, g1] => { results := [.lit (.bool true)], args := [d1, d2], vars := [g1] }
  | _ => none }
def fnExactThreeWebsRow : OpenClaim := { program := "ythpddknpiiiccaadoor", sum := "dc52212d5a8dcd7614545727506db1cef61a257f07396e56db43e7fd8cc9fda2", func := "loop.example/g01303/laws.FnExactThreeWebs", spec := "fnExactThreeWebs", unfollowed := true, recurses := true, named := ["loop.example/g01303/impl.errNoWeb"], ifaces := true, apart := false, laid := [("loop.example/g01303/impl.errNoWeb", laid_loop_example_g01303_impl_errNoWeb)] }
def FnExactThreeWebsSaid : Prop := fnExactThreeWebsRow.holds Tryd.pinned (OpenSpec.ofChange fnExactThreeWebsSpec)

/-- ITS FALSE NEIGHBOUR: 'it returns false'. Refute it at one input. -/
def fnExactThreeWebsWrong : ChangeSpec := { name := "fnExactThreeWebs", vars := ["loop.example/g01303/impl.errNoWeb"], fn := fun _ => fun
  | [d1, d2, g1] => { results := [.lit (.bool false)], args := [d1, d2], vars := [g1] }
  | _ => none }
def FnExactThreeWebsWrongFalsely : Prop := fnExactThreeWebsRow.holds Tryd.pinned (OpenSpec.ofChange fnExactThreeWebsWrong)

/- THE SECOND FORM. 'bulk': how many values and letters a reading holds, each counted each time it is reached (what is shared counts as often as it is met; a slice's spare places count too). A statement '..UptoSaid' is the law's where the arguments, and the package variables that the reading takes, are together of bulk at most 1048576: NARROWER than '..Said'. Prove '..Said' where nothing that the law and all that it calls make is longer than what came in: it says more and counts as full. Else prove '..UptoSaid'. A law counts once. -/
mutual
def uptoBulk {H : Type} : DataW H → Nat
  | .lit (.string bytes) => bytes.length + 1
  | .lit _ => 1
  | .nil => 1
  | .ptr d => uptoBulk d + 1
  | .slice elems spare => uptoBulkAll elems + uptoBulkAll spare + 1
  | .agg parts => uptoBulkAll parts + 1
  | .iface _ d => uptoBulk d + 1
  | .map entries => uptoBulkEntries entries + 1
  | .held _ => 1
def uptoBulkAll {H : Type} : List (DataW H) → Nat
  | [] => 0
  | d :: r => uptoBulk d + uptoBulkAll r
def uptoBulkEntries {H : Type} : List (Lit × DataW H) → Nat
  | [] => 0
  | x :: r => uptoBulkEntry x + uptoBulkEntries r
def uptoBulkEntry {H : Type} : Lit × DataW H → Nat
  | (.string bytes, d) => bytes.length + uptoBulk d + 1
  | (_, d) => uptoBulk d + 1
 end
def uptoSmall : (H : Type) → List (DataW H) → Bool := fun _ ds => decide (uptoBulkAll ds ≤ 1048576)
def OpenSpec.upto (s : _root_.Go.ChangeSpec) : _root_.Go.OpenSpec := { _root_.Go.OpenSpec.ofChange s with cond := some uptoSmall }

/-- 'laws.FnExactPartsOfWeb', WHERE WHAT IT READS IS OF BULK AT MOST 1048576: true; the input reads as it did. -/
def fnExactPartsOfWebUptoRow : OpenClaim := { program := "ythpddknpiiiccaadoor", sum := "dc52212d5a8dcd7614545727506db1cef61a257f07396e56db43e7fd8cc9fda2", func := "loop.example/g01303/laws.FnExactPartsOfWeb", spec := "fnExactPartsOfWeb", unfollowed := true, recurses := true, named := ["loop.example/g01303/impl.errNoWeb"], ifaces := true, apart := false, laid := [("loop.example/g01303/impl.errNoWeb", laid_loop_example_g01303_impl_errNoWeb)], narrowed := true }
def FnExactPartsOfWebUptoSaid : Prop := fnExactPartsOfWebUptoRow.holds Tryd.pinned (OpenSpec.upto fnExactPartsOfWebSpec)

/-- 'laws.FnExactLoopsOfWeb', WHERE WHAT IT READS IS OF BULK AT MOST 1048576: true; the input reads as it did. -/
def fnExactLoopsOfWebUptoRow : OpenClaim := { program := "ythpddknpiiiccaadoor", sum := "dc52212d5a8dcd7614545727506db1cef61a257f07396e56db43e7fd8cc9fda2", func := "loop.example/g01303/laws.FnExactLoopsOfWeb", spec := "fnExactLoopsOfWeb", unfollowed := true, recurses := true, named := ["loop.example/g01303/impl.errNoWeb"], ifaces := true, apart := false, laid := [("loop.example/g01303/impl.errNoWeb", laid_loop_example_g01303_impl_errNoWeb)], narrowed := true }
def FnExactLoopsOfWebUptoSaid : Prop := fnExactLoopsOfWebUptoRow.holds Tryd.pinned (OpenSpec.upto fnExactLoopsOfWebSpec)

/-- 'laws.FnExactThreeWebs', WHERE WHAT IT READS IS OF BULK AT MOST 1048576: true; the input reads as it did. -/
def fnExactThreeWebsUptoRow : OpenClaim := { program := "ythpddknpiiiccaadoor", sum := "dc52212d5a8dcd7614545727506db1cef61a257f07396e56db43e7fd8cc9fda2", func := "loop.example/g01303/laws.FnExactThreeWebs", spec := "fnExactThreeWebs", unfollowed := true, recurses := true, named := ["loop.example/g01303/impl.errNoWeb"], ifaces := true, apart := false, laid := [("loop.example/g01303/impl.errNoWeb", laid_loop_example_g01303_impl_errNoWeb)], narrowed := true }
def FnExactThreeWebsUptoSaid : Prop := fnExactThreeWebsUptoRow.holds Tryd.pinned (OpenSpec.upto fnExactThreeWebsSpec)

end Rows
end Go.Proofs.YthpddknpiiiccaaDoor
