/-
  NARROWER THAN 'FOR EVERY INPUT', by the rows' own cells (each row's printed sentence says how): FnExactIsWeb: ifaces, laid · FnExactDegreeOfWeb: ifaces, laid · FnExactTurnFork: ifaces, laid · FnExactExchangeLegs: ifaces, laid · FnExactForkLegs: ifaces, laid.
  DERIVED. THE GIVEN ROWS OF THIS SEAT. 5 by the template 'for every input the law returns true; each argument reads behind the call as it read before'; 0 by the template 'total and deterministic' (their statements: YtdeefgmjlcdpfaaDoorTotals.lean).
  GIVEN WITH THE SEED: the statements are not yours to turn. If you find one false, say at which input.
  Laid BY PROGRAM, IN A SANDBOX (cutbox-rows.mjs): the forced cells as the released guide's own fill.sh prints them over the translation 0e60d3fa590d0b54… (all of the seat's roots in one cut). By AI agents, Wed Nov 11 2026. No macro, syntax, notation, axiom, sorry.
-/
import Derived.Test.YtdeefgmjlcdpfaaDoorChecked
import GoSem.Claim
import GoSem.ClaimJoined
import GoSem.ClaimMapViews
import Derived.JoinedTies
import Derived.KernelRfl
namespace Go.Proofs.YtdeefgmjlcdpfaaDoor
/- THE CELL 'sum', in the pinned program and in every row, IS THE sha256 OF THE DUMP (.gsa) THAT YtdeefgmjlcdpfaaDoorProg.lean LOADS. Nothing in Lean hashes anything: it is a label: what it is worth is what the hold of that sum in a sandbox is worth. -/
noncomputable def Tryd.pinned : Pinned := { name := "ytdeefgmjlcdpfaadoor", sum := "0e60d3fa590d0b54db23fff4e06d3d9ec24a8a5e96fecb9c9938eb968216ce86", checked := Tryd.checked }
namespace Rows
def none {H : Type} : Left H := { results := [], args := [] }

/- WHAT THE LISTED PACKAGE-LEVEL VARIABLES READ AS WHEN THE CALL BEGINS. Each datum BY PROGRAM (the guide's laid-datum.mjs) off the statement by which the dump's own 'gosem.cut.vars' lays the variable. In a bare row this is a premise. The card (YtdeefgmjlcdpfaaDoorCards.lean) ties it to the program's text. -/
def laid_loop_example_g01303_impl_errNoWeb {H : Type} : DataW H := .iface "*errors.errorString" (.ptr (.agg [.lit (.string [110, 111, 32, 119, 101, 98])]))

/-- 'laws.FnExactIsWeb': WHATEVER THE INPUT: true; the input reads as it did. -/
def fnExactIsWebSpec : ChangeSpec := { name := "fnExactIsWeb", vars := ["loop.example/g01303/impl.errNoWeb"], fn := fun _ => fun
  | [d, g1] => { results := [.lit (.bool true)], args := [d], vars := [g1] }
  | _ => none }
def fnExactIsWebRow : OpenClaim := { program := "ytdeefgmjlcdpfaadoor", sum := "0e60d3fa590d0b54db23fff4e06d3d9ec24a8a5e96fecb9c9938eb968216ce86", func := "loop.example/g01303/laws.FnExactIsWeb", spec := "fnExactIsWeb", unfollowed := true, recurses := true, named := ["loop.example/g01303/impl.errNoWeb"], ifaces := true, apart := false, laid := [("loop.example/g01303/impl.errNoWeb", laid_loop_example_g01303_impl_errNoWeb)] }
def FnExactIsWebSaid : Prop := fnExactIsWebRow.holds Tryd.pinned (OpenSpec.ofChange fnExactIsWebSpec)

/-- ITS FALSE NEIGHBOUR: 'it returns false'. Refute it at one input. -/
def fnExactIsWebWrong : ChangeSpec := { name := "fnExactIsWeb", vars := ["loop.example/g01303/impl.errNoWeb"], fn := fun _ => fun
  | [d, g1] => { results := [.lit (.bool false)], args := [d], vars := [g1] }
  | _ => none }
def FnExactIsWebWrongFalsely : Prop := fnExactIsWebRow.holds Tryd.pinned (OpenSpec.ofChange fnExactIsWebWrong)

/-- 'laws.FnExactDegreeOfWeb': WHATEVER THE INPUT: true; the input reads as it did. -/
def fnExactDegreeOfWebSpec : ChangeSpec := { name := "fnExactDegreeOfWeb", vars := ["loop.example/g01303/impl.errNoWeb"], fn := fun _ => fun
  | [d, g1] => { results := [.lit (.bool true)], args := [d], vars := [g1] }
  | _ => none }
def fnExactDegreeOfWebRow : OpenClaim := { program := "ytdeefgmjlcdpfaadoor", sum := "0e60d3fa590d0b54db23fff4e06d3d9ec24a8a5e96fecb9c9938eb968216ce86", func := "loop.example/g01303/laws.FnExactDegreeOfWeb", spec := "fnExactDegreeOfWeb", unfollowed := true, recurses := true, named := ["loop.example/g01303/impl.errNoWeb"], ifaces := true, apart := false, laid := [("loop.example/g01303/impl.errNoWeb", laid_loop_example_g01303_impl_errNoWeb)] }
def FnExactDegreeOfWebSaid : Prop := fnExactDegreeOfWebRow.holds Tryd.pinned (OpenSpec.ofChange fnExactDegreeOfWebSpec)

/-- ITS FALSE NEIGHBOUR: 'it returns false'. Refute it at one input. -/
def fnExactDegreeOfWebWrong : ChangeSpec := { name := "fnExactDegreeOfWeb", vars := ["loop.example/g01303/impl.errNoWeb"], fn := fun _ => fun
  | [d, g1] => { results := [.lit (.bool false)], args := [d], vars := [g1] }
  | _ => none }
def FnExactDegreeOfWebWrongFalsely : Prop := fnExactDegreeOfWebRow.holds Tryd.pinned (OpenSpec.ofChange fnExactDegreeOfWebWrong)

/-- 'laws.FnExactTurnFork': WHATEVER THE INPUT: true; the input reads as it did. -/
def fnExactTurnForkSpec : ChangeSpec := { name := "fnExactTurnFork", vars := ["loop.example/g01303/impl.errNoWeb"], fn := fun _ => fun
  | [d1, d2, g1] => { results := [.lit (.bool true)], args := [d1, d2], vars := [g1] }
  | _ => none }
def fnExactTurnForkRow : OpenClaim := { program := "ytdeefgmjlcdpfaadoor", sum := "0e60d3fa590d0b54db23fff4e06d3d9ec24a8a5e96fecb9c9938eb968216ce86", func := "loop.example/g01303/laws.FnExactTurnFork", spec := "fnExactTurnFork", unfollowed := true, recurses := true, named := ["loop.example/g01303/impl.errNoWeb"], ifaces := true, apart := false, laid := [("loop.example/g01303/impl.errNoWeb", laid_loop_example_g01303_impl_errNoWeb)] }
def FnExactTurnForkSaid : Prop := fnExactTurnForkRow.holds Tryd.pinned (OpenSpec.ofChange fnExactTurnForkSpec)

/-- ITS FALSE NEIGHBOUR: 'it returns false'. Refute it at one input. -/
def fnExactTurnForkWrong : ChangeSpec := { name := "fnExactTurnFork", vars := ["loop.example/g01303/impl.errNoWeb"], fn := fun _ => fun
  | [d1, d2, g1] => { results := [.lit (.bool false)], args := [d1, d2], vars := [g1] }
  | _ => none }
def FnExactTurnForkWrongFalsely : Prop := fnExactTurnForkRow.holds Tryd.pinned (OpenSpec.ofChange fnExactTurnForkWrong)

/-- 'laws.FnExactExchangeLegs': WHATEVER THE INPUT: true; the input reads as it did. -/
def fnExactExchangeLegsSpec : ChangeSpec := { name := "fnExactExchangeLegs", vars := ["loop.example/g01303/impl.errNoWeb"], fn := fun _ => fun
  | [d1, d2, g1] => { results := [.lit (.bool true)], args := [d1, d2], vars := [g1] }
  | _ => none }
def fnExactExchangeLegsRow : OpenClaim := { program := "ytdeefgmjlcdpfaadoor", sum := "0e60d3fa590d0b54db23fff4e06d3d9ec24a8a5e96fecb9c9938eb968216ce86", func := "loop.example/g01303/laws.FnExactExchangeLegs", spec := "fnExactExchangeLegs", unfollowed := true, recurses := true, named := ["loop.example/g01303/impl.errNoWeb"], ifaces := true, apart := false, laid := [("loop.example/g01303/impl.errNoWeb", laid_loop_example_g01303_impl_errNoWeb)] }
def FnExactExchangeLegsSaid : Prop := fnExactExchangeLegsRow.holds Tryd.pinned (OpenSpec.ofChange fnExactExchangeLegsSpec)

/-- ITS FALSE NEIGHBOUR: 'it returns false'. Refute it at one input. -/
def fnExactExchangeLegsWrong : ChangeSpec := { name := "fnExactExchangeLegs", vars := ["loop.example/g01303/impl.errNoWeb"], fn := fun _ => fun
  | [d1, d2, g1] => { results := [.lit (.bool false)], args := [d1, d2], vars := [g1] }
  | _ => none }
def FnExactExchangeLegsWrongFalsely : Prop := fnExactExchangeLegsRow.holds Tryd.pinned (OpenSpec.ofChange fnExactExchangeLegsWrong)

/-- 'laws.FnExactForkLegs': WHATEVER THE INPUT: true; the input reads as it did. -/
def fnExactForkLegsSpec : ChangeSpec := { name := "fnExactForkLegs", vars := ["loop.example/g01303/impl.errNoWeb"], fn := fun _ => fun
  | [d1, d2, g1] => { results := [.lit (.bool true)], args := [d1, d2], vars := [g1] }
  | _ => none }
def fnExactForkLegsRow : OpenClaim := { program := "ytdeefgmjlcdpfaadoor", sum := "0e60d3fa590d0b54db23fff4e06d3d9ec24a8a5e96fecb9c9938eb968216ce86", func := "loop.example/g01303/laws.FnExactForkLegs", spec := "fnExactForkLegs", inPlace := ["slices.overlaps[int64]"], unfollowed := true, recurses := true, named := ["loop.example/g01303/impl.errNoWeb"], ifaces := true, apart := false, laid := [("loop.example/g01303/impl.errNoWeb", laid_loop_example_g01303_impl_errNoWeb)] }
def FnExactForkLegsSaid : Prop := fnExactForkLegsRow.holds Tryd.pinned (OpenSpec.ofChange fnExactForkLegsSpec)

/-- ITS FALSE NEIGHBOUR: 'it returns false'. Refute it at one input. -/
def fnExactForkLegsWrong : ChangeSpec := { name := "fnExactForkLegs", vars := ["loop.example/g01303/impl.errNoWeb"], fn := fun _ => fun
  | [d1, d2, g1] => { results := [.lit (.bool false)], args := [d1, d2], vars := [g1] }
  | _ => none }
def FnExactForkLegsWrongFalsely : Prop := fnExactForkLegsRow.holds Tryd.pinned (OpenSpec.ofChange fnExactForkLegsWrong)

/- THE SECOND FORM. 'bulk': how many values and letters a reading holds, each counted each time it is reached (what is shared counts as often as it is met; a slice's spare places count too). A statement '..UptoSaid' is the law's where the arguments, and the package variables that the reading takes, are together of bulk at most 1048576: NARROWER than '..Said'. Prove '..Said' where nothing that the law and all that it calls make is longer than what came in: it says more and counts as full. Else prove '..UptoSaid'. A law counts once. -/
mutual
def uptoBulk {H : Type} : DataW H → Nat
  | .lit (.string bytes) => bytes.length + 1
  | .lit _ => 1
  | .nil => 1
  | .ptr d => uptoBulk d + 1
  | .slice elems spare => uptoBulkAll elems + uptoBulkAll spare + 1
  | .agg parts => uptoBulkAll parts + 1
  | .iface _ d => uptoBulk d + 1
  | .map entries => uptoBulkEntries entries + 1
  | .held _ => 1
def uptoBulkAll {H : Type} : List (DataW H) → Nat
  | [] => 0
  | d :: r => uptoBulk d + uptoBulkAll r
def uptoBulkEntries {H : Type} : List (Lit × DataW H) → Nat
  | [] => 0
  | x :: r => uptoBulkEntry x + uptoBulkEntries r
def uptoBulkEntry {H : Type} : Lit × DataW H → Nat
  | (.string bytes, d) => bytes.length + uptoBulk d + 1
  | (_, d) => uptoBulk d + 1
 end
def uptoSmall : (H : Type) → List (DataW H) → Bool := fun _ ds => decide (uptoBulkAll ds ≤ 1048576)
def OpenSpec.upto (s : _root_.Go.ChangeSpec) : _root_.Go.OpenSpec := { _root_.Go.OpenSpec.ofChange s with cond := some uptoSmall }

/-- 'laws.FnExactIsWeb', WHERE WHAT IT READS IS OF BULK AT MOST 1048576: true; the input reads as it did. -/
def fnExactIsWebUptoRow : OpenClaim := { program := "ytdeefgmjlcdpfaadoor", sum := "0e60d3fa590d0b54db23fff4e06d3d9ec24a8a5e96fecb9c9938eb968216ce86", func := "loop.example/g01303/laws.FnExactIsWeb", spec := "fnExactIsWeb", unfollowed := true, recurses := true, named := ["loop.example/g01303/impl.errNoWeb"], ifaces := true, apart := false, laid := [("loop.example/g01303/impl.errNoWeb", laid_loop_example_g01303_impl_errNoWeb)], narrowed := true }
def FnExactIsWebUptoSaid : Prop := fnExactIsWebUptoRow.holds Tryd.pinned (OpenSpec.upto fnExactIsWebSpec)

/-- 'laws.FnExactDegreeOfWeb', WHERE WHAT IT READS IS OF BULK AT MOST 1048576: true; the input reads as it did. -/
def fnExactDegreeOfWebUptoRow : OpenClaim := { program := "ytdeefgmjlcdpfaadoor", sum := "0e60d3fa590d0b54db23fff4e06d3d9ec24a8a5e96fecb9c9938eb968216ce86", func := "loop.example/g01303/laws.FnExactDegreeOfWeb", spec := "fnExactDegreeOfWeb", unfollowed := true, recurses := true, named := ["loop.example/g01303/impl.errNoWeb"], ifaces := true, apart := false, laid := [("loop.example/g01303/impl.errNoWeb", laid_loop_example_g01303_impl_errNoWeb)], narrowed := true }
def FnExactDegreeOfWebUptoSaid : Prop := fnExactDegreeOfWebUptoRow.holds Tryd.pinned (OpenSpec.upto fnExactDegreeOfWebSpec)

/-- 'laws.FnExactTurnFork', WHERE WHAT IT READS IS OF BULK AT MOST 1048576: true; the input reads as it did. -/
def fnExactTurnForkUptoRow : OpenClaim := { program := "ytdeefgmjlcdpfaadoor", sum := "0e60d3fa590d0b54db23fff4e06d3d9ec24a8a5e96fecb9c9938eb968216ce86", func := "loop.example/g01303/laws.FnExactTurnFork", spec := "fnExactTurnFork", unfollowed := true, recurses := true, named := ["loop.example/g01303/impl.errNoWeb"], ifaces := true, apart := false, laid := [("loop.example/g01303/impl.errNoWeb", laid_loop_example_g01303_impl_errNoWeb)], narrowed := true }
def FnExactTurnForkUptoSaid : Prop := fnExactTurnForkUptoRow.holds Tryd.pinned (OpenSpec.upto fnExactTurnForkSpec)

/-- 'laws.FnExactExchangeLegs', WHERE WHAT IT READS IS OF BULK AT MOST 1048576: true; the input reads as it did. -/
def fnExactExchangeLegsUptoRow : OpenClaim := { program := "ytdeefgmjlcdpfaadoor", sum := "0e60d3fa590d0b54db23fff4e06d3d9ec24a8a5e96fecb9c9938eb968216ce86", func := "loop.example/g01303/laws.FnExactExchangeLegs", spec := "fnExactExchangeLegs", unfollowed := true, recurses := true, named := ["loop.example/g01303/impl.errNoWeb"], ifaces := true, apart := false, laid := [("loop.example/g01303/impl.errNoWeb", laid_loop_example_g01303_impl_errNoWeb)], narrowed := true }
def FnExactExchangeLegsUptoSaid : Prop := fnExactExchangeLegsUptoRow.holds Tryd.pinned (OpenSpec.upto fnExactExchangeLegsSpec)

/-- 'laws.FnExactForkLegs', WHERE WHAT IT READS IS OF BULK AT MOST 1048576: true; the input reads as it did. -/
def fnExactForkLegsUptoRow : OpenClaim := { program := "ytdeefgmjlcdpfaadoor", sum := "0e60d3fa590d0b54db23fff4e06d3d9ec24a8a5e96fecb9c9938eb968216ce86", func := "loop.example/g01303/laws.FnExactForkLegs", spec := "fnExactForkLegs", inPlace := ["slices.overlaps[int64]"], unfollowed := true, recurses := true, named := ["loop.example/g01303/impl.errNoWeb"], ifaces := true, apart := false, laid := [("loop.example/g01303/impl.errNoWeb", laid_loop_example_g01303_impl_errNoWeb)], narrowed := true }
def FnExactForkLegsUptoSaid : Prop := fnExactForkLegsUptoRow.holds Tryd.pinned (OpenSpec.upto fnExactForkLegsSpec)

end Rows
end Go.Proofs.YtdeefgmjlcdpfaaDoor
