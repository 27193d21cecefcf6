/-
  DERIVED. GIVEN WITH THE SEED: THE CARDS: each row of YtiedekdghdgocaaDoorRows.lean that lists a variable, with what it lists TIED to the program's text (the seventh form; the later family's looks); each row that meets fmt, with fmt's text TOLD by the authors' own Lean function (tested against real Go, not proved from fmt's source: count such statements apart). THE CARD IS WHAT COUNTS. Prove the row's statement (the work); the ties are given (YtiedekdghdgocaaDoorTie.lean); close each card by the builder's one call (the guide's Derived/Test/ToyasCard.lean, 'card_holds'). Laid BY PROGRAM, IN A SANDBOX (cutbox-door.mjs). By AI agents, Wed Nov 11 2026. No macro, syntax, notation, axiom, sorry.
-/
import Derived.Test.YtiedekdghdgocaaDoorRows
import GoSem.ClaimSeven
namespace Go.Proofs.YtiedekdghdgocaaDoor
namespace Rows

/-- THE TIED CARD OF 'laws.FnExactAddPair'. -/
def fnExactAddPairCard : Claim7 := { stood := { row := fnExactAddPairRow, standIns := [], harness := (true, "d7c9e5a46f3c865966085d228bb7ceb72e9ffb06c20bc81de486b7cf8d96f241"), looks := true }, kinds := [], alts := [], laidByText := true, laidKinds := [.handle], laidTests := true, laidLooks := .later }
def FnExactAddPairCardSaid : Prop := Claim7.holds Tryd.pinned (.plain (OpenSpec.ofChange fnExactAddPairSpec)) fnExactAddPairCard

/-- THE TIED CARD OF 'laws.FnExactRemovePair'. -/
def fnExactRemovePairCard : Claim7 := { stood := { row := fnExactRemovePairRow, standIns := [], harness := (true, "d7c9e5a46f3c865966085d228bb7ceb72e9ffb06c20bc81de486b7cf8d96f241"), looks := true }, kinds := [], alts := [], laidByText := true, laidKinds := [.handle], laidTests := true, laidLooks := .later }
def FnExactRemovePairCardSaid : Prop := Claim7.holds Tryd.pinned (.plain (OpenSpec.ofChange fnExactRemovePairSpec)) fnExactRemovePairCard

/-- THE SECOND FORM's CARD OF 'laws.FnExactAddPair'. -/
def fnExactAddPairUptoCard : Claim7 := { stood := { row := fnExactAddPairUptoRow, standIns := [], harness := (true, "d7c9e5a46f3c865966085d228bb7ceb72e9ffb06c20bc81de486b7cf8d96f241"), looks := true }, kinds := [], alts := [], laidByText := true, laidKinds := [.handle], laidTests := true, laidLooks := .later }
def FnExactAddPairUptoCardSaid : Prop := Claim7.holds Tryd.pinned (.plain (OpenSpec.upto fnExactAddPairSpec)) fnExactAddPairUptoCard

/-- THE SECOND FORM's CARD OF 'laws.FnExactRemovePair'. -/
def fnExactRemovePairUptoCard : Claim7 := { stood := { row := fnExactRemovePairUptoRow, standIns := [], harness := (true, "d7c9e5a46f3c865966085d228bb7ceb72e9ffb06c20bc81de486b7cf8d96f241"), looks := true }, kinds := [], alts := [], laidByText := true, laidKinds := [.handle], laidTests := true, laidLooks := .later }
def FnExactRemovePairUptoCardSaid : Prop := Claim7.holds Tryd.pinned (.plain (OpenSpec.upto fnExactRemovePairSpec)) fnExactRemovePairUptoCard
end Rows
end Go.Proofs.YtiedekdghdgocaaDoor
