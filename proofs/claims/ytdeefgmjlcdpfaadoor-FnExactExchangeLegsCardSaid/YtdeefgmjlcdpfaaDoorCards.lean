/-
  DERIVED. GIVEN WITH THE SEED: THE CARDS: each row of YtdeefgmjlcdpfaaDoorRows.lean that lists a variable, with what it lists TIED to the program's text (the seventh form; the later family's looks); each row that meets fmt, with fmt's text TOLD by the authors' own Lean function (tested against real Go, not proved from fmt's source: count such statements apart). THE CARD IS WHAT COUNTS. Prove the row's statement (the work); the ties are given (YtdeefgmjlcdpfaaDoorTie.lean); close each card by the builder's one call (the guide's Derived/Test/ToyasCard.lean, 'card_holds'). Laid BY PROGRAM, IN A SANDBOX (cutbox-door.mjs). By AI agents, Wed Nov 11 2026. No macro, syntax, notation, axiom, sorry.
-/
import Derived.Test.YtdeefgmjlcdpfaaDoorRows
import GoSem.ClaimSeven
namespace Go.Proofs.YtdeefgmjlcdpfaaDoor
namespace Rows

/-- THE TIED CARD OF 'laws.FnExactIsWeb'. -/
def fnExactIsWebCard : Claim7 := { stood := { row := fnExactIsWebRow, standIns := [], harness := (true, "ddd5a8c2632dd41070a52f6b9845c19ffcbf33f6bc4ad6441e43d14abe256fa5"), looks := true }, kinds := [], alts := [], laidByText := true, laidKinds := [.sentinel], laidTests := true, laidLooks := .later }
def FnExactIsWebCardSaid : Prop := Claim7.holds Tryd.pinned (.plain (OpenSpec.ofChange fnExactIsWebSpec)) fnExactIsWebCard

/-- THE TIED CARD OF 'laws.FnExactDegreeOfWeb'. -/
def fnExactDegreeOfWebCard : Claim7 := { stood := { row := fnExactDegreeOfWebRow, standIns := [], harness := (true, "ddd5a8c2632dd41070a52f6b9845c19ffcbf33f6bc4ad6441e43d14abe256fa5"), looks := true }, kinds := [], alts := [], laidByText := true, laidKinds := [.sentinel], laidTests := true, laidLooks := .later }
def FnExactDegreeOfWebCardSaid : Prop := Claim7.holds Tryd.pinned (.plain (OpenSpec.ofChange fnExactDegreeOfWebSpec)) fnExactDegreeOfWebCard

/-- THE TIED CARD OF 'laws.FnExactTurnFork'. -/
def fnExactTurnForkCard : Claim7 := { stood := { row := fnExactTurnForkRow, standIns := [], harness := (true, "ddd5a8c2632dd41070a52f6b9845c19ffcbf33f6bc4ad6441e43d14abe256fa5"), looks := true }, kinds := [], alts := [], laidByText := true, laidKinds := [.sentinel], laidTests := true, laidLooks := .later }
def FnExactTurnForkCardSaid : Prop := Claim7.holds Tryd.pinned (.plain (OpenSpec.ofChange fnExactTurnForkSpec)) fnExactTurnForkCard

/-- THE TIED CARD OF 'laws.FnExactExchangeLegs'. -/
def fnExactExchangeLegsCard : Claim7 := { stood := { row := fnExactExchangeLegsRow, standIns := [], harness := (true, "ddd5a8c2632dd41070a52f6b9845c19ffcbf33f6bc4ad6441e43d14abe256fa5"), looks := true }, kinds := [], alts := [], laidByText := true, laidKinds := [.sentinel], laidTests := true, laidLooks := .later }
def FnExactExchangeLegsCardSaid : Prop := Claim7.holds Tryd.pinned (.plain (OpenSpec.ofChange fnExactExchangeLegsSpec)) fnExactExchangeLegsCard

/-- THE TIED CARD OF 'laws.FnExactForkLegs'. -/
def fnExactForkLegsCard : Claim7 := { stood := { row := fnExactForkLegsRow, standIns := [], harness := (true, "ddd5a8c2632dd41070a52f6b9845c19ffcbf33f6bc4ad6441e43d14abe256fa5"), looks := true }, kinds := [], alts := [], laidByText := true, laidKinds := [.sentinel], laidTests := true, laidLooks := .later }
def FnExactForkLegsCardSaid : Prop := Claim7.holds Tryd.pinned (.plain (OpenSpec.ofChange fnExactForkLegsSpec)) fnExactForkLegsCard

/-- THE SECOND FORM's CARD OF 'laws.FnExactIsWeb'. -/
def fnExactIsWebUptoCard : Claim7 := { stood := { row := fnExactIsWebUptoRow, standIns := [], harness := (true, "ddd5a8c2632dd41070a52f6b9845c19ffcbf33f6bc4ad6441e43d14abe256fa5"), looks := true }, kinds := [], alts := [], laidByText := true, laidKinds := [.sentinel], laidTests := true, laidLooks := .later }
def FnExactIsWebUptoCardSaid : Prop := Claim7.holds Tryd.pinned (.plain (OpenSpec.upto fnExactIsWebSpec)) fnExactIsWebUptoCard

/-- THE SECOND FORM's CARD OF 'laws.FnExactDegreeOfWeb'. -/
def fnExactDegreeOfWebUptoCard : Claim7 := { stood := { row := fnExactDegreeOfWebUptoRow, standIns := [], harness := (true, "ddd5a8c2632dd41070a52f6b9845c19ffcbf33f6bc4ad6441e43d14abe256fa5"), looks := true }, kinds := [], alts := [], laidByText := true, laidKinds := [.sentinel], laidTests := true, laidLooks := .later }
def FnExactDegreeOfWebUptoCardSaid : Prop := Claim7.holds Tryd.pinned (.plain (OpenSpec.upto fnExactDegreeOfWebSpec)) fnExactDegreeOfWebUptoCard

/-- THE SECOND FORM's CARD OF 'laws.FnExactTurnFork'. -/
def fnExactTurnForkUptoCard : Claim7 := { stood := { row := fnExactTurnForkUptoRow, standIns := [], harness := (true, "ddd5a8c2632dd41070a52f6b9845c19ffcbf33f6bc4ad6441e43d14abe256fa5"), looks := true }, kinds := [], alts := [], laidByText := true, laidKinds := [.sentinel], laidTests := true, laidLooks := .later }
def FnExactTurnForkUptoCardSaid : Prop := Claim7.holds Tryd.pinned (.plain (OpenSpec.upto fnExactTurnForkSpec)) fnExactTurnForkUptoCard

/-- THE SECOND FORM's CARD OF 'laws.FnExactExchangeLegs'. -/
def fnExactExchangeLegsUptoCard : Claim7 := { stood := { row := fnExactExchangeLegsUptoRow, standIns := [], harness := (true, "ddd5a8c2632dd41070a52f6b9845c19ffcbf33f6bc4ad6441e43d14abe256fa5"), looks := true }, kinds := [], alts := [], laidByText := true, laidKinds := [.sentinel], laidTests := true, laidLooks := .later }
def FnExactExchangeLegsUptoCardSaid : Prop := Claim7.holds Tryd.pinned (.plain (OpenSpec.upto fnExactExchangeLegsSpec)) fnExactExchangeLegsUptoCard

/-- THE SECOND FORM's CARD OF 'laws.FnExactForkLegs'. -/
def fnExactForkLegsUptoCard : Claim7 := { stood := { row := fnExactForkLegsUptoRow, standIns := [], harness := (true, "ddd5a8c2632dd41070a52f6b9845c19ffcbf33f6bc4ad6441e43d14abe256fa5"), looks := true }, kinds := [], alts := [], laidByText := true, laidKinds := [.sentinel], laidTests := true, laidLooks := .later }
def FnExactForkLegsUptoCardSaid : Prop := Claim7.holds Tryd.pinned (.plain (OpenSpec.upto fnExactForkLegsSpec)) fnExactForkLegsUptoCard
end Rows
end Go.Proofs.YtdeefgmjlcdpfaaDoor
