/-
  DERIVED. GIVEN WITH THE SEED: THE CARDS: each row of YthpddknpiiiccaaDoorRows.lean that lists a variable, with what it lists TIED to the program's text (the seventh form; the later family's looks); each row that meets fmt, with fmt's text TOLD by the authors' own Lean function (tested against real Go, not proved from fmt's source: count such statements apart). THE CARD IS WHAT COUNTS. Prove the row's statement (the work); the ties are given (YthpddknpiiiccaaDoorTie.lean); close each card by the builder's one call (the guide's Derived/Test/ToyasCard.lean, 'card_holds'). Laid BY PROGRAM, IN A SANDBOX (cutbox-door.mjs). By AI agents, Wed Nov 11 2026. No macro, syntax, notation, axiom, sorry.
-/
import Derived.Test.YthpddknpiiiccaaDoorRows
import GoSem.ClaimSeven
namespace Go.Proofs.YthpddknpiiiccaaDoor
namespace Rows

/-- THE TIED CARD OF 'laws.FnExactPartsOfWeb'. -/
def fnExactPartsOfWebCard : Claim7 := { stood := { row := fnExactPartsOfWebRow, standIns := [], harness := (true, "f70fe3db17361765da5b739b36cf5be69cd9c08d28347e82f1cb091795dec51c"), looks := true }, kinds := [], alts := [], laidByText := true, laidKinds := [.sentinel], laidTests := true, laidLooks := .later }
def FnExactPartsOfWebCardSaid : Prop := Claim7.holds Tryd.pinned (.plain (OpenSpec.ofChange fnExactPartsOfWebSpec)) fnExactPartsOfWebCard

/-- THE TIED CARD OF 'laws.FnExactLoopsOfWeb'. -/
def fnExactLoopsOfWebCard : Claim7 := { stood := { row := fnExactLoopsOfWebRow, standIns := [], harness := (true, "f70fe3db17361765da5b739b36cf5be69cd9c08d28347e82f1cb091795dec51c"), looks := true }, kinds := [], alts := [], laidByText := true, laidKinds := [.sentinel], laidTests := true, laidLooks := .later }
def FnExactLoopsOfWebCardSaid : Prop := Claim7.holds Tryd.pinned (.plain (OpenSpec.ofChange fnExactLoopsOfWebSpec)) fnExactLoopsOfWebCard

/-- THE TIED CARD OF 'laws.FnExactThreeWebs'. -/
def fnExactThreeWebsCard : Claim7 := { stood := { row := fnExactThreeWebsRow, standIns := [], harness := (true, "f70fe3db17361765da5b739b36cf5be69cd9c08d28347e82f1cb091795dec51c"), looks := true }, kinds := [], alts := [], laidByText := true, laidKinds := [.sentinel], laidTests := true, laidLooks := .later }
def FnExactThreeWebsCardSaid : Prop := Claim7.holds Tryd.pinned (.plain (OpenSpec.ofChange fnExactThreeWebsSpec)) fnExactThreeWebsCard

/-- THE SECOND FORM's CARD OF 'laws.FnExactPartsOfWeb'. -/
def fnExactPartsOfWebUptoCard : Claim7 := { stood := { row := fnExactPartsOfWebUptoRow, standIns := [], harness := (true, "f70fe3db17361765da5b739b36cf5be69cd9c08d28347e82f1cb091795dec51c"), looks := true }, kinds := [], alts := [], laidByText := true, laidKinds := [.sentinel], laidTests := true, laidLooks := .later }
def FnExactPartsOfWebUptoCardSaid : Prop := Claim7.holds Tryd.pinned (.plain (OpenSpec.upto fnExactPartsOfWebSpec)) fnExactPartsOfWebUptoCard

/-- THE SECOND FORM's CARD OF 'laws.FnExactLoopsOfWeb'. -/
def fnExactLoopsOfWebUptoCard : Claim7 := { stood := { row := fnExactLoopsOfWebUptoRow, standIns := [], harness := (true, "f70fe3db17361765da5b739b36cf5be69cd9c08d28347e82f1cb091795dec51c"), looks := true }, kinds := [], alts := [], laidByText := true, laidKinds := [.sentinel], laidTests := true, laidLooks := .later }
def FnExactLoopsOfWebUptoCardSaid : Prop := Claim7.holds Tryd.pinned (.plain (OpenSpec.upto fnExactLoopsOfWebSpec)) fnExactLoopsOfWebUptoCard

/-- THE SECOND FORM's CARD OF 'laws.FnExactThreeWebs'. -/
def fnExactThreeWebsUptoCard : Claim7 := { stood := { row := fnExactThreeWebsUptoRow, standIns := [], harness := (true, "f70fe3db17361765da5b739b36cf5be69cd9c08d28347e82f1cb091795dec51c"), looks := true }, kinds := [], alts := [], laidByText := true, laidKinds := [.sentinel], laidTests := true, laidLooks := .later }
def FnExactThreeWebsUptoCardSaid : Prop := Claim7.holds Tryd.pinned (.plain (OpenSpec.upto fnExactThreeWebsSpec)) fnExactThreeWebsUptoCard
end Rows
end Go.Proofs.YthpddknpiiiccaaDoor
