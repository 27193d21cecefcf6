/-
  DERIVED. GIVEN WITH THE SEED: THE CARDS: each row of YtbbhdghjmofooaaDoorRows.lean that lists a variable, with what it lists TIED to the program's text (the seventh form; the later family's looks); each row that meets fmt, with fmt's text TOLD by the authors' own Lean function (tested against real Go, not proved from fmt's source: count such statements apart). THE CARD IS WHAT COUNTS. Prove the row's statement (the work); the ties are given (YtbbhdghjmofooaaDoorTie.lean); close each card by the builder's one call (the guide's Derived/Test/ToyasCard.lean, 'card_holds'). Laid BY PROGRAM, IN A SANDBOX (cutbox-door.mjs). By AI agents, Wed Nov 11 2026. No macro, syntax, notation, axiom, sorry.
-/
import Derived.Test.YtbbhdghjmofooaaDoorRows
import GoSem.ClaimSeven
namespace Go.Proofs.YtbbhdghjmofooaaDoor
namespace Rows

/-- THE TIED CARD OF 'laws.FnExactReverseGauss'. -/
def fnExactReverseGaussCard : Claim7 := { stood := { row := fnExactReverseGaussRow, standIns := [], harness := (true, "4700fac6a1712aebe2a7aa90127d4de8992d83378ff5c5a0b73322a4c0e5e645"), looks := true }, kinds := [], alts := [], laidByText := true, laidKinds := [.handle], laidTests := true, laidLooks := .later }
def FnExactReverseGaussCardSaid : Prop := Claim7.holds Tryd.pinned (.plain (OpenSpec.ofChange fnExactReverseGaussSpec)) fnExactReverseGaussCard

/-- THE TIED CARD OF 'laws.FnExactMirrorGauss'. -/
def fnExactMirrorGaussCard : Claim7 := { stood := { row := fnExactMirrorGaussRow, standIns := [], harness := (true, "4700fac6a1712aebe2a7aa90127d4de8992d83378ff5c5a0b73322a4c0e5e645"), looks := true }, kinds := [], alts := [], laidByText := true, laidKinds := [.handle], laidTests := true, laidLooks := .later }
def FnExactMirrorGaussCardSaid : Prop := Claim7.holds Tryd.pinned (.plain (OpenSpec.ofChange fnExactMirrorGaussSpec)) fnExactMirrorGaussCard

/-- THE TIED CARD OF 'laws.FnExactSwitchChord'. -/
def fnExactSwitchChordCard : Claim7 := { stood := { row := fnExactSwitchChordRow, standIns := [], harness := (true, "4700fac6a1712aebe2a7aa90127d4de8992d83378ff5c5a0b73322a4c0e5e645"), looks := true }, kinds := [], alts := [], laidByText := true, laidKinds := [.handle], laidTests := true, laidLooks := .later }
def FnExactSwitchChordCardSaid : Prop := Claim7.holds Tryd.pinned (.plain (OpenSpec.ofChange fnExactSwitchChordSpec)) fnExactSwitchChordCard

/-- THE TIED CARD OF 'laws.FnExactRotateGauss'. -/
def fnExactRotateGaussCard : Claim7 := { stood := { row := fnExactRotateGaussRow, standIns := [], harness := (true, "4700fac6a1712aebe2a7aa90127d4de8992d83378ff5c5a0b73322a4c0e5e645"), looks := true }, kinds := [], alts := [], laidByText := true, laidKinds := [.handle], laidTests := true, laidLooks := .later }
def FnExactRotateGaussCardSaid : Prop := Claim7.holds Tryd.pinned (.plain (OpenSpec.ofChange fnExactRotateGaussSpec)) fnExactRotateGaussCard

/-- THE TIED CARD OF 'laws.FnExactAddKink'. -/
def fnExactAddKinkCard : Claim7 := { stood := { row := fnExactAddKinkRow, standIns := [], harness := (true, "4700fac6a1712aebe2a7aa90127d4de8992d83378ff5c5a0b73322a4c0e5e645"), looks := true }, kinds := [], alts := [], laidByText := true, laidKinds := [.handle], laidTests := true, laidLooks := .later }
def FnExactAddKinkCardSaid : Prop := Claim7.holds Tryd.pinned (.plain (OpenSpec.ofChange fnExactAddKinkSpec)) fnExactAddKinkCard

/-- THE TIED CARD OF 'laws.FnExactRemoveKink'. -/
def fnExactRemoveKinkCard : Claim7 := { stood := { row := fnExactRemoveKinkRow, standIns := [], harness := (true, "4700fac6a1712aebe2a7aa90127d4de8992d83378ff5c5a0b73322a4c0e5e645"), looks := true }, kinds := [], alts := [], laidByText := true, laidKinds := [.handle], laidTests := true, laidLooks := .later }
def FnExactRemoveKinkCardSaid : Prop := Claim7.holds Tryd.pinned (.plain (OpenSpec.ofChange fnExactRemoveKinkSpec)) fnExactRemoveKinkCard

/-- THE SECOND FORM's CARD OF 'laws.FnExactReverseGauss'. -/
def fnExactReverseGaussUptoCard : Claim7 := { stood := { row := fnExactReverseGaussUptoRow, standIns := [], harness := (true, "4700fac6a1712aebe2a7aa90127d4de8992d83378ff5c5a0b73322a4c0e5e645"), looks := true }, kinds := [], alts := [], laidByText := true, laidKinds := [.handle], laidTests := true, laidLooks := .later }
def FnExactReverseGaussUptoCardSaid : Prop := Claim7.holds Tryd.pinned (.plain (OpenSpec.upto fnExactReverseGaussSpec)) fnExactReverseGaussUptoCard

/-- THE SECOND FORM's CARD OF 'laws.FnExactMirrorGauss'. -/
def fnExactMirrorGaussUptoCard : Claim7 := { stood := { row := fnExactMirrorGaussUptoRow, standIns := [], harness := (true, "4700fac6a1712aebe2a7aa90127d4de8992d83378ff5c5a0b73322a4c0e5e645"), looks := true }, kinds := [], alts := [], laidByText := true, laidKinds := [.handle], laidTests := true, laidLooks := .later }
def FnExactMirrorGaussUptoCardSaid : Prop := Claim7.holds Tryd.pinned (.plain (OpenSpec.upto fnExactMirrorGaussSpec)) fnExactMirrorGaussUptoCard

/-- THE SECOND FORM's CARD OF 'laws.FnExactSwitchChord'. -/
def fnExactSwitchChordUptoCard : Claim7 := { stood := { row := fnExactSwitchChordUptoRow, standIns := [], harness := (true, "4700fac6a1712aebe2a7aa90127d4de8992d83378ff5c5a0b73322a4c0e5e645"), looks := true }, kinds := [], alts := [], laidByText := true, laidKinds := [.handle], laidTests := true, laidLooks := .later }
def FnExactSwitchChordUptoCardSaid : Prop := Claim7.holds Tryd.pinned (.plain (OpenSpec.upto fnExactSwitchChordSpec)) fnExactSwitchChordUptoCard

/-- THE SECOND FORM's CARD OF 'laws.FnExactRotateGauss'. -/
def fnExactRotateGaussUptoCard : Claim7 := { stood := { row := fnExactRotateGaussUptoRow, standIns := [], harness := (true, "4700fac6a1712aebe2a7aa90127d4de8992d83378ff5c5a0b73322a4c0e5e645"), looks := true }, kinds := [], alts := [], laidByText := true, laidKinds := [.handle], laidTests := true, laidLooks := .later }
def FnExactRotateGaussUptoCardSaid : Prop := Claim7.holds Tryd.pinned (.plain (OpenSpec.upto fnExactRotateGaussSpec)) fnExactRotateGaussUptoCard

/-- THE SECOND FORM's CARD OF 'laws.FnExactAddKink'. -/
def fnExactAddKinkUptoCard : Claim7 := { stood := { row := fnExactAddKinkUptoRow, standIns := [], harness := (true, "4700fac6a1712aebe2a7aa90127d4de8992d83378ff5c5a0b73322a4c0e5e645"), looks := true }, kinds := [], alts := [], laidByText := true, laidKinds := [.handle], laidTests := true, laidLooks := .later }
def FnExactAddKinkUptoCardSaid : Prop := Claim7.holds Tryd.pinned (.plain (OpenSpec.upto fnExactAddKinkSpec)) fnExactAddKinkUptoCard

/-- THE SECOND FORM's CARD OF 'laws.FnExactRemoveKink'. -/
def fnExactRemoveKinkUptoCard : Claim7 := { stood := { row := fnExactRemoveKinkUptoRow, standIns := [], harness := (true, "4700fac6a1712aebe2a7aa90127d4de8992d83378ff5c5a0b73322a4c0e5e645"), looks := true }, kinds := [], alts := [], laidByText := true, laidKinds := [.handle], laidTests := true, laidLooks := .later }
def FnExactRemoveKinkUptoCardSaid : Prop := Claim7.holds Tryd.pinned (.plain (OpenSpec.upto fnExactRemoveKinkSpec)) fnExactRemoveKinkUptoCard
end Rows
end Go.Proofs.YtbbhdghjmofooaaDoor
