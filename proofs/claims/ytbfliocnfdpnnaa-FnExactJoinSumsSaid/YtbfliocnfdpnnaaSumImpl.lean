/- The program's functions that build a sum. -/
/- The program's DerivativeOf. -/
import Derived.Test.YtbfliocnfdpnnaaSumFrame
import Derived.Test.YtbfliocnfdpnnaaSumTwo
import Derived.Test.YtbfliocnfdpnnaaFDeleteChord
namespace Go.Proofs.Ytbfliocnfdpnnaa
open Go.RowKit
set_option linter.unusedVariables false
set_option linter.unusedSimpArgs false
set_option maxRecDepth 100000

theorem resid0_at {p : Int} (hp : 0 < p) (l : Tms) (xs : List Int) : 0 ≤ addAll p (fun _ => 0) l xs ∧ addAll p (fun _ => 0) l xs < p := resid_addAll hp l _ (resid_zero hp) xs
theorem gaveS_of {F : FuncId} {args : Array Value} {w : World} {r : (Int × Tms) × Int} (h : ∀ p ts z, r = ((p, ts), z) → GaveS F args w ((p, ts), z)) : GaveS F args w r := h _ _ _ rfl


/-- terms that a function of the words puts in: a slice that reads as the turned word, in new memory or the word's own -/
def GivesR (F : FuncId) (args : Array Value) (w : World) (ys : List Int) : Prop := Calls Try.prog F args w fun e w' => ∃ B m d, e = .returned (.slice B m d) ∧ Rd w' B m ys ∧ Below w.heap.size w w'
theorem givesR_of {F : FuncId} {args : Array Value} {w : World} {ys : List Int} (h : Calls Try.prog F args w fun e w' => ∃ v, e = .returned v ∧ Own w' w.heap.size v ys ∧ Below w.heap.size w w') : GivesR F args w ys :=
  Calls.mono h fun e w' ⟨v, he, ho, hb⟩ => by
    obtain ⟨B, m, d, rfl, _, hr⟩ := ho.form'
    exact ⟨B, m, d, he, hr, hb⟩
theorem plain_at {f : List Int → List Int} {ts : Tms} (h : Plain ts) (hf : ∀ w, isWord w = true → isWord (f w) = true) : Plain (mapL f ts) := plain_mapL h hf

end Go.Proofs.Ytbfliocnfdpnnaa

namespace Go.Proofs.Ytbfliocnfdpnnaa
open Go.RowKit
set_option linter.unusedVariables false
set_option linter.unusedSimpArgs false
set_option maxRecDepth 100000



end Go.Proofs.Ytbfliocnfdpnnaa
