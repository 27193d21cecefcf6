/- behindMove at the mirroring. -/
import Derived.Test.YtiedekdghdgocaaDoorMoveDoor
import Derived.Test.YtiedekdghdgocaaDoorKnotBridge
namespace Go.Proofs.YtiedekdghdgocaaDoor
open Go.RowKit
set_option linter.unusedVariables false
set_option linter.unusedSimpArgs false
set_option maxRecDepth 100000

theorem Own.off_ {w : World} {lo b j : Nat} {v x : Value} {xs : List Int} (h : Own w lo v xs) (hb : b < lo) : Own (w.setCell ⟨b, j, none⟩ x) lo v xs :=
  h.kept (grown_setCell w b j x) (fun k hk e => by
    injection e with e
    have := (h.lt k hk).1
    omega)
theorem OwnG.off_ {w : World} {lo b : Nat} {u v s : Value} {ws hs ss : List Int} (h : OwnG w lo u v s ws hs ss) (hb : b < lo) (j : Nat) (x : Value) : OwnG (w.setCell ⟨b, j, none⟩ x) lo u v s ws hs ss :=
  ⟨h.word.off_ hb, h.heads.off_ hb, h.signs.off_ hb, h.uv, h.us, h.vs⟩
theorem gaussB_all {ws hs ss : List Int} (h : gaussB ws hs ss = true) : (∀ i, i < hs.length → 0 ≤ hs[i]?.getD 0 ∧ hs[i]?.getD 0 ≤ 1) ∧ (∀ i, i < ss.length → -1 ≤ ss[i]?.getD 0 ∧ ss[i]?.getD 0 ≤ 1) := by
  refine ⟨fun i hi => ?_, fun i hi => ?_⟩
  · have h1 := bitN_iff.1 (all_at (gaussB_bits h) (k := i) hi)
    omega
  · have h1 := signN_iff.1 (all_at (gaussB_signs h) (k := i) hi)
    omega
def mirrorG (ws hs ss : List Int) : Trip := gnorm ws (hs.map (fun x => 1 - x)) (ss.map (fun x => -x))
end Go.Proofs.YtiedekdghdgocaaDoor
