/- ReverseGauss: the plain answer, makeIn of the reversal. -/
import Derived.Test.YtiedekdghdgocaaDoorBehind
import Derived.Test.YtiedekdghdgocaaDoorRingRev
import Derived.Test.YtiedekdghdgocaaDoorFMirrorGauss
import Derived.Deep.RegionLaw
import Derived.Deep.Cut
namespace Go.Proofs.YtiedekdghdgocaaDoor
open Go.RowKit
set_option linter.unusedVariables false
set_option linter.unusedSimpArgs false
set_option maxRecDepth 100000

def reverseOf (ws hs ss : List Int) : Trip × Int :=
  if gaussB ws hs ss then (gnorm ws.reverse (hs.map (fun x => 1 - x)) ss, 0) else (([], [], []), 1)
theorem reverseOf_no {ws hs ss : List Int} (h : gaussB ws hs ss = false) : reverseOf ws hs ss = (([], [], []), 1) := by unfold reverseOf; rw [h]; rfl
theorem reverseOf_yes {ws hs ss : List Int} (h : gaussB ws hs ss = true) : reverseOf ws hs ss = (gnorm ws.reverse (hs.map (fun x => 1 - x)) ss, 0) := by unfold reverseOf; rw [h]; rfl
theorem reverseOf_err {ws hs ss : List Int} (h : (reverseOf ws hs ss).2 ≠ 0) : (reverseOf ws hs ss).1 = ([], [], []) := by
  unfold reverseOf at h ⊢
  split
  · rename_i hg; rw [if_pos hg] at h; exact absurd rfl h
  · rfl
theorem gnorm_few {xs hs ss : List Int} (h : xs.length ≤ 100000) : FewG (gnorm xs hs ss).1 (gnorm xs hs ss).2.1 (gnorm xs hs ss).2.2 := by
  have h1 := norm_length xs
  have h2 := met_length xs
  unfold FewG needG gnorm
  simp only [List.length_map]
  omega
theorem reverseOf_few {ws hs ss : List Int} (h : needG ws hs ss ≤ 1048576) : FewG (reverseOf ws hs ss).1.1 (reverseOf ws hs ss).1.2.1 (reverseOf ws hs ss).1.2.2 := by
  rcases hG : gaussB ws hs ss with _ | _
  · rw [reverseOf_no hG]; unfold FewG needG; simp
  · rw [reverseOf_yes hG]
    have := isWord_len (gaussB_word hG)
    exact gnorm_few (by simp; omega)
end Go.Proofs.YtiedekdghdgocaaDoor
