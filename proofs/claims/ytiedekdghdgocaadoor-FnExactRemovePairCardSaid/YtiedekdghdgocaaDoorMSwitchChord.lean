/- SwitchChord: the plain answer, makeIn of the switching. -/
import Derived.Test.YtiedekdghdgocaaDoorBehind
import Derived.Test.YtiedekdghdgocaaDoorKnotSwitch
import Derived.Test.YtiedekdghdgocaaDoorFMirrorGauss
namespace Go.Proofs.YtiedekdghdgocaaDoor
open Go.RowKit
set_option linter.unusedVariables false
set_option linter.unusedSimpArgs false
set_option maxRecDepth 100000

/-- a number of a list changed -/
def setAt (xs : List Int) (i : Int) (f : Int → Int) : List Int := xs.set i.toNat (f (xs[i.toNat]?.getD 0))
theorem setAt_len (xs : List Int) (i : Int) (f : Int → Int) : (setAt xs i f).length = xs.length := by simp [setAt]
def chordB (hs : List Int) (i : Int) : Bool := decide (0 ≤ i) && decide (i < (hs.length : Int))
def switchOf (ws hs ss : List Int) (i : Int) : Trip × Int :=
  if gaussB ws hs ss then (if chordB hs i then ((ws, setAt hs i (fun x => 1 - x), setAt ss i (fun x => -x)), 0) else (([], [], []), 2)) else (([], [], []), 1)
theorem switchOf_no {ws hs ss : List Int} {i : Int} (h : gaussB ws hs ss = false) : switchOf ws hs ss i = (([], [], []), 1) := by unfold switchOf; rw [h]; rfl
theorem switchOf_out {ws hs ss : List Int} {i : Int} (h : gaussB ws hs ss = true) (hi : chordB hs i = false) : switchOf ws hs ss i = (([], [], []), 2) := by unfold switchOf; rw [h, hi]; rfl
theorem switchOf_yes {ws hs ss : List Int} {i : Int} (h : gaussB ws hs ss = true) (hi : chordB hs i = true) : switchOf ws hs ss i = ((ws, setAt hs i (fun x => 1 - x), setAt ss i (fun x => -x)), 0) := by unfold switchOf; rw [h, hi]; rfl
theorem switchOf_err {ws hs ss : List Int} {i : Int} (h : (switchOf ws hs ss i).2 ≠ 0) : (switchOf ws hs ss i).1 = ([], [], []) := by
  unfold switchOf at h ⊢
  split
  · rename_i hg
    rw [if_pos hg] at h
    split
    · rename_i hc; rw [if_pos hc] at h; exact absurd rfl h
    · rfl
  · rfl
theorem switchOf_few {ws hs ss : List Int} {i : Int} (h : needG ws hs ss ≤ 1048576) : FewG (switchOf ws hs ss i).1.1 (switchOf ws hs ss i).1.2.1 (switchOf ws hs ss i).1.2.2 := by
  unfold FewG switchOf
  split
  · split
    · unfold needG at h ⊢
      simp only [setAt_len]; exact h
    · unfold needG; simp
  · unfold needG; simp
end Go.Proofs.YtiedekdghdgocaaDoor
