/- SwitchChord: the plain answer, makeIn of the switching. -/
import Derived.Test.YtbbhdghjmofooaaDoorBehind
import Derived.Test.YtbbhdghjmofooaaDoorKnotSwitch
import Derived.Test.YtbbhdghjmofooaaDoorFMirrorGauss
namespace Go.Proofs.YtbbhdghjmofooaaDoor
open Go.RowKit
set_option linter.unusedVariables false
set_option linter.unusedSimpArgs false
set_option maxRecDepth 100000

/-- a number of a list changed -/
def setAt (xs : List Int) (i : Int) (f : Int → Int) : List Int := xs.set i.toNat (f (xs[i.toNat]?.getD 0))
theorem setAt_len (xs : List Int) (i : Int) (f : Int → Int) : (setAt xs i f).length = xs.length := by simp [setAt]
def chordB (hs : List Int) (i : Int) : Bool := decide (0 ≤ i) && decide (i < (hs.length : Int))
def switchOf (ws hs ss : List Int) (i : Int) : Trip × Int :=
  if gaussB ws hs ss then (if chordB hs i then ((ws, setAt hs i (fun x => 1 - x), setAt ss i (fun x => -x)), 0) else (([], [], []), 2)) else (([], [], []), 1)
theorem switchOf_no {ws hs ss : List Int} {i : Int} (h : gaussB ws hs ss = false) : switchOf ws hs ss i = (([], [], []), 1) := by unfold switchOf; rw [h]; rfl
theorem switchOf_out {ws hs ss : List Int} {i : Int} (h : gaussB ws hs ss = true) (hi : chordB hs i = false) : switchOf ws hs ss i = (([], [], []), 2) := by unfold switchOf; rw [h, hi]; rfl
theorem switchOf_yes {ws hs ss : List Int} {i : Int} (h : gaussB ws hs ss = true) (hi : chordB hs i = true) : switchOf ws hs ss i = ((ws, setAt hs i (fun x => 1 - x), setAt ss i (fun x => -x)), 0) := by unfold switchOf; rw [h, hi]; rfl
theorem switchOf_err {ws hs ss : List Int} {i : Int} (h : (switchOf ws hs ss i).2 ≠ 0) : (switchOf ws hs ss i).1 = ([], [], []) := by
  unfold switchOf at h ⊢
  split
  · rename_i hg
    rw [if_pos hg] at h
    split
    · rename_i hc; rw [if_pos hc] at h; exact absurd rfl h
    · rfl
  · rfl
theorem switchOf_few {ws hs ss : List Int} {i : Int} (h : needG ws hs ss ≤ 1048576) : FewG (switchOf ws hs ss i).1.1 (switchOf ws hs ss i).1.2.1 (switchOf ws hs ss i).1.2.2 := by
  unfold FewG switchOf
  split
  · split
    · unfold needG at h ⊢
      simp only [setAt_len]; exact h
    · unfold needG; simp
  · unfold needG; simp
theorem makesSwitchChord (lo kb : Nat) (L : List Nd) (ars : List Nat) (av : Value) (ws hs ss : List Int) (i : Int) (w : World) (hk : KnotW w lo kb L ars av ws hs ss) (hG : gaussB ws hs ss = true) (hl : ars.length = hs.length) (hlo : lo ≤ w.heap.size) (hi : -9223372036854775808 ≤ i ∧ i ≤ 9223372036854775807) :
    Calls Tryd.prog 102 #[.agg #[.int .i64 i], ptr kb] w (MadeIn kb lo (switchOf ws hs ss i) w) := by
  obtain ⟨hx, h12, h6, hhl, hsl, hhb, hsb⟩ := gauss_ars hG hl
  refine (switching_any lo kb L ars av ws hs ss w i hk (by omega) hhl hsl hlo hhb hsb).mono ?_
  rintro e w' ⟨hyes, hno, hb⟩
  have hlns := gaussB_lens hG
  by_cases hc : 0 ≤ i ∧ i < (ars.length : Int)
  · obtain ⟨rfl, hk'⟩ := hyes hc
    have hcb : chordB hs i = true := by unfold chordB; rw [← hl]; simp [hc.1, hc.2]
    refine made_of_knot hk' hx (by omega) ?_ hb
    rw [switchOf_yes hG hcb]
    have h1 := gnorm_word (gaussB_word hG) (hs := setAt hs i (fun x => 1 - x)) (ss := setAt ss i (fun x => -x)) (by rw [setAt_len]; exact hlns.2.1) (by rw [setAt_len]; exact hlns.2.2)
    rw [← h1]; rfl
  · have he := hno hc
    subst he
    have hcb : chordB hs i = false := by
      rw [← Bool.not_eq_true]; unfold chordB; rw [← hl]; simpa using fun h => by omega
    exact made_panic (by rw [switchOf_out hG hcb]) (by decide) hb
end Go.Proofs.YtbbhdghjmofooaaDoor
