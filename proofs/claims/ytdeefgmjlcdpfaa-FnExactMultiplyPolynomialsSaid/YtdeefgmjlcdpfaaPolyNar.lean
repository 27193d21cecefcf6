/- MultiplyPolynomials, the program's two cells: the narrowed number tells what the sum tells. -/
import Derived.Test.YtdeefgmjlcdpfaaPolyMul
namespace Go.Proofs.Ytdeefgmjlcdpfaa
open Go.RowKit
set_option linter.unusedVariables false
set_option linter.unusedSimpArgs false
set_option maxRecDepth 100000

/-- the narrowed number -/
def narr (T R : Int) : Int := min (max (T + R.tdiv 1000000000) (-2)) 2 * 1000000000 + R.tmod 1000000000
theorem rest_bd (R : Int) : -1000000000 < R.tmod 1000000000 ∧ R.tmod 1000000000 < 1000000000 := by
  by_cases hy : 0 ≤ R
  · rw [Int.tmod_eq_emod_of_nonneg hy]; omega
  · have e1 : R.tmod 1000000000 = -((-R) % 1000000000) := by rw [← Int.tmod_eq_emod_of_nonneg (by omega), Int.neg_tmod, Int.neg_neg]
    rw [e1]; omega
theorem narr_in {T R : Int} (h : within (T * 1000000000 + R) = true) : narr T R = T * 1000000000 + R := by
  have h1 := inB_true.1 h
  have h2 := Int.mul_tdiv_add_tmod R 1000000000
  have h3 := rest_bd R
  unfold narr
  omega
theorem narr_out {T R : Int} (h : within (T * 1000000000 + R) = false) : within (narr T R) = false := by
  have h1 := inB_false.1 h
  have h2 := Int.mul_tdiv_add_tmod R 1000000000
  have h3 := rest_bd R
  refine inB_false.2 ?_
  unfold narr
  omega
theorem tab_getD {n : Nat} {h : Nat → Int} {j : Nat} (hj : j < n) : (tab n h)[j]?.getD 0 = h j := by rw [tab_get hj]; rfl
theorem told_narr (T R : Nat → Int) (n : Nat) : toldP (trim (tab n (fun j => narr (T j) (R j)))) = toldP (trim (tab n (fun j => T j * 1000000000 + R j))) := by
  by_cases hall : ∀ j, j < n → within (T j * 1000000000 + R j) = true
  · rw [tab_ext (fun j hj => narr_in (hall j hj))]
  · obtain ⟨j, hj, h⟩ : ∃ j, j < n ∧ within (T j * 1000000000 + R j) = false := by
      apply Classical.byContradiction
      intro hc
      apply hall
      intro j hj
      rcases hw : within (T j * 1000000000 + R j) with _ | _
      · exact absurd ⟨j, hj, hw⟩ hc
      · rfl
    rw [told_great (j := j) (by rw [tab_length]; exact hj) (by rw [tab_getD hj]; exact narr_out h), told_great (j := j) (by rw [tab_length]; exact hj) (by rw [tab_getD hj]; exact h)]
/-- a product in two parts -/
def timesM (x y : Int) : Int := (x * y).tdiv 1000000000
def restM (x y : Int) : Int := (x * y).tmod 1000000000
theorem timesrest (x y : Int) : mul2 x y = timesM x y * 1000000000 + restM x y := by
  unfold mul2 timesM restM
  have h := Int.mul_tdiv_add_tmod (x * y) 1000000000
  omega
theorem told_mulL (f g : List Int) (n : Nat) : toldP (trim (tab n (fun j => narr (cvR timesM f g f.length j) (cvR restM f g f.length j)))) = toldP (trim (mulL f g n)) := by
  rw [told_narr]
  unfold mulL
  rw [tab_ext (fun j _ => cvR_lin 1000000000 timesrest f g f.length j)]
end Go.Proofs.Ytdeefgmjlcdpfaa
