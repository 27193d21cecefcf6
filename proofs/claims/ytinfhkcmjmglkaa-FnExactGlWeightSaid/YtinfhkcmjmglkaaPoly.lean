/- IsPolynomial: the model's and the program's contract. -/
import Derived.Test.YtinfhkcmjmglkaaSmall
namespace Go.Proofs.Ytinfhkcmjmglkaa
open Go.RowKit
set_option linter.unusedVariables false
set_option linter.unusedSimpArgs false
set_option maxRecDepth 100000

/-- a number that a polynomial may have -/
def within (x : Int) : Bool := inB x (-1000000000) 1000000000
def lastZ (f : List Int) : Bool := decide (0 < f.length) && (f[f.length - 1]?.getD 0 == 0)
def polyB (f : List Int) : Bool := f.all within && (decide (f.length ≤ 41) && !lastZ f)
theorem within_all {f : List Int} (h : ∀ j, j < f.length → within (f[j]?.getD 0) = true) : f.all within = true := by
  rw [List.all_eq_true]
  intro x hx
  obtain ⟨j, hj, rfl⟩ := List.getElem_of_mem hx
  have := h j hj
  rwa [List.getElem?_eq_getElem hj] at this
theorem within_not {f : List Int} {k : Nat} (hk : k < f.length) (h : within (f[k]?.getD 0) = false) : f.all within = false := by
  rw [List.getElem?_eq_getElem hk] at h
  rw [Bool.eq_false_iff]; intro hc
  rw [List.all_eq_true] at hc
  have h2 := hc _ (List.getElem_mem hk)
  simp only [Option.getD_some] at h
  rw [h] at h2; cases h2
theorem polyB_len {f : List Int} (h : polyB f = true) : f.length ≤ 41 := by
  unfold polyB at h; simp at h; exact h.2.1
theorem polyB_at {f : List Int} (h : polyB f = true) (k : Nat) : -1000000000 ≤ f[k]?.getD 0 ∧ f[k]?.getD 0 ≤ 1000000000 := by
  unfold polyB at h
  by_cases hk : k < f.length
  · have h1 : f.all within = true := by simp only [Bool.and_eq_true] at h; exact h.1
    rw [List.all_eq_true] at h1
    have h2 := h1 _ (List.getElem_mem hk)
    rw [List.getElem?_eq_getElem hk]
    exact inB_true.1 h2
  · rw [List.getElem?_eq_none (by omega)]; simp
theorem lastZ_none {f : List Int} (h : f.length = 0) : lastZ f = false := by unfold lastZ; rw [h]; rfl
theorem lastZ_yes {f : List Int} (h : 0 < f.length) (h2 : f[f.length - 1]?.getD 0 = 0) : lastZ f = true := by unfold lastZ; rw [h2]; simpa using h
theorem lastZ_no {f : List Int} (h2 : f[f.length - 1]?.getD 0 ≠ 0) : lastZ f = false := by unfold lastZ; rw [beq_eq_false_iff_ne.2 h2]; simp
theorem in_of (a b c : Int) (r : Bool) (w : World) (h : inB a b c = r) : Calls Try.prog 92 #[.int .i64 a, .int .i64 b, .int .i64 c] w fun e w' => e = .returned (.bool r) ∧ w' = w :=
  (in_any a b c w).mono fun _ _ ⟨h1, h2⟩ => ⟨by rw [h1, h], h2.symm⟩


end Go.Proofs.Ytinfhkcmjmglkaa
