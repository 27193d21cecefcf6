/- Plain: words with chords taken away are words. -/
import Derived.Test.YtofcldplgkejiaaPure7
namespace Go.Proofs.Ytofcldplgkejiaa
set_option linter.unusedVariables false
set_option linter.unusedSimpArgs false

theorem twice_normW {xs : List Int} (h : twice xs = true) : twice (norm xs) = true := by
  unfold twice
  rw [List.all_eq_true]
  intro y hy
  rw [norm_as_map] at hy ⊢
  obtain ⟨x, hx, rfl⟩ := List.mem_map.1 hy
  rw [beq_iff_eq, List.count_eq_countP, List.countP_map]
  rw [List.countP_congr (q := fun z => z == x) (fun z hz => by
    simp only [Function.comp_apply, beq_iff_eq]
    exact ⟨fun e => idx_inj _ z x ((met_mem _ _).2 hz) ((met_mem _ _).2 hx) (by omega), fun e => by rw [e]⟩)]
  rw [← List.count_eq_countP]
  exact twice_count h hx
theorem twice_perm {xs ys : List Int} (h : xs.Perm ys) (ht : twice xs = true) : twice ys = true := by
  unfold twice at *
  rw [List.all_eq_true] at *
  intro x hx
  rw [← h.count_eq x]
  exact ht x (h.mem_iff.2 hx)
theorem twice_filter {xs : List Int} (f : Int → Bool) (ht : twice xs = true) : twice (xs.filter f) = true := by
  unfold twice at *
  rw [List.all_eq_true] at *
  intro x hx
  obtain ⟨h1, h2⟩ := List.mem_filter.1 hx
  rw [List.count_filter h2]
  exact ht x h1
theorem norm_word {xs : List Int} (ht : twice xs = true) (hl : xs.length ≤ 12) : isWord (norm xs) = true := by
  unfold isWord
  rw [norm_length, twice_normW ht, norm_norm]
  simp [hl]
end Go.Proofs.Ytofcldplgkejiaa
