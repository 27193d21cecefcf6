/- Plain: words turned, reflected, with chords taken away, joined, are words. -/
import Derived.Test.YtofcldplgkejiaaPure7
import Derived.Test.YtofcldplgkejiaaNormWord
import Derived.Test.YtofcldplgkejiaaFJoinWords
import Derived.Test.YtofcldplgkejiaaFDeleteChord
import Derived.Test.YtofcldplgkejiaaReflect
import Derived.Test.YtofcldplgkejiaaLeast
namespace Go.Proofs.Ytofcldplgkejiaa
set_option linter.unusedVariables false
set_option linter.unusedSimpArgs false

theorem norm_appW (A : List Int) (B : List Int) (h : ∀ x ∈ B, x ∉ A) : met (A ++ B) = met A ++ met B ∧ norm (A ++ B) = norm A ++ (norm B).map fun y => y + ((met A).length : Int) := by
  induction B using snoc_ind with
  | h0 => simp [met_nil, norm_nil]
  | h1 B x ih =>
    obtain ⟨i1, i2⟩ := ih (fun y hy => h y (by simp [hy]))
    have hx : x ∉ met A := fun e => h x (by simp) ((met_mem _ _).1 e)
    rw [← List.append_assoc, met_snoc, norm_snoc, met_snoc, norm_snoc, i1, i2]
    by_cases hb : x ∈ met B
    · rw [if_pos (List.mem_append_right _ hb), if_pos hb, if_pos (List.mem_append_right _ hb), if_pos hb]
      refine ⟨rfl, ?_⟩
      rw [List.map_append, List.append_assoc, List.idxOf_append, if_neg hx]
      simp
    · have hab : x ∉ met A ++ met B := fun e => by
        rcases List.mem_append.1 e with e | e
        · exact hx e
        · exact hb e
      rw [if_neg hab, if_neg hb, if_neg hab, if_neg hb]
      refine ⟨by rw [List.append_assoc], ?_⟩
      rw [List.map_append, List.append_assoc]
      simp
      omega
theorem rot_word {xs : List Int} (h : isWord xs = true) (k : Nat) : isWord (rot xs k) = true := by
  unfold rot
  refine norm_word (twice_perm ?_ (isWord_twice h)) ?_
  · have h1 : (xs.take k ++ xs.drop k).Perm (xs.drop k ++ xs.take k) := List.perm_append_comm
    rwa [List.take_append_drop] at h1
  · have := isWord_len h; simp; omega
theorem leastTo_word {xs : List Int} (h : isWord xs = true) (k : Nat) : isWord (leastTo xs k) = true := by
  induction k with
  | zero => exact h
  | succ k ih =>
    unfold leastTo
    split
    · exact rot_word h k
    · exact ih
theorem least_word {xs : List Int} (h : isWord xs = true) : isWord (least xs) = true := leastTo_word h _
theorem refl_word {xs : List Int} (h : isWord xs = true) : isWord (refl xs) = true := by
  unfold refl
  exact norm_word (twice_perm (List.reverse_perm xs).symm (isWord_twice h)) (by simpa using isWord_len h)
theorem without_word {xs : List Int} (h : isWord xs = true) (i : Int) : isWord (without xs i) = true := by
  unfold without
  exact norm_word (twice_filter _ (isWord_twice h)) (Nat.le_trans (List.length_filter_le _ _) (isWord_len h))
theorem joined_isWord {xs ys : List Int} (h : isWord xs = true) (h2 : isWord ys = true) (hl : xs.length + ys.length ≤ 12) : isWord (joined xs ys) = true := by
  have hh := word_half h
  obtain ⟨n, hn⟩ : ∃ n, n = xs.length / 2 := ⟨_, rfl⟩
  have e : joined xs ys = xs ++ ys.map fun y => y + (n : Int) := by
    unfold joined
    rw [show ((xs.length : Int) / 2) = (n : Int) by omega]
  rw [e]
  have hm : (met xs).length = n := by have := twice_met (isWord_twice h); omega
  have hlow : ∀ y ∈ xs, 0 ≤ y ∧ y < n := fun y hy => by have := word_lt h hy; omega
  have hup : ∀ y ∈ ys.map (fun y => y + (n : Int)), (n : Int) ≤ y := fun y hy => by
    obtain ⟨z, hz, rfl⟩ := List.mem_map.1 hy
    have := word_lt h2 hz; omega
  have hd : ∀ y ∈ ys.map (fun y => y + (n : Int)), y ∉ xs := fun y hy e => by have := hup y hy; have := hlow y e; omega
  unfold isWord
  simp only [Bool.and_eq_true, decide_eq_true_eq, beq_iff_eq]
  refine ⟨by rw [List.length_append, List.length_map]; exact hl, ?_, ?_⟩
  · unfold twice
    rw [List.all_eq_true]
    intro y hy
    rw [beq_iff_eq, List.count_append]
    rcases List.mem_append.1 hy with e | e
    · rw [twice_count (isWord_twice h) e, List.count_eq_zero_of_not_mem (fun e2 => hd y e2 e)]
    · rw [List.count_eq_zero_of_not_mem (hd y e)]
      obtain ⟨z, hz, rfl⟩ := List.mem_map.1 e
      rw [Nat.zero_add]
      rw [List.count_eq_countP, List.countP_map, List.countP_congr (q := fun t => t == z) (fun t _ => by
        simp only [Function.comp_apply, beq_iff_eq]
        exact ⟨fun e => by omega, fun e => by omega⟩), ← List.count_eq_countP]
      exact twice_count (isWord_twice h2) hz
  · rw [(norm_appW xs _ hd).2, hm, isWord_norm h]
    congr 1
    rw [(norm_mapP _ ys (fun x _ y _ e => by omega)).1, isWord_norm h2]
end Go.Proofs.Ytofcldplgkejiaa
