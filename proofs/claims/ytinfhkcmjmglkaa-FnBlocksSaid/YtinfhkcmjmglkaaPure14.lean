/- Plain facts for FnBlocks: closed places of a word; its blocks, joined, are the word. -/
import Derived.Test.YtinfhkcmjmglkaaPure12
import Derived.Test.YtinfhkcmjmglkaaPure6
namespace Go.Proofs.Ytinfhkcmjmglkaa
set_option linter.unusedVariables false
set_option linter.unusedSimpArgs false
set_option maxRecDepth 100000

theorem twos_of_length : ∀ (M xs : List Int), M.Nodup → (∀ x ∈ xs, x ∈ M) → (∀ m ∈ M, xs.count m ≤ 2) → xs.length ≤ 2 * M.length ∧ (xs.length = 2 * M.length → ∀ m ∈ M, xs.count m = 2) := by
  intro M
  induction M with
  | nil =>
    intro xs _ h _
    have : xs = [] := List.eq_nil_iff_forall_not_mem.2 (fun x hx => by have := h x hx; simp at this)
    subst this
    simp
  | cons a M ih =>
    intro xs hn h hc
    have hna := (List.nodup_cons.1 hn).1
    have hlen : ∀ L : List Int, L.length = L.count a + (L.filter fun x => x != a).length := by
      intro L
      induction L with
      | nil => rfl
      | cons b L ih =>
        rw [List.count_cons, List.filter_cons, List.length_cons]
        by_cases e : b = a
        · subst e; simp; omega
        · have e1 : (b == a) = false := by rw [beq_eq_false_iff_ne]; exact e
          have e2 : (b != a) = true := by rw [bne_iff_ne]; exact e
          rw [e1, e2]; simp; omega
    have hl := hlen xs
    have hcount : ∀ m ∈ M, (xs.filter fun x => x != a).count m = xs.count m := fun m hm => by
      rw [List.count_filter]
      rw [bne_iff_ne]; intro e; subst e; exact hna hm
    obtain ⟨i1, i2⟩ := ih (xs.filter fun x => x != a) (List.nodup_cons.1 hn).2 (fun x hx => by
      obtain ⟨hx1, hx2⟩ := List.mem_filter.1 hx
      rcases List.mem_cons.1 (h x hx1) with e | e
      · subst e; simp at hx2
      · exact e) (fun m hm => by rw [hcount m hm]; exact hc m (List.mem_cons_of_mem _ hm))
    have ha := hc a (List.mem_cons_self ..)
    rw [List.length_cons]
    refine ⟨by omega, fun he m hm => ?_⟩
    rcases List.mem_cons.1 hm with e | e
    · subst e; omega
    · rw [← hcount m e]; exact i2 (by omega) m e
theorem twice_norm {xs : List Int} (h : twice xs = true) : twice (norm xs) = true := by
  unfold twice
  rw [List.all_eq_true]
  intro y hy
  rw [norm_as_map] at hy ⊢
  obtain ⟨x, hx, rfl⟩ := List.mem_map.1 hy
  rw [beq_iff_eq, List.count_eq_countP, List.countP_map]
  rw [List.countP_congr (q := fun z => z == x) (fun z hz => by
    simp only [Function.comp_apply, beq_iff_eq]
    exact ⟨fun e => idx_inj _ z x ((met_mem _ _).2 hz) ((met_mem _ _).2 hx) (by omega), fun e => by rw [e]⟩)]
  rw [← List.count_eq_countP]
  exact twice_count h hx
theorem closed_count {xs : List Int} (h : isWord xs = true) (s : Nat) (hs : s ≤ xs.length) (hd : 2 * diff xs s = s) (y : Int) (hy : 0 ≤ y ∧ y < diff xs s) : (xs.take s).count y = 2 := by
  have hn := isWord_norm h
  have hle : ∀ m ∈ upTo (diff xs s), (xs.take s).count m ≤ 2 := fun m hm => by
    have h1 : (xs.take s).count m ≤ xs.count m := (List.take_sublist s xs).count_le m
    by_cases hx : m ∈ xs
    · rw [twice_count (isWord_twice h) hx] at h1; exact h1
    · rw [List.count_eq_zero_of_not_mem hx] at h1; omega
  obtain ⟨_, h2⟩ := twos_of_length (upTo (diff xs s)) (xs.take s) (by rw [← take_met hn s]; exact met_nodup _) (fun x hx => by rw [← take_met hn s, met_mem]; exact hx) hle
  exact h2 (by rw [List.length_take]; simp [upTo]; omega) y ((upTo_mem _ _).2 hy)
theorem closed_word {xs : List Int} (h : isWord xs = true) (s : Nat) (hs : s ≤ xs.length) (hd : 2 * diff xs s = s) : isWord (xs.take s) = true := by
  have hn := isWord_norm h
  have hl := isWord_len h
  unfold isWord
  simp only [Bool.and_eq_true, decide_eq_true_eq, beq_iff_eq]
  refine ⟨by rw [List.length_take]; omega, ?_, by rw [norm_take, hn]⟩
  unfold twice
  rw [List.all_eq_true]
  intro y hy
  rw [beq_iff_eq]
  exact closed_count h s hs hd y ((take_mem hn s y).1 hy)
theorem take_segm (xs : List Int) (s e : Nat) (h : s ≤ e) : xs.take e = xs.take s ++ segm xs s e := by
  unfold segm
  rw [← List.take_add]
  congr 1; omega
theorem segm_high {xs : List Int} (h : isWord xs = true) (s e : Nat) (hse : s ≤ e) (he : e ≤ xs.length) (hs : 2 * diff xs s = s) (hd : 2 * diff xs e = e) : ∀ y ∈ segm xs s e, y ∉ xs.take s ∧ (segm xs s e).count y = 2 := by
  have hn := isWord_norm h
  intro y hy
  have hye : y ∈ xs.take e := by rw [take_segm xs s e hse]; exact List.mem_append_right _ hy
  have hc := closed_count h e he hd y ((take_mem hn e y).1 hye)
  rw [take_segm xs s e hse, List.count_append] at hc
  have hpos : 0 < (segm xs s e).count y := List.count_pos_iff.2 hy
  have hno : y ∉ xs.take s := fun hys => by
    have := closed_count h s (by omega) hs y ((take_mem hn s y).1 hys)
    omega
  exact ⟨hno, by rw [List.count_eq_zero_of_not_mem hno] at hc; omega⟩
theorem block_word {xs : List Int} (h : isWord xs = true) (s e : Nat) (hse : s ≤ e) (he : e ≤ xs.length) (hs : 2 * diff xs s = s) (hd : 2 * diff xs e = e) : isWord (norm (segm xs s e)) = true := by
  have hl := isWord_len h
  unfold isWord
  simp only [Bool.and_eq_true, decide_eq_true_eq, beq_iff_eq]
  refine ⟨by rw [norm_length, segm_len xs s e he]; omega, twice_norm ?_, norm_norm _⟩
  unfold twice
  rw [List.all_eq_true]
  intro y hy
  rw [beq_iff_eq]
  exact (segm_high h s e hse he hs hd y hy).2
theorem join_block {xs : List Int} (h : isWord xs = true) (s e : Nat) (hse : s ≤ e) (he : e ≤ xs.length) (hs : 2 * diff xs s = s) (hd : 2 * diff xs e = e) :
    joinWords (xs.take s) (norm (segm xs s e)) = (xs.take e, 0) := by
  have hn := isWord_norm h
  have hl := isWord_len h
  have hlt : (xs.take s).length = s := by rw [List.length_take]; omega
  rw [join_yes (closed_word h s (by omega) hs) (block_word h s e hse he hs hd) (by rw [norm_length, segm_len xs s e he, hlt]; omega)]
  congr 1
  have h1 := (norm_app (xs.take s) (segm xs s e) (fun y hy => (segm_high h s e hse he hs hd y hy).1)).2
  rw [← take_segm xs s e hse, norm_take, hn, norm_take, hn, take_met hn s, show (upTo (diff xs s)).length = diff xs s from by simp [upTo]] at h1
  rw [joined_up (diff xs s) (by omega), up]
  exact h1.symm
end Go.Proofs.Ytinfhkcmjmglkaa
