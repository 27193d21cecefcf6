/- Plain: all words of n chords, in order. -/
import Derived.Test.YtacfiljclklkdaaPure9
namespace Go.Proofs.Ytacfiljclklkdaa
set_option linter.unusedVariables false
set_option linter.unusedSimpArgs false
set_option maxRecDepth 100000

/-- the words of n chords with a beginning, f numbers more; m chords have begun -/
def fillP (n : Nat) : Nat → List Int → Nat → List (List Int)
  | 0, b, _ => [b]
  | f + 1, b, m => (List.range (min (m + 1) n)).flatMap fun x : Nat => if b.count (x : Int) < 2 then fillP n f (b ++ [(x : Int)]) (max m (x + 1)) else []
def wordsP (n : Nat) : List (List Int) := fillP n (2 * n) [] 0

theorem twos_of : ∀ (M xs : List Int), M.Nodup → (∀ x ∈ xs, x ∈ M) → (∀ m ∈ M, xs.count m ≤ 2) → xs.length ≤ 2 * M.length ∧ (xs.length = 2 * M.length → ∀ m ∈ M, xs.count m = 2) := by
  intro M
  induction M with
  | nil =>
    intro xs _ h _
    have : xs = [] := List.eq_nil_iff_forall_not_mem.2 (fun x hx => by have := h x hx; simp at this)
    subst this
    simp
  | cons a M ih =>
    intro xs hn h hc
    have hna := (List.nodup_cons.1 hn).1
    have hlen : ∀ L : List Int, L.length = L.count a + (L.filter fun x => x != a).length := by
      intro L
      induction L with
      | nil => rfl
      | cons b L ih =>
        rw [List.count_cons, List.filter_cons, List.length_cons]
        by_cases e : b = a
        · subst e; simp; omega
        · have e1 : (b == a) = false := by rw [beq_eq_false_iff_ne]; exact e
          have e2 : (b != a) = true := by rw [bne_iff_ne]; exact e
          rw [e1, e2]; simp; omega
    have hl := hlen xs
    have hcount : ∀ m ∈ M, (xs.filter fun x => x != a).count m = xs.count m := fun m hm => by
      rw [List.count_filter]
      rw [bne_iff_ne]; intro e; subst e; exact hna hm
    obtain ⟨i1, i2⟩ := ih (xs.filter fun x => x != a) (List.nodup_cons.1 hn).2 (fun x hx => by
      obtain ⟨hx1, hx2⟩ := List.mem_filter.1 hx
      rcases List.mem_cons.1 (h x hx1) with e | e
      · subst e; simp at hx2
      · exact e) (fun m hm => by rw [hcount m hm]; exact hc m (List.mem_cons_of_mem _ hm))
    have ha := hc a (List.mem_cons_self ..)
    rw [List.length_cons]
    refine ⟨by omega, fun he m hm => ?_⟩
    rcases List.mem_cons.1 hm with e | e
    · subst e; omega
    · rw [← hcount m e]; exact i2 (by omega) m e

/-- a beginning of words of n chords -/
structure Begun (n : Nat) (b : List Int) (m : Nat) : Prop where
  nrm : norm b = b
  met_ : met b = upTo m
  le : m ≤ n
  two : ∀ x, b.count x ≤ 2
theorem begun_nil (n : Nat) : Begun n [] 0 := ⟨rfl, rfl, by omega, fun x => by simp⟩
theorem Begun.step {n : Nat} {b : List Int} {m x : Nat} (h : Begun n b m) (hx : x < min (m + 1) n) (hc : b.count (x : Int) < 2) : Begun n (b ++ [(x : Int)]) (max m (x + 1)) := by
  have hl : (upTo m).length = m := by simp [upTo]
  refine ⟨?_, ?_, by have := h.le; omega, fun y => ?_⟩
  · rw [norm_snoc, h.nrm, h.met_]
    by_cases hm : x < m
    · rw [if_pos ((upTo_mem m x).2 (by omega)), upTo_idx m x hm]
    · rw [if_neg (by rw [upTo_mem]; omega), hl]
      have : x = m := by omega
      subst this; rfl
  · rw [met_snoc, h.met_]
    by_cases hm : x < m
    · rw [if_pos ((upTo_mem m x).2 (by omega)), Nat.max_eq_left (by omega)]
    · rw [if_neg (by rw [upTo_mem]; omega)]
      have : x = m := by omega
      subst this
      rw [Nat.max_eq_right (by omega)]
      simp [upTo, List.range_succ]
  · rw [List.count_append]
    have := h.two y
    by_cases e : y = (x : Int)
    · subst e; simp; omega
    · rw [List.count_singleton, if_neg (by rw [beq_iff_eq]; exact fun e2 => e e2.symm)]; omega
theorem Begun.full {n : Nat} {b : List Int} {m : Nat} (h : Begun n b m) (hn : n ≤ 6) (hl : b.length = 2 * n) : isWord b = true := by
  have hm : (upTo m).length = m := by simp [upTo]
  have hnd : (upTo m).Nodup := by rw [← h.met_]; exact met_nodup b
  have hmem : ∀ x ∈ b, x ∈ upTo m := fun x hx => by rw [← h.met_]; exact (met_mem b x).2 hx
  obtain ⟨h1, h2⟩ := twos_of (upTo m) b hnd hmem (fun y _ => h.two y)
  have hle := h.le
  have h3 := h2 (by omega)
  unfold isWord twice
  rw [h.nrm]
  simp only [Bool.and_eq_true, decide_eq_true_eq, List.all_eq_true, beq_iff_eq, and_true]
  exact ⟨by omega, fun x hx => h3 x (hmem x hx)⟩
theorem fillP_sound (n : Nat) (hn : n ≤ 6) : ∀ f b m, Begun n b m → b.length + f = 2 * n → ∀ w ∈ fillP n f b m, isWord w = true ∧ w.length = 2 * n ∧ b <+: w := by
  intro f
  induction f with
  | zero =>
    intro b m h hl w hw
    simp only [fillP, List.mem_singleton] at hw
    subst hw
    exact ⟨h.full hn (by omega), by omega, List.prefix_refl _⟩
  | succ f ih =>
    intro b m h hl w hw
    simp only [fillP] at hw
    obtain ⟨x, hx, hw⟩ := List.mem_flatMap.1 hw
    rw [List.mem_range] at hx
    split at hw
    · rename_i hc
      obtain ⟨h1, h2, h3⟩ := ih _ _ (h.step hx hc) (by simp; omega) w hw
      exact ⟨h1, h2, (List.prefix_append b [(x : Int)]).trans h3⟩
    · cases hw
theorem wordsP_sound (n : Nat) (hn : n ≤ 6) : ∀ w ∈ wordsP n, isWord w = true ∧ w.length = 2 * n := fun w hw => by
  have h := fillP_sound n hn (2 * n) [] 0 (begun_nil n) (by simp) w hw
  exact ⟨h.1, h.2.1⟩
theorem take_snoc (xs : List Int) (k : Nat) (hk : k < xs.length) : xs.take (k + 1) = xs.take k ++ [xs[k]?.getD 0] := by
  rw [List.take_succ_eq_append_getElem hk]; simp [List.getElem?_eq_getElem hk]
theorem fillP_all {xs : List Int} (h : isWord xs = true) (n : Nat) (hl : xs.length = 2 * n) : ∀ f j, j + f = 2 * n → xs ∈ fillP n f (xs.take j) (diff xs j) := by
  intro f
  induction f with
  | zero => intro j hj; simp only [fillP, List.mem_singleton]; rw [List.take_of_length_le (by omega)]
  | succ f ih =>
    intro j hj
    have hn := isWord_norm h
    have hjl : j < xs.length := by omega
    have hih := ih (j + 1) (by omega)
    rw [take_snoc xs j hjl] at hih
    have hmem : xs[j]?.getD 0 ∈ xs := by rw [List.getElem?_eq_getElem hjl]; exact List.getElem_mem _
    have hlt := word_lt h hmem
    obtain ⟨y, hy⟩ := Int.eq_ofNat_of_zero_le hlt.1
    have hcnt : (xs.take j).count (xs[j]?.getD 0) < 2 := by
      have h2 := twice_count (isWord_twice h) hmem
      have h3 : (xs.take (j + 1)).count (xs[j]?.getD 0) ≤ xs.count (xs[j]?.getD 0) := (List.take_sublist _ _).count_le _
      rw [take_snoc xs j hjl, List.count_append] at h3
      simp at h3
      omega
    simp only [fillP]
    refine List.mem_flatMap.2 ⟨y, ?_, ?_⟩
    · rw [List.mem_range]
      rcases word_at hn j hjl with ⟨_, _, h2, _⟩ | ⟨_, h2, _⟩ <;> omega
    · rw [if_pos (by rw [hy] at hcnt; exact hcnt)]
      rw [hy] at hih
      have e : max (diff xs j) (y + 1) = diff xs (j + 1) := by
        rcases word_at hn j hjl with ⟨_, _, h2, h3⟩ | ⟨_, h2, h3⟩ <;> omega
      rw [e]; exact hih
theorem wordsP_all {xs : List Int} (h : isWord xs = true) (n : Nat) (hl : xs.length = 2 * n) : xs ∈ wordsP n := by
  have h1 := fillP_all h n hl (2 * n) 0 (by omega)
  rw [diff_zero] at h1
  unfold wordsP; simpa using h1
theorem wordsP_count : (wordsP 0).length = 1 ∧ (wordsP 1).length = 1 ∧ (wordsP 2).length = 3 ∧ (wordsP 3).length = 15 ∧ (wordsP 4).length = 105 ∧ (wordsP 5).length = 945 := by decide +kernel
end Go.Proofs.Ytacfiljclklkdaa
