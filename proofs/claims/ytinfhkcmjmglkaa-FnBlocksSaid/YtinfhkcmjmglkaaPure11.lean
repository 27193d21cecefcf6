/- Plain facts on chords added and deleted, parts of words, totals of rows. -/
import Derived.Test.YtinfhkcmjmglkaaPure10
import Derived.Test.YtinfhkcmjmglkaaPure7
import Derived.Test.YtinfhkcmjmglkaaFAddChord
import Derived.Test.YtinfhkcmjmglkaaFDeleteChord
import Derived.Test.YtinfhkcmjmglkaaFWordOfChords
import Derived.Test.YtinfhkcmjmglkaaFJoinWords
namespace Go.Proofs.Ytinfhkcmjmglkaa
set_option linter.unusedVariables false
set_option linter.unusedSimpArgs false
set_option maxRecDepth 100000

/-- rows' totals -/
def totRows (xs : List Int) (n : Nat) : Nat → Int
  | 0 => 0
  | k + 1 => totRows xs n k + total ((rowOf xs k).take n)
theorem row_sym {xs : List Int} (h : isWord xs = true) {i k : Nat} (hi : i < xs.length / 2) (hk : k < xs.length / 2) : (rowOf xs i)[k]?.getD 0 = (rowOf xs k)[i]?.getD 0 := by
  rw [rowOf_get xs i k hk, rowOf_get xs k i hi, crossAt_symm h hi hk]
theorem totRows_col {xs : List Int} (h : isWord xs = true) (n : Nat) (hn : n < xs.length / 2) : ∀ k, k ≤ n → totRows xs (n + 1) k = totRows xs n k + total ((rowOf xs n).take k) := by
  intro k
  induction k with
  | zero => intro _; simp [totRows, total]
  | succ k ih =>
    intro hk
    rw [totRows, totRows, ih (by omega), total_take (rowOf xs k) n (by rw [rowOf_length]; exact hn), total_take (rowOf xs n) k (by rw [rowOf_length]; omega), row_sym h (show n < xs.length / 2 by omega) (show k < xs.length / 2 by omega)]
    omega
theorem totRows_two {xs : List Int} (h : isWord xs = true) : ∀ k, k ≤ xs.length / 2 → totRows xs k k = 2 * crossTo xs k := by
  intro k
  induction k with
  | zero => intro _; rfl
  | succ k ih =>
    intro hk
    have h0 : (rowOf xs k)[k]?.getD 0 = 0 := by rw [rowOf_get xs k k (by omega), crossAt_self]; rfl
    rw [totRows, totRows_col h k (by omega) k (Nat.le_refl _), ih (by omega), total_take (rowOf xs k) k (by rw [rowOf_length]; omega), h0, crossTo]
    omega
/-- the totals of whole rows -/
def totals (xs : List Int) : Nat → Int
  | 0 => 0
  | k + 1 => totals xs k + total (rowOf xs k)
theorem totals_eq (xs : List Int) (k : Nat) : totals xs k = totRows xs (xs.length / 2) k := by
  induction k with
  | zero => rfl
  | succ k ih => rw [totals, totRows, ih, List.take_of_length_le (by rw [rowOf_length]; exact Nat.le_refl _)]
theorem totals_two {xs : List Int} (h : isWord xs = true) : totals xs (xs.length / 2) = 2 * crossCount xs := by
  rw [totals_eq, totRows_two h _ (Nat.le_refl _)]; rfl
theorem totals_bd (xs : List Int) (k : Nat) (hl : xs.length ≤ 12) : 0 ≤ totals xs k ∧ totals xs k ≤ 6 * k := by
  induction k with
  | zero => simp [totals]
  | succ k ih =>
    have := total_bd (rowOf xs k) (rowOf_01 xs k)
    rw [rowOf_length] at this
    rw [totals]; omega

theorem upTo_get (m k : Nat) (h : k < m) : (upTo m)[k]?.getD 0 = (k : Int) := by simp [upTo, h]
theorem okTo_upTo (m : Nat) : ∀ k, k ≤ m → okTo m (upTo m) k = true := by
  intro k
  induction k with
  | zero => intro _; rfl
  | succ k ih =>
    intro hk
    rw [okTo, ih (by omega), upTo_get m k (by omega)]
    by_cases e : k = 0
    · subst e; simp [inB]; omega
    · rw [upTo_get m (k - 1) (by omega)]; simp [inB, e]; omega
theorem whole_word {xs : List Int} (h : isWord xs = true) : wordOfChords xs (upTo (xs.length / 2)) = (xs, 0) := by
  rw [wordOfChords_yes h (okTo_upTo _ _ (by simp [upTo]))]
  unfold someOf
  rw [List.filter_eq_self.2 (fun x hx => by
    have := word_lt h hx
    simp only [decide_eq_true_eq]
    rw [upTo_mem]; omega), isWord_norm h]
theorem okTo_asc (m : Nat) (ys : List Int) : ∀ k, k ≤ ys.length → okTo m ys k = true → (ys.take k).Pairwise (· < ·) ∧ (∀ y ∈ ys.take k, 0 ≤ y ∧ y < m) ∧ (∀ y ∈ ys.take k, y ≤ ys[k - 1]?.getD 0) := by
  intro k
  induction k with
  | zero => intro _ _; simp
  | succ k ih =>
    intro hk ho
    rw [okTo] at ho
    simp only [Bool.and_eq_true, Bool.or_eq_true, decide_eq_true_eq, inB] at ho
    obtain ⟨h1, ⟨h2, h3⟩, h4⟩ := ho
    obtain ⟨i1, i2, i3⟩ := ih (by omega) h1
    have e : ys.take (k + 1) = ys.take k ++ [ys[k]?.getD 0] := by rw [List.take_succ_eq_append_getElem (by omega), List.getElem?_eq_getElem (by omega)]; rfl
    rw [e]
    have hlt : ∀ y ∈ ys.take k, y < ys[k]?.getD 0 := fun y hy => by
      rcases h4 with h4 | h4
      · subst h4; simp at hy
      · have := i3 y hy; omega
    refine ⟨?_, fun y hy => ?_, fun y hy => ?_⟩
    · rw [List.pairwise_append]
      exact ⟨i1, by simp, fun a ha b hb => by simp only [List.mem_singleton] at hb; subst hb; exact hlt a ha⟩
    · rcases List.mem_append.1 hy with h | h
      · exact i2 y h
      · simp only [List.mem_singleton] at h; subst h; omega
    · rw [Nat.add_sub_cancel]
      rcases List.mem_append.1 hy with h | h
      · have := hlt y h; omega
      · simp only [List.mem_singleton] at h; subst h; omega
theorem part_length {xs ys : List Int} (h : isWord xs = true) (ho : okTo (xs.length / 2) ys ys.length = true) : (someOf xs ys).length = 2 * ys.length := by
  obtain ⟨h1, h2, _⟩ := okTo_asc _ ys ys.length (Nat.le_refl _) ho
  rw [List.take_of_length_le (Nat.le_refl _)] at h1 h2
  unfold someOf
  rw [norm_length]
  refine length_of_twos ys _ (h1.imp (fun {a b} hab => by omega)) (fun x hx => by simpa using (List.mem_filter.1 hx).2) (fun y hy => ?_)
  rw [List.count_filter (by simpa using hy)]
  obtain ⟨j, hj⟩ := Int.eq_ofNat_of_zero_le (h2 y hy).1
  have := word_count h (i := j) (by have := (h2 y hy).2; omega)
  rw [hj]; exact this

theorem put2_split (xs : List Int) (p q : Nat) (h : p ≤ q) : xs.take p ++ (xs.drop p).take (q - p) ++ xs.drop q = xs := by
  have e : xs.drop q = (xs.drop p).drop (q - p) := by rw [List.drop_drop]; congr 1; omega
  rw [List.append_assoc, e, List.take_append_drop, List.take_append_drop]
theorem put2_filter (xs : List Int) (p q : Nat) (h : p ≤ q) (h99 : ∀ x ∈ xs, x ≠ 99) : (put2 xs 99 p q).filter (fun x => x != 99) = xs := by
  have f1 : (xs.take p).filter (fun x => x != 99) = xs.take p := List.filter_eq_self.2 (fun x hx => by simpa using h99 x (List.mem_of_mem_take hx))
  have f2 : ((xs.drop p).take (q - p)).filter (fun x => x != 99) = (xs.drop p).take (q - p) := List.filter_eq_self.2 (fun x hx => by simpa using h99 x (List.mem_of_mem_drop (List.mem_of_mem_take hx)))
  have f3 : (xs.drop q).filter (fun x => x != 99) = xs.drop q := List.filter_eq_self.2 (fun x hx => by simpa using h99 x (List.mem_of_mem_drop hx))
  have f4 : [(99 : Int)].filter (fun x => x != 99) = [] := rfl
  unfold put2
  rw [List.filter_append, List.filter_append, List.filter_append, List.filter_append, f1, f2, f3, f4, List.append_nil, List.append_nil]
  exact put2_split xs p q h
theorem put2_count (xs : List Int) (z : Int) (p q : Nat) (h : p ≤ q) (x : Int) : (put2 xs z p q).count x = xs.count x + (if x = z then 2 else 0) := by
  have e := congrArg (List.count x) (put2_split xs p q h)
  unfold put2
  simp only [List.count_append] at e ⊢
  by_cases hz : x = z
  · subst hz; simp; omega
  · rw [if_neg hz, List.count_singleton, if_neg (by simpa using fun e => hz e.symm)]; omega
theorem put2_at (xs : List Int) (z : Int) (p q : Nat) (hp : p ≤ xs.length) : (put2 xs z p q)[p]?.getD 0 = z := by
  unfold put2
  simp only [List.append_assoc]
  rw [List.getElem?_append_right (by rw [List.length_take]; omega)]
  simp [Nat.min_eq_left hp]
theorem added_map (xs : List Int) (p q : Nat) : added xs p q = (put2 xs 99 p q).map fun x => ((met (put2 xs 99 p q)).idxOf x : Int) := norm_as_map _
theorem added_inj (xs : List Int) (p q : Nat) (x y : Int) (hx : x ∈ put2 xs 99 p q) (hy : y ∈ put2 xs 99 p q) (e : ((met (put2 xs 99 p q)).idxOf x : Int) = ((met (put2 xs 99 p q)).idxOf y : Int)) : x = y :=
  idx_inj _ x y ((met_mem _ _).2 hx) ((met_mem _ _).2 hy) (by omega)
theorem added_word {xs : List Int} (h : isWord xs = true) (p q : Nat) (hp : p ≤ q) (hq : q ≤ xs.length) (hl : xs.length + 2 ≤ 12) : isWord (added xs p q) = true := by
  have h99 : ∀ x ∈ xs, x ≠ 99 := fun x hx => by have := isWord_bound h hx; omega
  unfold isWord
  simp only [Bool.and_eq_true, decide_eq_true_eq, beq_iff_eq]
  refine ⟨by unfold added; rw [norm_length, put2_length xs 99 p q hp hq]; exact hl, ?_, by unfold added; exact norm_norm _⟩
  unfold twice
  rw [List.all_eq_true]
  intro y hy
  rw [added_map] at hy ⊢
  obtain ⟨x, hx, rfl⟩ := List.mem_map.1 hy
  rw [beq_iff_eq, List.count_eq_countP, List.countP_map]
  rw [List.countP_congr (q := fun z => z == x) (fun z hz => by
    simp only [Function.comp_apply, beq_iff_eq]
    exact ⟨fun e => added_inj xs p q z x hz hx e, fun e => by rw [e]⟩)]
  rw [← List.count_eq_countP, put2_count xs 99 p q hp x]
  rcases mem_put2 hx with e | e
  · subst e
    rw [if_pos rfl, List.count_eq_zero_of_not_mem (fun e => h99 _ e rfl)]
  · rw [if_neg (h99 x e), twice_count (isWord_twice h) e]
theorem delete_added {xs : List Int} (h : isWord xs = true) (p q : Nat) (hp : p ≤ q) (hq : q ≤ xs.length) (hl : xs.length + 2 ≤ 12) :
    deleteChord (added xs p q) ((added xs p q)[p]?.getD 0) = (xs, 0) := by
  have h99 : ∀ x ∈ xs, x ≠ 99 := fun x hx => by have := isWord_bound h hx; omega
  have hw := added_word h p q hp hq hl
  have hlen : (added xs p q).length = xs.length + 2 := by unfold added; rw [norm_length, put2_length xs 99 p q hp hq]
  have hpl : p < (added xs p q).length := by omega
  have hmem : (added xs p q)[p]?.getD 0 ∈ added xs p q := by rw [List.getElem?_eq_getElem hpl]; exact List.getElem_mem _
  have hin := word_lt hw hmem
  have h9m : (99 : Int) ∈ put2 xs 99 p q := by unfold put2; simp
  have hat : (added xs p q)[p]?.getD 0 = ((met (put2 xs 99 p q)).idxOf (99 : Int) : Int) := by
    have hpp : p < (put2 xs 99 p q).length := by rw [put2_length xs 99 p q hp hq]; omega
    have h1 := put2_at xs 99 p q (by omega)
    rw [List.getElem?_eq_getElem hpp] at h1
    rw [added_map, List.getElem?_map, List.getElem?_eq_getElem hpp]
    simp only [Option.map_some, Option.getD_some] at h1 ⊢
    rw [h1]
  have hc : codeOf (added xs p q) ((added xs p q)[p]?.getD 0) (((added xs p q).length : Int) / 2 - 1) = 0 := by
    unfold codeOf inB
    rw [hw, if_pos rfl, if_pos (by simp; omega)]
  unfold deleteChord
  rw [if_pos hc]
  congr 1
  unfold without
  rw [hat]
  have hfm : (added xs p q).filter (fun x => x != ((met (put2 xs 99 p q)).idxOf (99 : Int) : Int)) = ((put2 xs 99 p q).filter (fun x => x != 99)).map fun x => ((met (put2 xs 99 p q)).idxOf x : Int) := by
    rw [added_map, List.filter_map]
    congr 1
    apply List.filter_congr
    intro x hx
    by_cases e : x = 99
    · subst e; simp
    · have : ¬ ((met (put2 xs 99 p q)).idxOf x : Int) = ((met (put2 xs 99 p q)).idxOf (99 : Int) : Int) := fun e2 => e (added_inj xs p q x 99 hx h9m e2)
      have l1 : (((met (put2 xs 99 p q)).idxOf x : Int) != ((met (put2 xs 99 p q)).idxOf (99 : Int) : Int)) = true := by rw [bne_iff_ne]; exact this
      have l2 : (x != 99) = true := by rw [bne_iff_ne]; exact e
      simp only [Function.comp_apply]
      rw [l1, l2]
  rw [hfm, (norm_map _ _ (fun x hx y hy e => added_inj xs p q x y (List.mem_filter.1 hx).1 (List.mem_filter.1 hy).1 e)).2, put2_filter xs p q hp h99, isWord_norm h]
end Go.Proofs.Ytinfhkcmjmglkaa
