/- Plain facts on words: beginnings, the order of first places, pairs that are nested or apart. -/
import Derived.Test.YtacfiljclklkdaaPure3
namespace Go.Proofs.Ytacfiljclklkdaa
set_option linter.unusedVariables false
set_option linter.unusedSimpArgs false
set_option maxRecDepth 100000

def upTo (m : Nat) : List Int := (List.range m).map fun i : Nat => (i : Int)
theorem upTo_mem (m : Nat) (v : Int) : v ∈ upTo m ↔ 0 ≤ v ∧ v < m := by
  simp only [upTo, List.mem_map, List.mem_range]
  constructor
  · rintro ⟨i, h, rfl⟩; omega
  · rintro ⟨h1, h2⟩; exact ⟨v.toNat, by omega, by omega⟩
theorem upTo_idx (m j : Nat) (h : j < m) : (upTo m).idxOf (j : Int) = j := by
  have hm : (j : Int) ∈ upTo m := (upTo_mem m j).2 (by omega)
  have h1 := List.idxOf_lt_length_of_mem hm
  have h2 : (upTo m)[(upTo m).idxOf (j : Int)] = (j : Int) := List.getElem_idxOf h1
  have h3 : ∀ i (hi : i < (upTo m).length), (upTo m)[i] = (i : Int) := fun i hi => by simp [upTo]
  rw [h3 _ h1] at h2
  omega
theorem met_norm (xs : List Int) : met (norm xs) = upTo (met xs).length ∧ norm (norm xs) = norm xs := by
  induction xs using snoc_ind with
  | h0 => exact ⟨rfl, rfl⟩
  | h1 xs x ih =>
    obtain ⟨h1, h2⟩ := ih
    rw [norm_snoc, met_snoc (norm xs), norm_snoc (norm xs), h1, h2, met_snoc xs]
    have hlen : (upTo (met xs).length).length = (met xs).length := by simp [upTo]
    by_cases hx : x ∈ met xs
    · have hi := List.idxOf_lt_length_of_mem hx
      rw [if_pos hx, if_pos hx]
      have hm : (((met xs).idxOf x : Nat) : Int) ∈ upTo (met xs).length := (upTo_mem _ _).2 (by omega)
      rw [if_pos hm, if_pos hm, upTo_idx _ _ hi]
      exact ⟨rfl, rfl⟩
    · rw [if_neg hx, if_neg hx]
      have hm : ¬ (((met xs).length : Nat) : Int) ∈ upTo (met xs).length := by rw [upTo_mem]; omega
      rw [if_neg hm, if_neg hm, hlen]
      refine ⟨?_, rfl⟩
      simp [upTo, List.range_succ]
theorem norm_norm (xs : List Int) : norm (norm xs) = norm xs := (met_norm xs).2

theorem norm_take (xs : List Int) (k : Nat) : norm (xs.take k) = (norm xs).take k := by
  induction xs using snoc_ind with
  | h0 => simp [norm_nil]
  | h1 xs x ih =>
    by_cases h : k ≤ xs.length
    · rw [List.take_append_of_le_length h, norm_snoc, List.take_append_of_le_length (by rw [norm_length]; exact h)]; exact ih
    · rw [List.take_of_length_le (by simp; omega), List.take_of_length_le (by rw [norm_length]; simp; omega)]
/-- how many different numbers the first k are -/
def diff (xs : List Int) (k : Nat) : Nat := (met (xs.take k)).length
theorem take_met {xs : List Int} (h : norm xs = xs) (k : Nat) : met (xs.take k) = upTo (diff xs k) := by
  have h1 := (met_norm (xs.take k)).1
  rw [norm_take, h] at h1
  exact h1
theorem take_mem {xs : List Int} (h : norm xs = xs) (k : Nat) (y : Int) : y ∈ xs.take k ↔ 0 ≤ y ∧ y < diff xs k := by
  rw [← met_mem, take_met h, upTo_mem]
/-- the number at k is new, or is one of those before -/
theorem word_at {xs : List Int} (h : norm xs = xs) (k : Nat) (hk : k < xs.length) :
    (xs[k]?.getD 0 ∈ xs.take k ∧ 0 ≤ xs[k]?.getD 0 ∧ xs[k]?.getD 0 < diff xs k ∧ diff xs (k + 1) = diff xs k) ∨
    (xs[k]?.getD 0 ∉ xs.take k ∧ xs[k]?.getD 0 = diff xs k ∧ diff xs (k + 1) = diff xs k + 1) := by
  have e : xs.take (k + 1) = xs.take k ++ [xs[k]?.getD 0] := by
    rw [List.take_succ_eq_append_getElem hk]; simp [List.getElem?_eq_getElem hk]
  by_cases hm : xs[k]?.getD 0 ∈ xs.take k
  · left
    have := (take_mem h k _).1 hm
    refine ⟨hm, this.1, this.2, ?_⟩
    unfold diff
    rw [e, met_snoc, if_pos ((met_mem _ _).2 hm)]
  · right
    have hm' : xs[k]?.getD 0 ∉ met (xs.take k) := fun hh => hm ((met_mem _ _).1 hh)
    refine ⟨hm, ?_, ?_⟩
    · have h1 := norm_take xs (k + 1)
      rw [h, e, norm_snoc, if_neg hm', norm_take, h] at h1
      have := List.append_cancel_left h1
      simp only [List.cons.injEq, and_true] at this
      exact this.symm
    · unfold diff
      rw [e, met_snoc, if_neg hm']; simp
theorem diff_zero (xs : List Int) : diff xs 0 = 0 := by simp [diff, met_nil]
theorem diff_le (xs : List Int) (k : Nat) : diff xs k ≤ k := by
  unfold diff; have := met_length (xs.take k); have := List.length_take_le k xs; omega
theorem diff_len {xs : List Int} (h : isWord xs = true) : diff xs xs.length = xs.length / 2 := by
  unfold diff; rw [List.take_length]; have := twice_met (isWord_twice h); omega
theorem place1_diff {xs : List Int} (h : isWord xs = true) {k : Nat} (hk : k < xs.length / 2) : diff xs (place1 xs k) = k := by
  have hc := word_count h hk
  have h1 := place1_at hc
  have h2 := place_lt hc
  have hn : (k : Int) ∉ xs.take (place1 xs k) := by
    intro hm
    obtain ⟨j, hj, e⟩ := List.mem_take_iff_getElem.1 hm
    have hlt : j < xs.idxOf (k : Int) := by have : xs.idxOf (k : Int) = place1 xs k := rfl; omega
    have := List.not_of_lt_findIdx (p := fun x => x == (k : Int)) (xs := xs) (i := j) hlt
    simp [e] at this
  rcases word_at (isWord_norm h) (place1 xs k) (by omega) with ⟨hm, _⟩ | ⟨_, e, _⟩
  · rw [h1] at hm; exact absurd hm hn
  · rw [h1] at e; simp at e; omega
theorem place_order {xs : List Int} (h : isWord xs = true) {i k : Nat} (hik : i < k) (hk : k < xs.length / 2) : place1 xs i < place1 xs k := by
  have hd := place1_diff h hk
  have hm : (i : Int) ∈ xs.take (place1 xs k) := (take_mem (isWord_norm h) _ _).2 (by omega)
  obtain ⟨j, hj, e⟩ := List.mem_take_iff_getElem.1 hm
  have hci := word_count h (show i < xs.length / 2 by omega)
  obtain ⟨_, _, _, _, _, h6⟩ := two_places hci
  have := h6 j (by rw [List.getElem?_eq_getElem (by omega), e])
  have := (place_lt hci).1
  omega

/-- the chord k is nested in i · i and k are apart (i begins ahead) -/
def nestB (xs : List Int) (i k : Nat) : Bool := decide (place2 xs k < place2 xs i)
def apartB (xs : List Int) (i k : Nat) : Bool := decide (place2 xs i < place1 xs k)
theorem pair_kinds {xs : List Int} (h : isWord xs = true) {i k : Nat} (hik : i < k) (hk : k < xs.length / 2) :
    (crossAt xs i k = true ∧ nestB xs i k = false ∧ apartB xs i k = false) ∨
    (crossAt xs i k = false ∧ place1 xs k < place2 xs i ∧ nestB xs i k = true ∧ apartB xs i k = false) ∨
    (crossAt xs i k = false ∧ ¬ place1 xs k < place2 xs i ∧ nestB xs i k = false ∧ apartB xs i k = true) := by
  have ho := place_order h hik hk
  have hci := word_count h (show i < xs.length / 2 by omega)
  have hck := word_count h hk
  have h1 := place_lt hci
  have h2 := place_lt hck
  obtain ⟨e1, e2, e3, e4⟩ := place_ne hci hck (by omega)
  unfold crossAt crossB nestB apartB
  by_cases hb : place1 xs k < place2 xs i
  · rw [betw_true (by omega)]
    by_cases he : place2 xs k < place2 xs i
    · rw [betw_true (by omega)]
      right; left
      exact ⟨rfl, hb, by simpa using he, by simp; omega⟩
    · rw [betw_false (by omega)]
      left
      exact ⟨rfl, by simpa using he, by simp; omega⟩
  · rw [betw_false (by omega), betw_false (by omega)]
    right; right
    exact ⟨rfl, hb, by simp; omega, by simp; omega⟩

/-- pairs: the second one k with the first q · the seconds below s · the first one i with those behind it below k · the firsts below i -/
def cntTo (P : Nat → Nat → Bool) (s : Nat) : Nat → Int
  | 0 => 0
  | q + 1 => cntTo P s q + one0 (P q s)
def triTo (P : Nat → Nat → Bool) : Nat → Int
  | 0 => 0
  | s + 1 => triTo P s + cntTo P s s
def upcTo (P : Nat → Nat → Bool) (i : Nat) : Nat → Int
  | 0 => 0
  | k + 1 => upcTo P i k + (if i < k then one0 (P i k) else 0)
def corTo (P : Nat → Nat → Bool) (m : Nat) : Nat → Int
  | 0 => 0
  | i + 1 => corTo P m i + upcTo P i m
theorem one0_bd (b : Bool) : 0 ≤ one0 b ∧ one0 b ≤ 1 := by unfold one0; split <;> omega
theorem cntTo_bd (P : Nat → Nat → Bool) (s q : Nat) : 0 ≤ cntTo P s q ∧ cntTo P s q ≤ q := by
  induction q with
  | zero => simp [cntTo]
  | succ q ih => have := one0_bd (P q s); unfold cntTo; omega
theorem triTo_bd (P : Nat → Nat → Bool) (s : Nat) (h : s ≤ 6) : 0 ≤ triTo P s ∧ triTo P s ≤ 6 * s := by
  induction s with
  | zero => simp [triTo]
  | succ s ih => have := ih (by omega); have := cntTo_bd P s s; unfold triTo; omega
theorem upcTo_bd (P : Nat → Nat → Bool) (i k : Nat) : 0 ≤ upcTo P i k ∧ upcTo P i k ≤ k := by
  induction k with
  | zero => simp [upcTo]
  | succ k ih => have := one0_bd (P i k); unfold upcTo; split <;> omega
theorem corTo_bd (P : Nat → Nat → Bool) (m i : Nat) (h : m ≤ 6) : 0 ≤ corTo P m i ∧ corTo P m i ≤ 6 * i := by
  induction i with
  | zero => simp [corTo]
  | succ i ih => have := upcTo_bd P i m; unfold corTo; omega
theorem upcTo_low (P : Nat → Nat → Bool) (i k : Nat) (h : k ≤ i + 1) : upcTo P i k = 0 := by
  induction k with
  | zero => rfl
  | succ k ih => unfold upcTo; rw [ih (by omega), if_neg (by omega)]; rfl
theorem corTo_succ (P : Nat → Nat → Bool) (m i : Nat) (h : i ≤ m) : corTo P (m + 1) i = corTo P m i + cntTo P m i := by
  induction i with
  | zero => rfl
  | succ i ih =>
    have e := ih (by omega)
    show corTo P (m + 1) i + upcTo P i (m + 1) = corTo P m i + upcTo P i m + (cntTo P m i + one0 (P i m))
    have : upcTo P i (m + 1) = upcTo P i m + one0 (P i m) := by
      show upcTo P i m + _ = _
      rw [if_pos (by omega)]
    omega
theorem cor_tri (P : Nat → Nat → Bool) (m : Nat) : corTo P m m = triTo P m := by
  induction m with
  | zero => rfl
  | succ m ih =>
    show corTo P (m + 1) m + upcTo P m (m + 1) = triTo P m + cntTo P m m
    rw [corTo_succ P m m (Nat.le_refl _), upcTo_low P m (m + 1) (Nat.le_refl _), ih]; omega
def nestedCount (xs : List Int) : Int := triTo (nestB xs) (xs.length / 2)
def apartCount (xs : List Int) : Int := triTo (apartB xs) (xs.length / 2)
end Go.Proofs.Ytacfiljclklkdaa
