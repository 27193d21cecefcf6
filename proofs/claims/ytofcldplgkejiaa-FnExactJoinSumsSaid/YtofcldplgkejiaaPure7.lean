/- Plain facts on rotations: they go together, and their period is how many different ones there are. -/
import Derived.Test.YtofcldplgkejiaaPure4
namespace Go.Proofs.Ytofcldplgkejiaa
set_option linter.unusedVariables false
set_option linter.unusedSimpArgs false
set_option maxRecDepth 100000

theorem idxOf_map (g : Int → Int) (x : Int) : ∀ l : List Int, (∀ y ∈ l, g y = g x → y = x) → (l.map g).idxOf (g x) = l.idxOf x := by
  intro l
  induction l with
  | nil => intro _; rfl
  | cons y l ih =>
    intro h
    rw [List.map_cons, List.idxOf_cons, List.idxOf_cons]
    by_cases e : y = x
    · subst e; simp
    · have e2 : g y ≠ g x := fun e3 => e (h y (List.mem_cons_self ..) e3)
      have h1 : (g y == g x) = false := by simpa using e2
      have h2 : (y == x) = false := by simpa using e
      rw [h1, h2, ih (fun z hz => h z (List.mem_cons_of_mem _ hz))]
theorem norm_mapP (g : Int → Int) (xs : List Int) (h : ∀ x ∈ xs, ∀ y ∈ xs, g x = g y → x = y) : norm (xs.map g) = norm xs ∧ met (xs.map g) = (met xs).map g := by
  induction xs using snoc_ind with
  | h0 => exact ⟨rfl, rfl⟩
  | h1 xs x ih =>
    obtain ⟨h1, h2⟩ := ih (fun a ha b hb => h a (List.mem_append_left _ ha) b (List.mem_append_left _ hb))
    have hx : x ∈ xs ++ [x] := by simp
    have hin : ∀ y ∈ met xs, g y = g x → y = x := fun y hy e => h y (List.mem_append_left _ ((met_mem _ _).1 hy)) x hx e
    rw [List.map_append, List.map_cons, List.map_nil, norm_snoc, met_snoc, h1, h2, norm_snoc, met_snoc xs]
    by_cases hm : x ∈ met xs
    · have hg : g x ∈ (met xs).map g := List.mem_map_of_mem hm
      rw [if_pos hg, if_pos hg, if_pos hm, if_pos hm, idxOf_map g x _ hin]
      exact ⟨rfl, rfl⟩
    · have hg : g x ∉ (met xs).map g := by
        intro hg
        obtain ⟨y, hy, e⟩ := List.mem_map.1 hg
        exact hm (hin y hy e ▸ hy)
      rw [if_neg hg, if_neg hg, if_neg hm, if_neg hm]
      simp
theorem norm_as_map (xs : List Int) : norm xs = xs.map fun x => ((met xs).idxOf x : Int) := by
  induction xs using snoc_ind with
  | h0 => rfl
  | h1 xs x ih =>
    rw [norm_snoc, List.map_append, List.map_cons, List.map_nil, met_snoc]
    by_cases hm : x ∈ met xs
    · rw [if_pos hm, if_pos hm, ih]
    · rw [if_neg hm, if_neg hm, ih]
      congr 1
      · apply List.map_congr_left
        intro y hy
        rw [List.idxOf_append, if_pos ((met_mem _ _).2 hy)]
      · rw [List.idxOf_append, if_neg hm]; simp
theorem idx_inj (l : List Int) (x y : Int) (hx : x ∈ l) (hy : y ∈ l) (h : l.idxOf x = l.idxOf y) : x = y := by
  have h1 : l[l.idxOf x]'(List.idxOf_lt_length_of_mem hx) = x := List.getElem_idxOf _
  have h2 : l[l.idxOf y]'(List.idxOf_lt_length_of_mem hy) = y := List.getElem_idxOf _
  rw [← h1, ← h2]; congr 1
/-- the numbers from k on, and those ahead of it -/
def turn (xs : List Int) (k : Nat) : List Int := xs.drop k ++ xs.take k
theorem turn_mem (xs : List Int) (k : Nat) (x : Int) : x ∈ turn xs k ↔ x ∈ xs := by
  unfold turn
  rw [List.mem_append, Or.comm, ← List.mem_append, List.take_append_drop]
theorem turn_length (xs : List Int) (k : Nat) : (turn xs k).length = xs.length := by simp [turn]; omega
theorem turn_map (g : Int → Int) (xs : List Int) (k : Nat) : turn (xs.map g) k = (turn xs k).map g := by simp [turn, List.map_drop, List.map_take]
/-- the turned word of a normal word -/
theorem norm_turn_norm (xs : List Int) (k : Nat) : norm (turn (norm xs) k) = norm (turn xs k) := by
  rw [norm_as_map xs, turn_map]
  refine (norm_mapP _ _ fun x hx y hy e => ?_).1
  rw [turn_mem] at hx hy
  exact idx_inj _ x y ((met_mem _ _).2 hx) ((met_mem _ _).2 hy) (by have e' : ((met xs).idxOf x : Int) = ((met xs).idxOf y : Int) := e; omega)
theorem turn_turn (xs : List Int) (a b : Nat) (h : a + b ≤ xs.length) : turn (turn xs a) b = turn xs (a + b) := by
  unfold turn
  rw [List.drop_append_of_le_length (by simp; omega), List.take_append_of_le_length (by simp; omega), List.drop_drop, List.append_assoc, ← List.take_add]
theorem turn_turn' (xs : List Int) (a b : Nat) (ha : a ≤ xs.length) (hb : b ≤ xs.length) (h : xs.length ≤ a + b) : turn (turn xs a) b = turn xs (a + b - xs.length) := by
  obtain ⟨c, hc⟩ : ∃ c, b = (xs.length - a) + c := ⟨b - (xs.length - a), by omega⟩
  have hca : c ≤ a := by omega
  have e : a + b - xs.length = c := by omega
  rw [e, hc]
  unfold turn
  have hl : (xs.drop a).length = xs.length - a := by simp
  rw [← hl, List.drop_length_add_append, List.take_length_add_append]
  have h1 : xs.drop c = (xs.take a).drop c ++ xs.drop a := by
    conv => lhs; rw [← List.take_append_drop a xs]
    rw [List.drop_append_of_le_length (by simp; omega)]
  have h2 : (xs.take a).take c = xs.take c := by rw [List.take_take, Nat.min_eq_left hca]
  rw [h1, h2, List.append_assoc]
/-- the rotations of a word -/
def rotP (xs : List Int) (k : Nat) : List Int := norm (turn xs k)
theorem rotP_zero {xs : List Int} (h : norm xs = xs) : rotP xs 0 = xs := by unfold rotP turn; simpa using h
theorem rotP_len {xs : List Int} (h : norm xs = xs) : rotP xs xs.length = xs := by unfold rotP turn; simpa using h
theorem rotP_length (xs : List Int) (k : Nat) : (rotP xs k).length = xs.length := by unfold rotP; rw [norm_length, turn_length]
theorem rotP_rotP (xs : List Int) (a b : Nat) : rotP (rotP xs a) b = norm (turn (turn xs a) b) := norm_turn_norm (turn xs a) b
theorem rotP_add (xs : List Int) (a b : Nat) (h : a + b ≤ xs.length) : rotP (rotP xs a) b = rotP xs (a + b) := by rw [rotP_rotP, turn_turn xs a b h]; rfl
theorem rotP_add' (xs : List Int) (a b : Nat) (ha : a ≤ xs.length) (hb : b ≤ xs.length) (h : xs.length ≤ a + b) : rotP (rotP xs a) b = rotP xs (a + b - xs.length) := by rw [rotP_rotP, turn_turn' xs a b ha hb h]; rfl
/-- p is the rotation number -/
def IsPer (xs : List Int) (p : Nat) : Prop := 1 ≤ p ∧ (p = 1 ∨ p ≤ xs.length) ∧ (∀ j, 1 ≤ j → j < p → rotP xs j ≠ xs) ∧ (xs.length ≤ p ∨ rotP xs p = xs)
theorem IsPer.uniq {xs : List Int} {p q : Nat} (hp : IsPer xs p) (hq : IsPer xs q) : p = q := by
  rcases Nat.lt_trichotomy p q with h | h | h
  · rcases hp.2.2.2 with h1 | h1
    · rcases hq.2.1 with h2 | h2
      · have := hp.1; omega
      · omega
    · exact absurd h1 (hq.2.2.1 p hp.1 h)
  · exact h
  · rcases hq.2.2.2 with h1 | h1
    · rcases hp.2.1 with h2 | h2
      · have := hq.1; omega
      · omega
    · exact absurd h1 (hp.2.2.1 q hq.1 h)
def perGo (xs : List Int) : Nat → Nat → Nat
  | 0, k => k
  | f + 1, k => if k < xs.length ∧ rotP xs k ≠ xs then perGo xs f (k + 1) else k
theorem perGo_is (xs : List Int) : ∀ f k, 1 ≤ k → (k = 1 ∨ k ≤ xs.length) → xs.length ≤ k + f → (∀ j, 1 ≤ j → j < k → rotP xs j ≠ xs) → IsPer xs (perGo xs f k) := by
  intro f
  induction f with
  | zero => intro k h1 h2 h3 h4; exact ⟨h1, h2, h4, .inl (show xs.length ≤ k by omega)⟩
  | succ f ih =>
    intro k h1 h2 h3 h4
    unfold perGo
    split
    · rename_i h
      refine ih (k + 1) (by omega) (.inr (by omega)) (by omega) (fun j hj hj2 => ?_)
      by_cases e : j = k
      · subst e; exact h.2
      · exact h4 j hj (by omega)
    · rename_i h
      refine ⟨h1, h2, h4, ?_⟩
      rcases Nat.lt_or_ge k xs.length with hk | hk
      · right
        rcases Classical.em (rotP xs k = xs) with e | e
        · exact e
        · exact absurd ⟨hk, e⟩ h
      · exact .inl hk
def perNat (xs : List Int) : Nat := perGo xs xs.length 1
theorem perNat_is (xs : List Int) : IsPer xs (perNat xs) := perGo_is xs _ 1 (Nat.le_refl _) (.inl rfl) (by omega) (fun j h1 h2 => by omega)
def rotNumber (xs : List Int) : Int := (perNat xs : Nat)
/-- below the period all rotations differ; from it on they come again -/
theorem rot_new {xs : List Int} {p : Nat} (h : norm xs = xs) (hp : IsPer xs p) (i j : Nat) (hij : i < j) (hj : j < p) (hjn : j < xs.length) : rotP xs i ≠ rotP xs j := by
  intro e
  have h1 : rotP (rotP xs i) (xs.length - i) = xs := by
    rw [rotP_add xs i (xs.length - i) (by omega), show i + (xs.length - i) = xs.length from by omega, rotP_len h]
  have h2 : rotP (rotP xs j) (xs.length - i) = rotP xs (j - i) := by
    rw [rotP_add' xs j (xs.length - i) (by omega) (by omega) (by omega)]; congr 1; omega
  rw [e, h2] at h1
  exact hp.2.2.1 (j - i) (by omega) (by omega) h1
theorem rot_old {xs : List Int} {p : Nat} (h : norm xs = xs) (hp : IsPer xs p) (k : Nat) (hk : p ≤ k) (hkn : k < xs.length) : rotP xs k = rotP xs (k - p) := by
  rcases hp.2.2.2 with h1 | h1
  · omega
  · have := rotP_add xs p (k - p) (by omega)
    rw [h1, show p + (k - p) = k from by omega] at this
    exact this.symm
end Go.Proofs.Ytofcldplgkejiaa
