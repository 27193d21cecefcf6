/- Plain facts on lists of numbers: words of chords, without Go. -/
import Init
namespace Go.Proofs.Ytacfiljclklkdaa

/-- each number of a list stands twice in it -/
def twice (xs : List Int) : Bool := xs.all fun x => xs.count x == 2

/-- one step of the normal word: what has been met, what has been written -/
def nstep (s : List Int × List Int) (x : Int) : List Int × List Int :=
  if x ∈ s.1 then (s.1, s.2 ++ [(s.1.idxOf x : Int)]) else (s.1 ++ [x], s.2 ++ [(s.1.length : Int)])
def nrun (xs : List Int) : List Int × List Int := xs.foldl nstep ([], [])
/-- the numbers met, in order -/
def met (xs : List Int) : List Int := (nrun xs).1
/-- the normal word -/
def norm (xs : List Int) : List Int := (nrun xs).2

theorem nrun_snoc (xs : List Int) (x : Int) : nrun (xs ++ [x]) = nstep (nrun xs) x := by simp [nrun, List.foldl_append]
theorem met_nil : met [] = [] := rfl
theorem norm_nil : norm [] = [] := rfl
theorem met_snoc (xs : List Int) (x : Int) : met (xs ++ [x]) = if x ∈ met xs then met xs else met xs ++ [x] := by
  unfold met; rw [nrun_snoc]; unfold nstep; split <;> rfl
theorem norm_snoc (xs : List Int) (x : Int) : norm (xs ++ [x]) = norm xs ++ [if x ∈ met xs then ((met xs).idxOf x : Int) else ((met xs).length : Int)] := by
  unfold norm met; rw [nrun_snoc]; unfold nstep; split <;> rfl

/-- induction from the end -/
theorem snoc_ind {P : List Int → Prop} (h0 : P []) (h1 : ∀ xs x, P xs → P (xs ++ [x])) (xs : List Int) : P xs := by
  have h : ∀ n (xs : List Int), xs.length = n → P xs := by
    intro n
    induction n with
    | zero => intro xs hx; rw [List.eq_nil_of_length_eq_zero hx]; exact h0
    | succ n ih =>
      intro xs hx
      have hne : xs ≠ [] := by intro e; subst e; simp at hx
      have := h1 xs.dropLast (xs.getLast hne) (ih _ (by simp [hx]))
      rwa [List.dropLast_concat_getLast] at this
  exact h _ xs rfl

theorem norm_length (xs : List Int) : (norm xs).length = xs.length := by
  induction xs using snoc_ind with
  | h0 => rfl
  | h1 xs x ih => rw [norm_snoc]; simp [ih]
theorem met_length (xs : List Int) : (met xs).length ≤ xs.length := by
  induction xs using snoc_ind with
  | h0 => simp [met_nil]
  | h1 xs x ih => rw [met_snoc]; split <;> simp <;> omega
theorem met_mem (xs : List Int) (x : Int) : x ∈ met xs ↔ x ∈ xs := by
  induction xs using snoc_ind generalizing x with
  | h0 => simp [met_nil]
  | h1 xs y ih =>
    rw [met_snoc]
    split
    · rename_i h
      have := (ih y).1 h
      rw [ih]; simp only [List.mem_append, List.mem_singleton]
      constructor
      · exact Or.inl
      · rintro (h | rfl)
        · exact h
        · exact this
    · simp only [List.mem_append, List.mem_singleton, ih]
theorem met_nodup (xs : List Int) : (met xs).Nodup := by
  induction xs using snoc_ind with
  | h0 => simp [met_nil]
  | h1 xs y ih =>
    rw [met_snoc]
    split
    · exact ih
    · rename_i h
      exact List.nodup_append.2 ⟨ih, by simp, by
        intro a ha b hb e
        simp only [List.mem_singleton] at hb
        subst hb; subst e; exact h ha⟩

/-- a word of chords -/
def isWord (xs : List Int) : Bool := decide (xs.length ≤ 12) && (twice xs && (norm xs == xs))

theorem isWord_len {xs : List Int} (h : isWord xs = true) : xs.length ≤ 12 := by
  simp only [isWord, Bool.and_eq_true, decide_eq_true_eq] at h; exact h.1
theorem isWord_twice {xs : List Int} (h : isWord xs = true) : twice xs = true := by
  simp only [isWord, Bool.and_eq_true, decide_eq_true_eq] at h; exact h.2.1
theorem isWord_norm {xs : List Int} (h : isWord xs = true) : norm xs = xs := by
  simp only [isWord, Bool.and_eq_true, decide_eq_true_eq, beq_iff_eq] at h; exact h.2.2

/-- the numbers of a normal word are below the number of numbers met -/
theorem norm_lt (xs : List Int) (y : Int) (h : y ∈ norm xs) : 0 ≤ y ∧ y < ((met xs).length : Int) := by
  induction xs using snoc_ind with
  | h0 => simp [norm_nil] at h
  | h1 xs x ih =>
    rw [norm_snoc] at h
    rw [met_snoc]
    rcases List.mem_append.1 h with h | h
    · have := ih h
      split
      · exact this
      · simp; omega
    · simp only [List.mem_singleton] at h
      subst h
      split
      · rename_i hm
        have := List.idxOf_lt_length_of_mem hm
        omega
      · simp; omega
theorem isWord_bound {xs : List Int} (h : isWord xs = true) {y : Int} (hy : y ∈ xs) : 0 ≤ y ∧ y < (xs.length : Int) := by
  have e := isWord_norm h
  have := norm_lt xs y (by rw [e]; exact hy)
  have := met_length xs
  omega

end Go.Proofs.Ytacfiljclklkdaa
