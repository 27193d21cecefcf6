/- More plain facts on words: chords and their places. -/
import Derived.Test.YtacfiljclklkdaaPure
namespace Go.Proofs.Ytacfiljclklkdaa
set_option linter.unusedVariables false
set_option linter.unusedSimpArgs false
set_option maxRecDepth 100000

theorem length_of_twos : ∀ (M xs : List Int), M.Nodup → (∀ x ∈ xs, x ∈ M) → (∀ m ∈ M, xs.count m = 2) → xs.length = 2 * M.length := by
  intro M
  induction M with
  | nil =>
    intro xs _ h _
    have : xs = [] := List.eq_nil_iff_forall_not_mem.2 (fun x hx => by have := h x hx; simp at this)
    subst this; rfl
  | cons m M ih =>
    intro xs hd h h2
    have hd' := List.nodup_cons.1 hd
    have e := ih (xs.filter (fun x => x != m)) hd'.2 (by
        intro x hx
        have hx' := List.mem_filter.1 hx
        have := h x hx'.1
        rcases List.mem_cons.1 this with rfl | hm
        · simp at hx'
        · exact hm)
      (by
        intro k hk
        have hne : k ≠ m := fun e => hd'.1 (e ▸ hk)
        rw [List.count_filter (by simpa using hne)]
        exact h2 k (List.mem_cons_of_mem _ hk))
    have hc := h2 m (List.mem_cons_self ..)
    have hl := List.length_eq_countP_add_countP (fun x => x == m) (l := xs)
    have hc' : xs.countP (fun x => x == m) = 2 := hc
    have hf : (xs.filter (fun x => x != m)).length = xs.countP (fun x => !(x == m)) := by
      rw [List.countP_eq_length_filter]; rfl
    have hq : xs.countP (fun x => !(x == m)) = xs.countP (fun a => decide ¬((a == m) = true)) := by
      congr 1; funext a; by_cases ha : (a == m) = true <;> simp [ha]
    simp only [List.length_cons]
    omega

theorem twice_count {xs : List Int} (h : twice xs = true) {x : Int} (hx : x ∈ xs) : xs.count x = 2 := by
  simp only [twice, List.all_eq_true, beq_iff_eq] at h; exact h x hx
theorem twice_met {xs : List Int} (h : twice xs = true) : xs.length = 2 * (met xs).length :=
  length_of_twos (met xs) xs (met_nodup xs) (fun x hx => (met_mem xs x).2 hx) (fun m hm => twice_count h ((met_mem xs m).1 hm))
theorem mem_norm (xs : List Int) : ∀ j : Nat, j < (met xs).length → (j : Int) ∈ norm xs := by
  induction xs using snoc_ind with
  | h0 => intro j h; simp [met_nil] at h
  | h1 xs x ih =>
    intro j h
    rw [norm_snoc]
    rw [met_snoc] at h
    split at h
    · exact List.mem_append_left _ (ih j h)
    · rename_i hx
      simp only [List.length_append, List.length_singleton] at h
      by_cases e : j = (met xs).length
      · rw [if_neg hx, e]; simp
      · exact List.mem_append_left _ (ih j (by omega))
theorem word_half {xs : List Int} (h : isWord xs = true) : xs.length = 2 * (xs.length / 2) := by
  have := twice_met (isWord_twice h); omega
theorem word_mem {xs : List Int} (h : isWord xs = true) {i : Int} (h0 : 0 ≤ i) (h1 : i < (xs.length : Int) / 2) : i ∈ xs := by
  have e := twice_met (isWord_twice h)
  obtain ⟨j, rfl⟩ := Int.eq_ofNat_of_zero_le h0
  have := mem_norm xs j (by omega)
  rwa [isWord_norm h] at this
theorem word_lt {xs : List Int} (h : isWord xs = true) {y : Int} (hy : y ∈ xs) : 0 ≤ y ∧ y < (xs.length : Int) / 2 := by
  have e := twice_met (isWord_twice h)
  have := norm_lt xs y (by rw [isWord_norm h]; exact hy)
  omega

/-- where y stands last among the first m numbers of l, or -1 -/
def lastAt (l : List Int) (y : Int) : Nat → Int
  | 0 => -1
  | m + 1 => if l[m]?.getD 0 = y then (m : Int) else lastAt l y m
theorem lastAt_bd (l : List Int) (y : Int) (m : Nat) : -1 ≤ lastAt l y m ∧ lastAt l y m ≤ m := by
  induction m with
  | zero => simp [lastAt]
  | succ m ih => unfold lastAt; split <;> omega
theorem lastAt_none (l : List Int) (y : Int) (h : y ∉ l) : ∀ m, m ≤ l.length → lastAt l y m = -1 := by
  intro m
  induction m with
  | zero => intro _; rfl
  | succ m ih =>
    intro hm
    unfold lastAt
    rw [if_neg, ih (by omega)]
    intro e
    rw [List.getElem?_eq_getElem (by omega)] at e
    exact h (e ▸ List.getElem_mem _)
theorem lastAt_some (l : List Int) (y : Int) (hd : l.Nodup) (h : y ∈ l) : ∀ m, m ≤ l.length → l.idxOf y < m → lastAt l y m = (l.idxOf y : Int) := by
  intro m
  induction m with
  | zero => intro _ h0; omega
  | succ m ih =>
    intro hm hi
    unfold lastAt
    by_cases e : l.idxOf y = m
    · rw [if_pos]
      · omega
      · rw [List.getElem?_eq_getElem (by omega)]
        simp only [Option.getD_some, ← e]
        exact List.getElem_idxOf _
    · rw [if_neg]
      · exact ih (by omega) (by omega)
      · intro e2
        rw [List.getElem?_eq_getElem (by omega)] at e2
        simp only [Option.getD_some] at e2
        have h1 : l.idxOf y < l.length := List.idxOf_lt_length_of_mem h
        have h2 : l[l.idxOf y] = y := List.getElem_idxOf h1
        have hp := List.pairwise_iff_getElem.1 hd
        rcases Nat.lt_or_gt_of_ne e with hlt | hlt
        · exact hp _ _ h1 (by omega) hlt (h2.trans e2.symm)
        · exact hp _ _ (by omega) h1 hlt (e2.trans h2.symm)

/-- where y stands first, or -1 -/
def firstAt (l : List Int) (y : Int) : Int := if y ∈ l then (l.idxOf y : Int) else -1
theorem firstAt_bd (l : List Int) (y : Int) : -1 ≤ firstAt l y ∧ firstAt l y < l.length := by
  unfold firstAt
  split
  · rename_i h; have := List.idxOf_lt_length_of_mem h; omega
  · omega
theorem firstAt_mem {l : List Int} {y : Int} (h : y ∈ l) : firstAt l y = (l.idxOf y : Int) := by unfold firstAt; rw [if_pos h]
theorem firstAt_step (l : List Int) (y : Int) (k : Nat) (hk : k < l.length) (h : y ∉ l.take k) :
    (y = l[k]?.getD 0 → firstAt l y = k) ∧ (y ≠ l[k]?.getD 0 → y ∉ l.take (k + 1)) := by
  have e : l[k]?.getD 0 = l[k] := by simp [List.getElem?_eq_getElem hk]
  rw [e]
  refine ⟨fun hy => ?_, fun hy => ?_⟩
  · have hm : y ∈ l := hy ▸ List.getElem_mem hk
    rw [firstAt_mem hm]
    have h1 : l.idxOf y ≤ k := by
      rcases Nat.lt_or_ge k (l.idxOf y) with hl | hl
      · exact absurd hy.symm (by
          have := List.not_of_lt_findIdx (p := fun x => x == y) (xs := l) (i := k) hl
          simpa using this)
      · exact hl
    have h2 : k ≤ l.idxOf y := by
      rcases Nat.lt_or_ge (l.idxOf y) k with hl | hl
      · exfalso
        apply h
        rw [List.mem_take_iff_getElem]
        have hi := List.idxOf_lt_length_of_mem hm
        exact ⟨l.idxOf y, by omega, List.getElem_idxOf hi⟩
      · exact hl
    omega
  · rw [List.take_succ_eq_append_getElem hk]
    simp only [List.mem_append, List.mem_singleton, not_or]
    exact ⟨h, hy⟩

theorem lastAt_ge (l : List Int) (y : Int) (k : Nat) (hk : l[k]?.getD 0 = y) : ∀ m, k < m → (k : Int) ≤ lastAt l y m := by
  intro m
  induction m with
  | zero => intro h; omega
  | succ m ih =>
    intro h
    unfold lastAt
    split
    · omega
    · rename_i hne
      by_cases e : k = m
      · subst e; exact absurd hk hne
      · exact ih (by omega)
theorem lastAt_skip (l : List Int) (y : Int) (k : Nat) : ∀ m, k ≤ m → (∀ j, k ≤ j → j < m → l[j]?.getD 0 ≠ y) → lastAt l y m = lastAt l y k := by
  intro m
  induction m with
  | zero => intro h _; obtain rfl : k = 0 := by omega
            rfl
  | succ m ih =>
    intro h hno
    by_cases e : k = m + 1
    · rw [e]
    · have e2 : lastAt l y (m + 1) = lastAt l y m := by
        show (if l[m]?.getD 0 = y then (m : Int) else lastAt l y m) = _
        rw [if_neg (hno m (by omega) (by omega))]
      rw [e2]
      exact ih (by omega) (fun j h1 h2 => hno j h1 (by omega))
/-- both places of y -/
def place1 (l : List Int) (y : Int) : Nat := l.idxOf y
def place2 (l : List Int) (y : Int) : Nat := place1 l y + 1 + (l.drop (place1 l y + 1)).idxOf y
theorem two_places {l : List Int} {y : Int} (h : l.count y = 2) : place1 l y < place2 l y ∧ place2 l y < l.length ∧ l[place1 l y]? = some y ∧ l[place2 l y]? = some y ∧ y ∈ l.drop (place1 l y + 1) ∧
    ∀ j, l[j]? = some y → j = place1 l y ∨ j = place2 l y := by
  have hm : y ∈ l := List.count_pos_iff.1 (by omega)
  have h1 : place1 l y < l.length := List.idxOf_lt_length_of_mem hm
  have hsplit : l = l.take (place1 l y) ++ y :: l.drop (place1 l y + 1) := by
    have := List.take_append_drop (place1 l y) l
    rw [List.drop_eq_getElem_cons (by exact h1)] at this
    have e : l[place1 l y]'h1 = y := List.getElem_idxOf h1
    rw [e] at this
    exact this.symm
  have hnt : ∀ j, j < place1 l y → l[j]? ≠ some y := by
    intro j hj e
    have hjl : j < l.length := by omega
    rw [List.getElem?_eq_getElem hjl] at e
    injection e with e
    have := List.not_of_lt_findIdx (p := fun x => x == y) (xs := l) (i := j) hj
    simp [e] at this
  have hc : (l.take (place1 l y)).count y = 0 := by
    rw [List.count_eq_zero]
    intro hmem
    obtain ⟨j, hj, e⟩ := List.mem_take_iff_getElem.1 hmem
    exact hnt j (by omega) (by rw [List.getElem?_eq_getElem (by omega), e])
  have hd : (l.drop (place1 l y + 1)).count y = 1 := by
    have h' := h
    rw [hsplit, List.count_append, List.count_cons_self] at h'
    omega
  have hm2 : y ∈ l.drop (place1 l y + 1) := List.count_pos_iff.1 (by omega)
  have h2 := List.idxOf_lt_length_of_mem hm2
  rw [List.length_drop] at h2
  have e2 : (l.drop (place1 l y + 1))[(l.drop (place1 l y + 1)).idxOf y]'(List.idxOf_lt_length_of_mem hm2) = y := List.getElem_idxOf _
  have g2 : l[place2 l y]? = some y := by
    unfold place2
    rw [← List.getElem?_drop, List.getElem?_eq_getElem (List.idxOf_lt_length_of_mem hm2), e2]
  refine ⟨by unfold place2; omega, by unfold place2; omega, by rw [List.getElem?_eq_getElem h1]; exact congrArg some (List.getElem_idxOf h1), g2, hm2, fun j hj => ?_⟩
  rcases Nat.lt_trichotomy j (place1 l y) with hlt | heq | hgt
  · exact absurd hj (hnt j hlt)
  · exact .inl heq
  · right
    -- the places behind the first: one alone
    have hone : ∀ (m : List Int) (a b : Nat), m.count y = 1 → m[a]? = some y → m[b]? = some y → a = b := by
      intro m a b hm1 ha hb
      rcases Nat.lt_trichotomy a b with hab | hab | hab
      · exfalso
        have h3 : 1 ≤ (m.take (a + 1)).count y := by
          have : y ∈ m.take (a + 1) := by
            obtain ⟨hl, e⟩ := List.getElem?_eq_some_iff.1 ha
            exact List.mem_take_iff_getElem.2 ⟨a, by omega, e⟩
          exact List.count_pos_iff.2 this
        have h4 : 1 ≤ (m.drop (a + 1)).count y := by
          have : y ∈ m.drop (a + 1) := by
            have : (m.drop (a + 1))[b - (a + 1)]? = some y := by rw [List.getElem?_drop, show a + 1 + (b - (a + 1)) = b from by omega]; exact hb
            obtain ⟨hl, e⟩ := List.getElem?_eq_some_iff.1 this
            exact e ▸ List.getElem_mem hl
          exact List.count_pos_iff.2 this
        have h5 : m.count y = (m.take (a + 1)).count y + (m.drop (a + 1)).count y := by rw [← List.count_append, List.take_append_drop]
        omega
      · exact hab
      · exfalso
        have h3 : 1 ≤ (m.take (b + 1)).count y := by
          have : y ∈ m.take (b + 1) := by
            obtain ⟨hl, e⟩ := List.getElem?_eq_some_iff.1 hb
            exact List.mem_take_iff_getElem.2 ⟨b, by omega, e⟩
          exact List.count_pos_iff.2 this
        have h4 : 1 ≤ (m.drop (b + 1)).count y := by
          have : y ∈ m.drop (b + 1) := by
            have : (m.drop (b + 1))[a - (b + 1)]? = some y := by rw [List.getElem?_drop, show b + 1 + (a - (b + 1)) = a from by omega]; exact ha
            obtain ⟨hl, e⟩ := List.getElem?_eq_some_iff.1 this
            exact e ▸ List.getElem_mem hl
          exact List.count_pos_iff.2 this
        have h5 : m.count y = (m.take (b + 1)).count y + (m.drop (b + 1)).count y := by rw [← List.count_append, List.take_append_drop]
        omega
    have hj2 : (l.drop (place1 l y + 1))[j - (place1 l y + 1)]? = some y := by rw [List.getElem?_drop, show place1 l y + 1 + (j - (place1 l y + 1)) = j from by omega]; exact hj
    have := hone _ _ _ hd hj2 (by rw [List.getElem?_eq_getElem (List.idxOf_lt_length_of_mem hm2), e2])
    unfold place2
    omega
theorem lastAt_two {l : List Int} {y : Int} (h : l.count y = 2) : lastAt l y l.length = (place2 l y : Int) := by
  obtain ⟨h1, h2, h3, h4, _, h5⟩ := two_places h
  rw [lastAt_skip l y (place2 l y + 1) l.length (by omega) (fun j hj hl e => by
    have : l[j]? = some y := by rw [List.getElem?_eq_getElem hl] at e ⊢; simpa using e
    rcases h5 j this with r | r <;> omega)]
  unfold lastAt
  rw [if_pos (by rw [h4]; rfl)]
end Go.Proofs.Ytacfiljclklkdaa
