/- Plain facts on sums of words: their order, what a sum is. -/
import Derived.Test.YtofcldplgkejiaaLeast
namespace Go.Proofs.Ytofcldplgkejiaa
set_option linter.unusedVariables false
set_option linter.unusedSimpArgs false

/-- a word comes before another one: fewer numbers first -/
def wless (a b : List Int) : Bool := if a.length = b.length then decide (lex a b < 0) else decide (a.length < b.length)
theorem wless_same {a b : List Int} (h : a.length = b.length) : wless a b = decide (lex a b < 0) := by unfold wless; rw [if_pos h]
theorem wless_other {a b : List Int} (h : a.length ≠ b.length) : wless a b = decide (a.length < b.length) := by unfold wless; rw [if_neg h]

/-- word and value of term j -/
def wd (ts : List (List Int × Int)) (j : Nat) : List Int := (ts[j]?.getD ([], 0)).1
def vl (ts : List (List Int × Int)) (j : Nat) : Int := (ts[j]?.getD ([], 0)).2
theorem wd_nil (j : Nat) : wd [] j = [] := rfl
theorem vl_nil (j : Nat) : vl [] j = 0 := rfl
theorem wd_mem {ts : List (List Int × Int)} {j : Nat} (h : j < ts.length) : (wd ts j, vl ts j) ∈ ts := by
  have e : ts[j]?.getD ([], 0) = ts[j] := by rw [List.getElem?_eq_getElem h]; rfl
  have : (wd ts j, vl ts j) = ts[j] := by unfold wd vl; rw [e]
  rw [this]; exact List.getElem_mem h
theorem wd_snoc (ts : List (List Int × Int)) (t : List Int × Int) (j : Nat) : wd (ts ++ [t]) j = if j = ts.length then t.1 else wd ts j := by
  unfold wd
  rcases Nat.lt_trichotomy j ts.length with h | h | h
  · rw [List.getElem?_append_left h, if_neg (by omega)]
  · subst h; simp
  · rw [List.getElem?_append_right (by omega), if_neg (by omega), List.getElem?_eq_none (by simp; omega), List.getElem?_eq_none (by omega)]
theorem vl_snoc (ts : List (List Int × Int)) (t : List Int × Int) (j : Nat) : vl (ts ++ [t]) j = if j = ts.length then t.2 else vl ts j := by
  unfold vl
  rcases Nat.lt_trichotomy j ts.length with h | h | h
  · rw [List.getElem?_append_left h, if_neg (by omega)]
  · subst h; simp
  · rw [List.getElem?_append_right (by omega), if_neg (by omega), List.getElem?_eq_none (by simp; omega), List.getElem?_eq_none (by omega)]
theorem wd_set (ts : List (List Int × Int)) (i : Nat) (t : List Int × Int) (h : i < ts.length) (j : Nat) : wd (ts.set i t) j = if j = i then t.1 else wd ts j := by
  unfold wd
  rw [List.getElem?_set]
  by_cases e : i = j
  · subst e; simp [h]
  · rw [if_neg e, if_neg (fun x => e x.symm)]
theorem vl_set (ts : List (List Int × Int)) (i : Nat) (t : List Int × Int) (h : i < ts.length) (j : Nat) : vl (ts.set i t) j = if j = i then t.2 else vl ts j := by
  unfold vl
  rw [List.getElem?_set]
  by_cases e : i = j
  · subst e; simp [h]
  · rw [if_neg e, if_neg (fun x => e x.symm)]
theorem tm_at (ts : List (List Int × Int)) (k : Nat) (h : k < ts.length) : ts[k] = (wd ts k, vl ts k) := by
  unfold wd vl; rw [List.getElem?_eq_getElem h]; rfl
theorem tm_take (ts : List (List Int × Int)) (k : Nat) (h : k < ts.length) : ts.take (k + 1) = ts.take k ++ [(wd ts k, vl ts k)] := by
  rw [List.take_succ_eq_append_getElem h, tm_at ts k h]
theorem tm_drop (ts : List (List Int × Int)) (k : Nat) (h : k < ts.length) : ts.drop k = (wd ts k, vl ts k) :: ts.drop (k + 1) := by
  rw [List.drop_eq_getElem_cons h, tm_at ts k h]

/-- the primes of sums -/
def prime (p : Int) : Bool := p == 2 || p == 3 || p == 5 || p == 7 || p == 11 || p == 13
theorem prime_bd {p : Int} (h : prime p = true) : 2 ≤ p ∧ p ≤ 13 := by
  simp only [prime, Bool.or_eq_true, beq_iff_eq] at h; omega
/-- what is asked of term j -/
def termOk (p : Int) (ts : List (List Int × Int)) (j : Nat) : Bool :=
  isWord (wd ts j) && (decide (1 ≤ vl ts j ∧ vl ts j ≤ p - 1) && (decide (j = 0) || wless (wd ts (j - 1)) (wd ts j)))
/-- a sum -/
def isSum (p : Int) (ts : List (List Int × Int)) : Bool := prime p && (decide (ts.length ≤ 200) && (List.range ts.length).all (termOk p ts))
theorem termOk_word {p : Int} {ts : List (List Int × Int)} {j : Nat} (h : termOk p ts j = true) : isWord (wd ts j) = true := by
  simp only [termOk, Bool.and_eq_true] at h; exact h.1
theorem termOk_val {p : Int} {ts : List (List Int × Int)} {j : Nat} (h : termOk p ts j = true) : 1 ≤ vl ts j ∧ vl ts j ≤ p - 1 := by
  simp only [termOk, Bool.and_eq_true, decide_eq_true_eq] at h; exact h.2.1
theorem isSum_prime {p : Int} {ts : List (List Int × Int)} (h : isSum p ts = true) : prime p = true := by
  simp only [isSum, Bool.and_eq_true] at h; exact h.1
theorem isSum_len {p : Int} {ts : List (List Int × Int)} (h : isSum p ts = true) : ts.length ≤ 200 := by
  simp only [isSum, Bool.and_eq_true, decide_eq_true_eq] at h; exact h.2.1
theorem isSum_at {p : Int} {ts : List (List Int × Int)} (h : isSum p ts = true) {j : Nat} (hj : j < ts.length) : termOk p ts j = true := by
  simp only [isSum, Bool.and_eq_true, List.all_eq_true, List.mem_range] at h; exact h.2.2 j hj
theorem isSum_yes {p : Int} {ts : List (List Int × Int)} (hp : prime p = true) (hl : ts.length ≤ 200) (h : ∀ j, j < ts.length → termOk p ts j = true) : isSum p ts = true := by
  simp only [isSum, Bool.and_eq_true, List.all_eq_true, List.mem_range, decide_eq_true_eq]; exact ⟨hp, hl, h⟩
theorem isSum_no {p : Int} {ts : List (List Int × Int)} {j : Nat} (hj : j < ts.length) (h : termOk p ts j = false) : isSum p ts = false := by
  rcases e : isSum p ts with _ | _
  · rfl
  · rw [isSum_at e hj] at h; cases h
theorem isSum_noPrime {p : Int} {ts : List (List Int × Int)} (h : prime p = false) : isSum p ts = false := by
  unfold isSum; rw [h]; rfl
theorem isSum_noLen {p : Int} {ts : List (List Int × Int)} (h : ¬ ts.length ≤ 200) : isSum p ts = false := by
  rcases e : isSum p ts with _ | _
  · rfl
  · exact absurd (isSum_len e) h
theorem isSum_wd {p : Int} {ts : List (List Int × Int)} (h : isSum p ts = true) (j : Nat) : isWord (wd ts j) = true := by
  by_cases hj : j < ts.length
  · exact termOk_word (isSum_at h hj)
  · unfold wd; rw [List.getElem?_eq_none (by omega)]; rfl

/-- the total of the values -/
def totalV (ts : List (List Int × Int)) : Int := (ts.map (·.2)).sum
theorem totalV_take (ts : List (List Int × Int)) (k : Nat) (h : k < ts.length) : totalV (ts.take (k + 1)) = totalV (ts.take k) + vl ts k := by
  rw [tm_take ts k h]; simp [totalV]
theorem totalV_bd {p : Int} {ts : List (List Int × Int)} (h : isSum p ts = true) (k : Nat) (hk : k ≤ ts.length) : 0 ≤ totalV (ts.take k) ∧ totalV (ts.take k) ≤ 13 * k := by
  induction k with
  | zero => simp [totalV]
  | succ k ih =>
    have h1 := ih (by omega)
    have h2 := termOk_val (isSum_at h (show k < ts.length by omega))
    have h3 := prime_bd (isSum_prime h)
    rw [totalV_take ts k (by omega)]
    omega
def sumTotal (p : Int) (ts : List (List Int × Int)) : Int × Int := if isSum p ts then ((totalV ts).tmod p, 0) else (0, 1)
theorem sumTotal_yes {p : Int} {ts : List (List Int × Int)} (h : isSum p ts = true) : sumTotal p ts = ((totalV ts).tmod p, 0) := by unfold sumTotal; rw [if_pos h]
theorem sumTotal_no {p : Int} {ts : List (List Int × Int)} (h : isSum p ts = false) : sumTotal p ts = (0, 1) := by unfold sumTotal; rw [if_neg (by rw [h]; decide)]

/-- the coefficient of a word -/
def coeff : List (List Int × Int) → List Int → Int
  | [], _ => 0
  | t :: ts, x => if t.1 = x then t.2 else coeff ts x
theorem coeff_none (ts : List (List Int × Int)) (x : List Int) : (∀ j, j < ts.length → wd ts j ≠ x) → coeff ts x = 0 := by
  induction ts with
  | nil => intro _; rfl
  | cons t ts ih =>
    intro h
    unfold coeff
    have h0 := h 0 (by simp)
    rw [if_neg (by simpa [wd] using h0)]
    exact ih fun j hj => by simpa [wd] using h (j + 1) (by simpa using hj)
theorem coeff_first (ts : List (List Int × Int)) (x : List Int) (k : Nat) : k < ts.length → (∀ j, j < k → wd ts j ≠ x) → wd ts k = x → coeff ts x = vl ts k := by
  induction ts generalizing k with
  | nil => intro h; simp at h
  | cons t ts ih =>
    intro hk h he
    unfold coeff
    cases k with
    | zero => rw [if_pos (by simpa [wd] using he)]; rfl
    | succ k =>
      have h0 := h 0 (by omega)
      rw [if_neg (by simpa [wd] using h0)]
      have := ih k (by simpa using hk) (fun j hj => by simpa [wd] using h (j + 1) (by omega)) (by simpa [wd] using he)
      rw [this]; simp [vl]
def coeffAt (p : Int) (ts : List (List Int × Int)) (x : List Int) : Int × Int := if isSum p ts && isWord x then (coeff ts x, 0) else (0, 1)
end Go.Proofs.Ytofcldplgkejiaa
