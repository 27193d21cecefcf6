/- Plain facts on chords that cross, rows of numbers, border circles, pairs. -/
import Derived.Test.YtacfiljclklkdaaPure2
namespace Go.Proofs.Ytacfiljclklkdaa
set_option linter.unusedVariables false
set_option linter.unusedSimpArgs false
set_option maxRecDepth 100000

/-- strictly between -/
def betw (a b x : Int) : Bool := decide (a < x) && decide (x < b)
theorem betw_true {a b x : Int} (h : a < x ∧ x < b) : betw a b x = true := by simp [betw, h.1, h.2]
theorem betw_false {a b x : Int} (h : ¬ (a < x ∧ x < b)) : betw a b x = false := by
  unfold betw; by_cases h1 : a < x
  · have h2 : ¬ x < b := fun h2 => h ⟨h1, h2⟩
    simp [h1, h2]
  · simp [h1]
/-- two chords cross, told by their places -/
def crossB (a b c d : Int) : Bool := betw a b c != betw a b d
/-- b ≤ a ≤ c -/
def inB (a b c : Int) : Bool := decide (b ≤ a) && decide (a ≤ c)

theorem word_count {xs : List Int} (h : isWord xs = true) {i : Nat} (hi : i < xs.length / 2) : xs.count (i : Int) = 2 :=
  twice_count (isWord_twice h) (word_mem h (by omega) (by omega))
theorem place1_at {l : List Int} {y : Int} (h : l.count y = 2) : l[place1 l y]? = some y := (two_places h).2.2.1
theorem place2_at {l : List Int} {y : Int} (h : l.count y = 2) : l[place2 l y]? = some y := (two_places h).2.2.2.1
theorem place_lt {l : List Int} {y : Int} (h : l.count y = 2) : place1 l y < place2 l y ∧ place2 l y < l.length := ⟨(two_places h).1, (two_places h).2.1⟩
theorem place_ne {l : List Int} {y z : Int} (hy : l.count y = 2) (hz : l.count z = 2) (h : y ≠ z) :
    place1 l z ≠ place1 l y ∧ place1 l z ≠ place2 l y ∧ place2 l z ≠ place1 l y ∧ place2 l z ≠ place2 l y := by
  have a1 := place1_at hy; have a2 := place2_at hy; have b1 := place1_at hz; have b2 := place2_at hz
  refine ⟨fun e => ?_, fun e => ?_, fun e => ?_, fun e => ?_⟩
  · rw [e, a1] at b1; exact h (Option.some.inj b1)
  · rw [e, a2] at b1; exact h (Option.some.inj b1)
  · rw [e, a1] at b2; exact h (Option.some.inj b2)
  · rw [e, a2] at b2; exact h (Option.some.inj b2)
theorem inB_betw {a b x : Int} (h1 : x ≠ a) (h2 : x ≠ b) : inB x a b = betw a b x := by
  unfold inB betw
  have e1 : decide (a ≤ x) = decide (a < x) := by rw [decide_eq_decide]; omega
  have e2 : decide (x ≤ b) = decide (x < b) := by rw [decide_eq_decide]; omega
  rw [e1, e2]
/-- whether the chords i and k cross -/
def crossAt (xs : List Int) (i k : Nat) : Bool := crossB (place1 xs i) (place2 xs i) (place1 xs k) (place2 xs k)
theorem crossAt_self (xs : List Int) (i : Nat) : crossAt xs i i = false := by
  unfold crossAt crossB
  rw [betw_false (fun h => by omega), betw_false (fun h => by omega)]; rfl
theorem crossAt_in {xs : List Int} (h : isWord xs = true) {i k : Nat} (hi : i < xs.length / 2) (hk : k < xs.length / 2) (hne : k ≠ i) :
    (inB (place1 xs k) (place1 xs i) (place2 xs i) != inB (place2 xs k) (place1 xs i) (place2 xs i)) = crossAt xs i k := by
  have hy := word_count h hi
  have hz := word_count h hk
  obtain ⟨e1, e2, e3, e4⟩ := place_ne hy hz (by omega)
  rw [inB_betw (by omega) (by omega), inB_betw (by omega) (by omega)]; rfl
def one0 (b : Bool) : Int := if b then 1 else 0
/-- the first k numbers of the crossing row i, and zeros behind them -/
def rowTo (xs : List Int) (m i k : Nat) : List Int := (List.range m).map fun j => if j < k then one0 (crossAt xs i j) else 0
@[simp] theorem rowTo_length (xs : List Int) (m i k : Nat) : (rowTo xs m i k).length = m := by simp [rowTo]
theorem rowTo_get (xs : List Int) (m i k j : Nat) (h : j < m) : (rowTo xs m i k)[j]? = some (if j < k then one0 (crossAt xs i j) else 0) := by simp [rowTo, h]
theorem rowTo_zero (xs : List Int) (m i : Nat) : rowTo xs m i 0 = List.replicate m 0 := by
  apply List.ext_getElem?
  intro j
  by_cases h : j < m
  · rw [rowTo_get _ _ _ _ _ h]; simp [h]
  · simp [rowTo, h]
theorem rowTo_yes (xs : List Int) (m i k : Nat) (h : k < m) (hc : crossAt xs i k = true) : (rowTo xs m i k).set k 1 = rowTo xs m i (k + 1) := by
  apply List.ext_getElem?
  intro j
  rw [List.getElem?_set]
  by_cases hj : j < m
  · rw [rowTo_get _ _ _ _ _ hj, rowTo_get _ _ _ _ _ hj]
    by_cases e : k = j
    · subst e; simp [h, hc, one0]
    · rw [if_neg e]
      by_cases h1 : j < k
      · rw [if_pos h1, if_pos (by omega)]
      · rw [if_neg h1, if_neg (by omega)]
  · have : k ≠ j := by omega
    rw [if_neg this]; simp [rowTo, hj]
theorem rowTo_no (xs : List Int) (m i k : Nat) (h : k < m) (hc : crossAt xs i k = false) : rowTo xs m i k = rowTo xs m i (k + 1) := by
  apply List.ext_getElem?
  intro j
  by_cases hj : j < m
  · rw [rowTo_get _ _ _ _ _ hj, rowTo_get _ _ _ _ _ hj]
    by_cases e : k = j
    · subst e; simp [hc, one0]
    · by_cases h1 : j < k
      · rw [if_pos h1, if_pos (by omega)]
      · rw [if_neg h1, if_neg (by omega)]
  · simp [rowTo, hj]
/-- the crossing row i, the crossing rows -/
def rowOf (xs : List Int) (i : Nat) : List Int := rowTo xs (xs.length / 2) i (xs.length / 2)
def rowsOf (xs : List Int) : List (List Int) := (List.range (xs.length / 2)).map (rowOf xs)
@[simp] theorem rowOf_length (xs : List Int) (i : Nat) : (rowOf xs i).length = xs.length / 2 := by simp [rowOf]
@[simp] theorem rowsOf_length (xs : List Int) : (rowsOf xs).length = xs.length / 2 := by simp [rowsOf]
theorem rowsOf_get (xs : List Int) (i : Nat) (h : i < xs.length / 2) : (rowsOf xs)[i]? = some (rowOf xs i) := by simp [rowsOf, h]
theorem rowOf_get (xs : List Int) (i k : Nat) (h : k < xs.length / 2) : (rowOf xs i)[k]? = some (one0 (crossAt xs i k)) := by
  unfold rowOf; rw [rowTo_get _ _ _ _ _ h, if_pos h]
theorem rowsOf_take (xs : List Int) (i : Nat) (h : i < xs.length / 2) : (rowsOf xs).take (i + 1) = (rowsOf xs).take i ++ [rowOf xs i] := by
  have e : (rowsOf xs)[i]'(by simpa using h) = rowOf xs i := by
    have := rowsOf_get xs i h
    rw [List.getElem?_eq_getElem (by simpa using h)] at this
    exact Option.some.inj this
  rw [List.take_succ_eq_append_getElem (by simpa using h), e]
theorem rowOf_01 (xs : List Int) (i : Nat) : ∀ y ∈ rowOf xs i, 0 ≤ y ∧ y ≤ 1 := by
  intro y hy
  obtain ⟨j, hj, e⟩ := List.getElem_of_mem hy
  have h := rowOf_get xs i j (by simpa using hj)
  rw [List.getElem?_eq_getElem hj, e] at h
  have := Option.some.inj h
  rw [this]; unfold one0; split <;> omega
theorem rowAt_01 (xs : List Int) (i k : Nat) : 0 ≤ (rowOf xs i)[k]?.getD 0 ∧ (rowOf xs i)[k]?.getD 0 ≤ 1 := by
  by_cases h : k < (rowOf xs i).length
  · rw [List.getElem?_eq_getElem h]; exact rowOf_01 xs i _ (List.getElem_mem h)
  · rw [List.getElem?_eq_none (by omega)]; decide

/-- the sum of a list -/
def total (xs : List Int) : Int := xs.foldl (· + ·) 0
theorem total_nil : total [] = 0 := rfl
theorem total_snoc (xs : List Int) (x : Int) : total (xs ++ [x]) = total xs + x := by simp [total, List.foldl_append]
theorem total_take (xs : List Int) (k : Nat) (h : k < xs.length) : total (xs.take (k + 1)) = total (xs.take k) + xs[k]?.getD 0 := by
  rw [List.take_succ_eq_append_getElem h, total_snoc, List.getElem?_eq_getElem h]; rfl
theorem total_bd (xs : List Int) (h : ∀ y ∈ xs, 0 ≤ y ∧ y ≤ 1) : 0 ≤ total xs ∧ total xs ≤ xs.length := by
  induction xs using snoc_ind with
  | h0 => simp [total]
  | h1 xs x ih =>
    have h1 := ih (fun y hy => h y (List.mem_append_left _ hy))
    have h2 := h x (by simp)
    rw [total_snoc]; simp; omega
theorem total_take_bd (xs : List Int) (k : Nat) (h : ∀ y ∈ xs, 0 ≤ y ∧ y ≤ 1) : 0 ≤ total (xs.take k) ∧ total (xs.take k) ≤ k := by
  have h1 := total_bd (xs.take k) (fun y hy => h y (List.mem_of_mem_take hy))
  have h2 := List.length_take_le k xs
  omega
/-- the degrees -/
def degrees (xs : List Int) : List Int := (rowsOf xs).map total
@[simp] theorem degrees_length (xs : List Int) : (degrees xs).length = xs.length / 2 := by simp [degrees]
theorem degrees_get (xs : List Int) (i : Nat) (h : i < xs.length / 2) : (degrees xs)[i]? = some (total (rowOf xs i)) := by rw [degrees, List.getElem?_map, rowsOf_get xs i h]; rfl
theorem degrees_take (xs : List Int) (i : Nat) (h : i < xs.length / 2) : (degrees xs).take (i + 1) = (degrees xs).take i ++ [total (rowOf xs i)] := by
  have e : (degrees xs)[i]'(by simpa using h) = total (rowOf xs i) := by
    have := degrees_get xs i h
    rw [List.getElem?_eq_getElem (by simpa using h)] at this
    exact Option.some.inj this
  rw [List.take_succ_eq_append_getElem (by simpa using h), e]
/-- the first k of a list, one more, and d behind it · the first k, and d behind them -/
def mid {α : Type} (d : α) (l : List α) (m k : Nat) (x : α) : List α := l.take k ++ x :: List.replicate (m - k - 1) d
def top {α : Type} (d : α) (l : List α) (m k : Nat) : List α := l.take k ++ List.replicate (m - k) d
section
variable {α : Type} (d : α) (l : List α) (m k : Nat) (x y : α)
theorem take_len' (hl : l.length = m) (hk : k ≤ m) : (l.take k).length = k := by rw [List.length_take]; omega
theorem mid_length (hl : l.length = m) (hk : k < m) : (mid d l m k x).length = m := by unfold mid; rw [List.length_append, take_len' l m k hl (by omega)]; simp; omega
theorem top_length (hl : l.length = m) (hk : k ≤ m) : (top d l m k).length = m := by unfold top; rw [List.length_append, take_len' l m k hl hk]; simp; omega
theorem mid_at (hl : l.length = m) (hk : k < m) : (mid d l m k x)[k]? = some x := by
  unfold mid
  rw [List.getElem?_append_right (by rw [take_len' l m k hl (by omega)]; exact Nat.le_refl _), take_len' l m k hl (by omega)]; simp
theorem mid_set (hl : l.length = m) (hk : k < m) : (mid d l m k x).set k y = mid d l m k y := by
  unfold mid
  rw [List.set_append_right _ _ (by rw [take_len' l m k hl (by omega)]; exact Nat.le_refl _), take_len' l m k hl (by omega)]; simp
theorem top_set (hl : l.length = m) (hk : k < m) : (top d l m k).set k x = mid d l m k x := by
  unfold mid top
  rw [List.set_append_right _ _ (by rw [take_len' l m k hl (by omega)]; exact Nat.le_refl _), take_len' l m k hl (by omega)]
  rw [show m - k = (m - k - 1) + 1 from by omega, List.replicate_succ]; simp
theorem top_mid (hl : l.length = m) (hk : k < m) : top d l m k = mid d l m k d := by
  unfold mid top
  rw [show m - k = (m - k - 1) + 1 from by omega, List.replicate_succ]; simp
theorem mid_end (hl : l.length = m) (hk : k < m) (hx : l[k]? = some x) : mid d l m k x = top d l m (k + 1) := by
  unfold mid top
  have e : l[k]'(by omega) = x := by
    rw [List.getElem?_eq_getElem (by omega)] at hx; exact Option.some.inj hx
  rw [List.take_succ_eq_append_getElem (by omega), e]; simp [show m - k - 1 = m - (k + 1) from by omega]
theorem top_end (hl : l.length = m) : top d l m m = l := by unfold top; rw [List.take_of_length_le (by omega)]; simp
theorem top_zero : top d l m 0 = List.replicate m d := by simp [top]
end
/-- the isolated chords among the first k -/
def isoTo (xs : List Int) : Nat → List Int
  | 0 => []
  | k + 1 => if (degrees xs)[k]?.getD 0 = 0 then isoTo xs k ++ [(k : Int)] else isoTo xs k
def isolated (xs : List Int) : List Int := isoTo xs (xs.length / 2)
theorem isoTo_len (xs : List Int) (k : Nat) : (isoTo xs k).length ≤ k := by
  induction k with
  | zero => simp [isoTo]
  | succ k ih =>
    unfold isoTo
    split
    · simp; omega
    · omega
theorem isolated_few {xs : List Int} (h : isWord xs = true) : (isolated xs).length ≤ 1048576 := by have := isWord_len h; have := isoTo_len xs (xs.length / 2); unfold isolated; omega
theorem degrees_few {xs : List Int} (h : isWord xs = true) : (degrees xs).length ≤ 1048576 := by have := isWord_len h; rw [degrees_length]; omega
/-- the crossings among the first i rows, left of the diagonal -/
def crossTo (xs : List Int) : Nat → Int
  | 0 => 0
  | i + 1 => crossTo xs i + total ((rowOf xs i).take i)
def crossCount (xs : List Int) : Int := crossTo xs (xs.length / 2)
theorem crossTo_bd (xs : List Int) (i : Nat) (h : i ≤ 6) : 0 ≤ crossTo xs i ∧ crossTo xs i ≤ 6 * i := by
  induction i with
  | zero => simp [crossTo]
  | succ i ih =>
    have h1 := ih (by omega)
    have h2 := total_take_bd (rowOf xs i) i (rowOf_01 xs i)
    unfold crossTo
    omega
end Go.Proofs.Ytacfiljclklkdaa
