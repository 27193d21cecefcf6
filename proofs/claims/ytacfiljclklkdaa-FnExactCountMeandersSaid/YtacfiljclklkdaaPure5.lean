/- Plain facts on border circles. -/
import Derived.Test.YtacfiljclklkdaaPure4
namespace Go.Proofs.Ytacfiljclklkdaa
set_option linter.unusedVariables false
set_option linter.unusedSimpArgs false
set_option maxRecDepth 100000

/-- the place behind the other place of the chord at k -/
def nxt (xs : List Int) (k : Nat) : Nat := (place1 xs (xs.getD k 0) + place2 xs (xs.getD k 0) - k + 1) % xs.length
theorem nxt_lt (xs : List Int) (k : Nat) (h : 0 < xs.length) : nxt xs k < xs.length := Nat.mod_lt _ h
theorem word_count_at {xs : List Int} (h : isWord xs = true) {k : Nat} (hk : k < xs.length) : xs.count (xs.getD k 0) = 2 := by
  have e : xs.getD k 0 = xs[k] := by simp [List.getD, List.getElem?_eq_getElem hk]
  rw [e]; exact twice_count (isWord_twice h) (List.getElem_mem hk)
theorem word_place_at {xs : List Int} (h : isWord xs = true) {k : Nat} (hk : k < xs.length) : k = place1 xs (xs.getD k 0) ∨ k = place2 xs (xs.getD k 0) := by
  obtain ⟨_, _, _, _, _, h6⟩ := two_places (word_count_at h hk)
  exact h6 k (by simp [List.getD, List.getElem?_eq_getElem hk])
theorem nxt_int {xs : List Int} (h : isWord xs = true) {k : Nat} (hk : k < xs.length) :
    ((place1 xs (xs.getD k 0) : Int) + (place2 xs (xs.getD k 0) : Int) - (k : Int) + 1) % (xs.length : Int) = (nxt xs k : Int) ∧ k ≤ place1 xs (xs.getD k 0) + place2 xs (xs.getD k 0) := by
  have h1 := word_place_at h hk
  have hle : k ≤ place1 xs (xs.getD k 0) + place2 xs (xs.getD k 0) := by omega
  refine ⟨?_, hle⟩
  unfold nxt
  rw [Int.natCast_emod]
  congr 1
  omega
/-- the first c chords' places have their followers -/
def nextTo (xs : List Int) (n c : Nat) : List Int := (List.range n).map fun k : Nat => if xs.getD k 0 < (c : Int) then (nxt xs k : Int) else 0
@[simp] theorem nextTo_length (xs : List Int) (n c : Nat) : (nextTo xs n c).length = n := by simp [nextTo]
theorem nextTo_get (xs : List Int) (n c k : Nat) (hk : k < n) : (nextTo xs n c)[k]? = some (if xs.getD k 0 < (c : Int) then (nxt xs k : Int) else 0) := by simp [nextTo, hk]
theorem nextTo_zero {xs : List Int} (h : isWord xs = true) (n : Nat) (hn : n = xs.length) : nextTo xs n 0 = List.replicate n 0 := by
  apply List.ext_getElem?
  intro j
  by_cases hj : j < n
  · rw [nextTo_get _ _ _ _ hj, if_neg]
    · simp [hj]
    · have : xs.getD j 0 ∈ xs := by rw [List.getD, List.getElem?_eq_getElem (by omega)]; exact List.getElem_mem _
      have := (word_lt h this).1
      omega
  · simp [nextTo, hj]
theorem nextTo_end {xs : List Int} (h : isWord xs = true) (n k : Nat) (hn : n = xs.length) (hk : k < n) : (nextTo xs n (n / 2))[k]?.getD 0 = (nxt xs k : Int) := by
  rw [nextTo_get _ _ _ _ hk]
  have : xs.getD k 0 ∈ xs := by rw [List.getD, List.getElem?_eq_getElem (by omega)]; exact List.getElem_mem _
  have := (word_lt h this).2
  rw [if_pos (by omega)]; rfl
theorem nextTo_step {xs : List Int} (h : isWord xs = true) (n c : Nat) (hn : n = xs.length) (hc : c < n / 2) :
    ((nextTo xs n c).set (place1 xs c) (((place2 xs c : Int) + 1) % (n : Int))).set (place2 xs c) (((place1 xs c : Int) + 1) % (n : Int)) = nextTo xs n (c + 1) := by
  have hct := word_count h (i := c) (by omega)
  have hp := place_lt hct
  have h1 := place1_at hct
  have h2 := place2_at hct
  obtain ⟨_, _, _, _, _, h6⟩ := two_places hct
  apply List.ext_getElem?
  intro j
  by_cases hj : j < n
  · rw [List.getElem?_set, List.getElem?_set, nextTo_get _ _ _ _ hj, nextTo_get _ _ _ _ hj]
    by_cases e2 : place2 xs c = j
    · subst e2
      rw [if_pos rfl, if_pos (by simp; omega)]
      have ex : xs.getD (place2 xs c) 0 = (c : Int) := by rw [List.getD, h2]; rfl
      rw [ex, if_pos (by omega)]
      congr 1
      unfold nxt
      rw [ex, ← hn, Int.natCast_emod]
      congr 1
      omega
    · rw [if_neg e2]
      by_cases e1 : place1 xs c = j
      · subst e1
        rw [if_pos rfl, if_pos (by simp; omega)]
        have ex : xs.getD (place1 xs c) 0 = (c : Int) := by rw [List.getD, h1]; rfl
        rw [ex, if_pos (by omega)]
        congr 1
        unfold nxt
        rw [ex, ← hn, Int.natCast_emod]
        congr 1
        omega
      · rw [if_neg e1]
        have hne : xs.getD j 0 ≠ (c : Int) := by
          intro e
          have := h6 j (by rw [List.getD, List.getElem?_eq_getElem (by omega)] at e; rw [List.getElem?_eq_getElem (by omega)]; simpa using e)
          omega
        by_cases hl : xs.getD j 0 < (c : Int)
        · rw [if_pos hl, if_pos (by omega)]
        · rw [if_neg hl, if_neg (by omega)]
  · rw [List.getElem?_eq_none (by simp; omega), List.getElem?_eq_none (by simp; omega)]

/-- following nx from p, marking what is met, until something met -/
def mark (nx : Nat → Nat) : Nat → List Bool → Nat → List Bool
  | 0, met, _ => met
  | f + 1, met, p => if met[p]?.getD false = true then met else mark nx f (met.set p true) (nx p)
theorem mark_stop (nx : Nat → Nat) (f : Nat) (met : List Bool) (p : Nat) (h : met[p]?.getD false = true) : mark nx f met p = met := by
  cases f with
  | zero => rfl
  | succ f => unfold mark; rw [if_pos h]
theorem mark_go (nx : Nat → Nat) (f : Nat) (met : List Bool) (p : Nat) (h : met[p]?.getD false = false) : mark nx (f + 1) met p = mark nx f (met.set p true) (nx p) := by
  rw [mark, if_neg (by rw [h]; decide)]
theorem mark_length (nx : Nat → Nat) (f : Nat) (met : List Bool) (p : Nat) : (mark nx f met p).length = met.length := by
  induction f generalizing met p with
  | zero => rfl
  | succ f ih => unfold mark; split
                 · rfl
                 · rw [ih]; simp
theorem count_set_true : ∀ (met : List Bool) (p : Nat), p < met.length → met[p]?.getD false = false → (met.set p true).count false + 1 = met.count false := by
  intro met
  induction met with
  | nil => intro p hp _; simp at hp
  | cons b met ih =>
    intro p hp hb
    cases p with
    | zero =>
      simp only [List.getElem?_cons_zero, Option.getD_some] at hb
      subst hb
      simp
    | succ p =>
      simp only [List.getElem?_cons_succ] at hb
      have := ih p (by simpa using hp) hb
      simp only [List.set_cons_succ, List.count_cons]
      omega
theorem count_pos_of (met : List Bool) (p : Nat) (hp : p < met.length) (hb : met[p]?.getD false = false) : 0 < met.count false := by
  have := count_set_true met p hp hb; omega
/-- the marks and the circles after the starts below i -/
def circTo (nx : Nat → Nat) (n : Nat) : Nat → List Bool × Int
  | 0 => (List.replicate n false, 0)
  | i + 1 => if (circTo nx n i).1[i]?.getD false = true then circTo nx n i else (mark nx n (circTo nx n i).1 i, (circTo nx n i).2 + 1)
theorem circTo_len (nx : Nat → Nat) (n i : Nat) : (circTo nx n i).1.length = n := by
  induction i with
  | zero => simp [circTo]
  | succ i ih =>
    unfold circTo
    split
    · exact ih
    · simp only; rw [mark_length]; exact ih
theorem circTo_bd (nx : Nat → Nat) (n i : Nat) : 0 ≤ (circTo nx n i).2 ∧ (circTo nx n i).2 ≤ i := by
  induction i with
  | zero => simp [circTo]
  | succ i ih =>
    unfold circTo
    split
    · omega
    · simp only; omega
theorem circTo_yes (nx : Nat → Nat) (n i : Nat) (h : (circTo nx n i).1[i]?.getD false = true) : circTo nx n (i + 1) = circTo nx n i := by rw [circTo, if_pos h]
theorem circTo_no (nx : Nat → Nat) (n i : Nat) (h : (circTo nx n i).1[i]?.getD false = false) : circTo nx n (i + 1) = (mark nx n (circTo nx n i).1 i, (circTo nx n i).2 + 1) := by rw [circTo, if_neg (by rw [h]; decide)]
def circles (xs : List Int) : Int := if xs.length = 0 then 1 else (circTo (nxt xs) xs.length xs.length).2
theorem circles_zero {xs : List Int} (h : xs.length = 0) : circles xs = 1 := by unfold circles; rw [if_pos h]
theorem circles_some {xs : List Int} (h : xs.length ≠ 0) : circles xs = (circTo (nxt xs) xs.length xs.length).2 := by unfold circles; rw [if_neg h]
theorem circles_bd {xs : List Int} (h : xs.length ≤ 12) : 0 ≤ circles xs ∧ circles xs ≤ 12 := by
  unfold circles
  split
  · omega
  · have := circTo_bd (nxt xs) xs.length xs.length; omega
def genus (xs : List Int) : Int := ((xs.length : Int) / 2 + 1 - circles xs).tdiv 2
end Go.Proofs.Ytacfiljclklkdaa
