/- Sets of members no two of which exclude each other: the program's list of them, and the model's run over bits. -/
import Derived.Test.YtacfiljclklkdaaPure2
namespace Go.Proofs.Ytacfiljclklkdaa
set_option linter.unusedVariables false
set_option linter.unusedSimpArgs false
set_option maxRecDepth 100000

/-- the members told by the bits of s, of those below m -/
def bitsOf (m s : Nat) : List Nat := (List.range m).filter fun i => s.testBit i
/-- the new member fits to a set -/
def fitsTo (ex : Nat → Nat → Bool) (m : Nat) (L : List Nat) : Bool := L.all fun o => !ex m o
/-- the program's list behind m members -/
def setsTo (ex : Nat → Nat → Bool) : Nat → List (List Nat)
  | 0 => [[]]
  | m + 1 => setsTo ex m ++ ((setsTo ex m).filter (fitsTo ex m)).map (· ++ [m])
/-- the model's test, behind i chords -/
def okSet (ex : Nat → Nat → Bool) (s : Nat) : Nat → Bool
  | 0 => true
  | i + 1 => okSet ex s i && (!s.testBit i || fitsTo ex i (bitsOf i s))
theorem bitsOf_succ (m s : Nat) : bitsOf (m + 1) s = bitsOf m s ++ if s.testBit m then [m] else [] := by
  unfold bitsOf
  rw [List.range_succ, List.filter_append]
  cases h : s.testBit m <;> simp [h]
theorem bits_len (m s : Nat) : (bitsOf m s).length ≤ m := by
  have := List.length_filter_le (fun i => s.testBit i) (List.range m)
  rw [List.length_range] at this; exact this
theorem bitsOf_lt (m s : Nat) (h : s < 2 ^ m) : bitsOf (m + 1) s = bitsOf m s := by
  rw [bitsOf_succ, Nat.testBit_lt_two_pow h]; simp
theorem bitsOf_high (m s i : Nat) (hi : i ≤ m) : bitsOf i (2 ^ m + s) = bitsOf i s := by
  unfold bitsOf
  refine List.filter_congr fun j hj => ?_
  rw [Nat.testBit_two_pow_add_gt (by have := List.mem_range.1 hj; omega)]
theorem okSet_high (ex : Nat → Nat → Bool) (m s : Nat) : ∀ i, i ≤ m → okSet ex (2 ^ m + s) i = okSet ex s i
  | 0, _ => rfl
  | i + 1, h => by
    unfold okSet
    rw [okSet_high ex m s i (by omega), bitsOf_high m s i (by omega), Nat.testBit_two_pow_add_gt (by omega)]
theorem okSet_lt (ex : Nat → Nat → Bool) (m s : Nat) (h : s < 2 ^ m) : okSet ex s (m + 1) = okSet ex s m := by
  rw [okSet, Nat.testBit_lt_two_pow h]; simp
/-- the model's sets of m chords, in the order of their numbers -/
def setsBy (ex : Nat → Nat → Bool) (m S : Nat) : List (List Nat) := ((List.range S).filter fun s => okSet ex s m).map (bitsOf m)
theorem setsBy_succ (ex : Nat → Nat → Bool) (m S : Nat) : setsBy ex m (S + 1) = setsBy ex m S ++ if okSet ex S m then [bitsOf m S] else [] := by
  unfold setsBy
  rw [List.range_succ, List.filter_append, List.map_append]
  cases h : okSet ex S m <;> simp [h]
theorem range_two (a : Nat) : List.range (a + a) = List.range a ++ (List.range a).map (a + ·) := by
  rw [List.range_add]
theorem setsTo_eq (ex : Nat → Nat → Bool) : ∀ m, setsTo ex m = setsBy ex m (2 ^ m)
  | 0 => by simp [setsTo, setsBy, okSet, bitsOf]
  | m + 1 => by
    rw [setsTo, setsTo_eq ex m]
    unfold setsBy
    rw [Nat.pow_succ, show 2 ^ m * 2 = 2 ^ m + 2 ^ m from by omega, range_two, List.filter_append, List.map_append]
    congr 1
    · rw [List.filter_congr (q := fun s => okSet ex s m) (fun s hs => okSet_lt ex m s (List.mem_range.1 hs))]
      refine List.map_congr_left fun s hs => (bitsOf_lt m s ?_).symm
      exact List.mem_range.1 (List.mem_filter.1 hs).1
    · rw [List.filter_map, List.map_map, List.filter_map, List.map_map, List.filter_filter]
      have e : ((List.range (2 ^ m)).filter ((fun s => okSet ex s (m + 1)) ∘ fun x => 2 ^ m + x)) = (List.range (2 ^ m)).filter fun s => (fitsTo ex m ∘ bitsOf m) s && okSet ex s m := by
        refine List.filter_congr fun s hs => ?_
        have hs2 := List.mem_range.1 hs
        show okSet ex (2 ^ m + s) (m + 1) = _
        rw [okSet, okSet_high ex m s m (Nat.le_refl _), bitsOf_high m s m (Nat.le_refl _), Nat.testBit_two_pow_add_eq, Nat.testBit_lt_two_pow hs2]
        simp [Bool.and_comm]
      rw [e]
      refine List.map_congr_left fun s hs => ?_
      have hs2 := List.mem_range.1 (List.mem_filter.1 hs).1
      show bitsOf m s ++ [m] = bitsOf (m + 1) (2 ^ m + s)
      rw [bitsOf_succ, bitsOf_high m s m (Nat.le_refl _), Nat.testBit_two_pow_add_eq, Nat.testBit_lt_two_pow hs2]
      simp
/-- how many lists of each length below N -/
def numsOf (N : Nat) (L : List (List Nat)) : List Int := (List.range N).map fun c => ((L.filter (fun s => s.length == c)).length : Int)
theorem numsOf_length (N : Nat) (L : List (List Nat)) : (numsOf N L).length = N := by simp [numsOf]
theorem numsOf_get (N : Nat) (L : List (List Nat)) (c : Nat) (h : c < N) : (numsOf N L)[c]? = some ((L.filter (fun s => s.length == c)).length : Int) := by simp [numsOf, h]
theorem numsOf_nil (N : Nat) : numsOf N [] = List.replicate N 0 := by
  unfold numsOf
  apply List.ext_getElem?
  intro j
  by_cases hj : j < N
  · simp [hj]
  · rw [List.getElem?_eq_none (by simp; omega), List.getElem?_eq_none (by simp; omega)]
theorem numsOf_snoc (N : Nat) (L : List (List Nat)) (s : List Nat) (h : s.length < N) : numsOf N (L ++ [s]) = (numsOf N L).set s.length ((L.filter (fun t => t.length == s.length)).length + 1) := by
  apply List.ext_getElem?
  intro j
  by_cases hj : j < N
  · rw [numsOf_get _ _ _ hj]
    by_cases e : s.length = j
    · subst e
      rw [List.getElem?_set_self (by rw [numsOf_length]; exact h), List.filter_append]
      simp
    · rw [List.getElem?_set_ne e, numsOf_get _ _ _ hj, List.filter_append]
      simp [e]
  · rw [List.getElem?_eq_none (by rw [numsOf_length]; omega), List.getElem?_eq_none (by rw [List.length_set, numsOf_length]; omega)]
theorem nums_bd (N : Nat) (L : List (List Nat)) (c : Nat) : ((L.filter (fun s => s.length == c)).length : Int) ≤ L.length := by
  have := List.length_filter_le (fun s : List Nat => s.length == c) L; omega
theorem setsTo_len (ex : Nat → Nat → Bool) : ∀ m, (setsTo ex m).length ≤ 2 ^ m
  | 0 => by simp [setsTo]
  | m + 1 => by
    have h := setsTo_len ex m
    rw [setsTo, List.length_append, List.length_map, Nat.pow_succ]
    have := List.length_filter_le (fitsTo ex m) (setsTo ex m)
    omega
theorem setsTo_mem (ex : Nat → Nat → Bool) : ∀ m s, s ∈ setsTo ex m → s.length ≤ m ∧ ∀ o ∈ s, o < m
  | 0, s, h => by
    simp only [setsTo, List.mem_singleton] at h
    subst h; simp
  | m + 1, s, h => by
    rw [setsTo, List.mem_append, List.mem_map] at h
    rcases h with h | ⟨t, ht, rfl⟩
    · obtain ⟨h1, h2⟩ := setsTo_mem ex m s h
      exact ⟨by omega, fun o ho => by have := h2 o ho; omega⟩
    · obtain ⟨h1, h2⟩ := setsTo_mem ex m t (List.mem_filter.1 ht).1
      refine ⟨by simp; omega, fun o ho => ?_⟩
      rcases List.mem_append.1 ho with h3 | h3
      · have := h2 o h3; omega
      · have := List.mem_singleton.1 h3; omega
end Go.Proofs.Ytacfiljclklkdaa
