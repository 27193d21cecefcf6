/- The interlace polynomial: plain facts. -/
import Derived.Test.YtacfiljclklkdaaExpPure
import Derived.Test.YtacfiljclklkdaaChoices
import Derived.Test.YtacfiljclklkdaaRank
import Derived.Test.YtacfiljclklkdaaNormWord
import Derived.Test.YtacfiljclklkdaaFWordOfChords
namespace Go.Proofs.Ytacfiljclklkdaa
open Go.RowKit
set_option linter.unusedVariables false
set_option linter.unusedSimpArgs false
set_option maxRecDepth 100000

/-- the chords of a choice, as numbers -/
def chosenL (m k : Nat) : List Int := (bitsOf m k).map fun j : Nat => (j : Int)
theorem chosenL_mem (m k j : Nat) (h : j < m) : ((j : Int) ∈ chosenL m k) ↔ k.testBit j = true := by
  simp only [chosenL, List.mem_map, bitsOf, List.mem_filter, List.mem_range]
  constructor
  · rintro ⟨a, ⟨h1, h2⟩, h3⟩
    obtain rfl : a = j := by omega
    exact h2
  · intro h2; exact ⟨j, ⟨h, h2⟩, rfl⟩
theorem chosenL_len (m k : Nat) : (chosenL m k).length = (bitsOf m k).length := by simp [chosenL]
theorem chosen_someOf {xs : List Int} (hw : isWord xs = true) (k : Nat) : xs.filter (inCh k) = xs.filter (fun x => decide (x ∈ chosenL (xs.length / 2) k)) := by
  apply List.filter_congr
  intro x hx
  have hb := word_lt hw hx
  obtain ⟨j, rfl⟩ : ∃ j : Nat, x = j := ⟨x.toNat, by omega⟩
  have h := chosenL_mem (xs.length / 2) k j (by omega)
  rw [Bool.eq_iff_iff, decide_eq_true_eq, h]
  simp [inCh]
theorem chosenW_some {xs : List Int} (hw : isWord xs = true) (k : Nat) : chosenW xs k = someOf xs (chosenL (xs.length / 2) k) := by
  unfold chosenW someOf
  rw [chosen_someOf hw k]
theorem chosenW_count {xs : List Int} (hw : isWord xs = true) (k : Nat) : (chosenW xs k).length = 2 * (bitsOf (xs.length / 2) k).length := by
  unfold chosenW
  rw [norm_length, ← chosenL_len]
  refine length_of_twos _ _ ?_ ?_ ?_
  · unfold chosenL bitsOf
    exact List.Pairwise.map _ (fun a b h e => h (by omega)) ((List.nodup_range).filter _)
  · intro x hx
    rw [chosen_someOf hw k] at hx
    simpa using (List.mem_filter.1 hx).2
  · intro y hy
    have hy2 := hy
    simp only [chosenL, List.mem_map, bitsOf, List.mem_filter, List.mem_range] at hy2
    obtain ⟨j, ⟨h1, h2⟩, rfl⟩ := hy2
    rw [List.count_filter (by simp [inCh, h2])]
    exact word_count hw h1
theorem chosenW_word {xs : List Int} (hw : isWord xs = true) (k : Nat) : isWord (chosenW xs k) = true :=
  norm_word (twice_filter _ (isWord_twice hw)) (Nat.le_trans (List.length_filter_le _ _) (isWord_len hw))
theorem othersW_word {xs : List Int} (hw : isWord xs = true) (k : Nat) : isWord (othersW xs k) = true :=
  norm_word (twice_filter _ (isWord_twice hw)) (Nat.le_trans (List.length_filter_le _ _) (isWord_len hw))
theorem rankOf_bd (xs : List Int) : 0 ≤ rankOf xs ∧ rankOf xs ≤ ((xs.length / 2 : Nat) : Int) := by
  have h0 : (rowsOf xs).length = xs.length / 2 := rowsOf_length xs
  have he : rankOf xs = ((basisTo (xs.length / 2) (rowsOf xs) (xs.length / 2)).length : Nat) := by
    unfold rankOf basisTo basisOf; rw [List.take_of_length_le (by simp [vecs])]
  have hb := (basisTo_small (xs.length / 2) (rowsOf xs) (fun j => ?_) (xs.length / 2) (by omega)).2
  · rw [he]; omega
  · by_cases hj : j < xs.length / 2
    · rw [rowsOf_get xs j hj]; exact rowOf_01' xs j
    · rw [List.getElem?_eq_none (by omega)]
      exact fun i => by simp
/-- how many chords of a choice are more than the rank -/
def corN (xs : List Int) (k : Nat) : Nat := ((chosenW xs k).length / 2 : Nat) - (rankOf (chosenW xs k)).toNat
theorem corN_int (xs : List Int) (k : Nat) : (((chosenW xs k).length : Nat) : Int) / 2 - rankOf (chosenW xs k) = (corN xs k : Int) := by
  have := rankOf_bd (chosenW xs k)
  unfold corN
  omega
theorem corN_count {xs : List Int} (hw : isWord xs = true) (k : Nat) : ((bitsOf (xs.length / 2) k).length : Int) - rankOf (chosenW xs k) = (corN xs k : Int) := by
  rw [← corN_int, chosenW_count hw k, Int.natCast_mul, show ((2 : Nat) : Int) = 2 from rfl, Int.mul_ediv_cancel_left _ (by decide)]
theorem corN_le (xs : List Int) (k : Nat) : corN xs k ≤ xs.length / 2 := by
  have := chosenW_len xs k
  unfold corN; omega
/-- of the first choices -/
def cors (xs : List Int) (k : Nat) : List Nat := (List.range k).map (corN xs)
theorem cors_succ (xs : List Int) (k : Nat) : cors xs (k + 1) = cors xs k ++ [corN xs k] := by simp [cors, List.range_succ]
theorem cors_len (xs : List Int) (k : Nat) : (cors xs k).length = k := by simp [cors]
theorem cors_mem {xs : List Int} {k c : Nat} (h : c ∈ cors xs k) : c ≤ xs.length / 2 := by
  obtain ⟨j, _, rfl⟩ := List.mem_map.1 h
  exact corN_le xs j
/-- the numbers of (x - 1)^c -/
def pw : Nat → Nat → Int := facC (fun _ => 1) 0
theorem fac_const (r : Int) : ∀ (d i t : Nat), facC (fun _ => r) i d t = facC (fun _ => r) 0 d t := by
  intro d
  induction d with
  | zero => intro i t; cases t <;> rfl
  | succ d ih =>
    intro i t
    cases t with
    | zero => show -(r * facC (fun _ => r) (i + 1) d 0) = -(r * facC (fun _ => r) (0 + 1) d 0); rw [ih (i + 1), ih (0 + 1)]
    | succ t =>
      show facC (fun _ => r) (i + 1) d t - r * facC (fun _ => r) (i + 1) d (t + 1) = facC (fun _ => r) (0 + 1) d t - r * facC (fun _ => r) (0 + 1) d (t + 1)
      rw [ih (i + 1), ih (0 + 1), ih (i + 1), ih (0 + 1)]
theorem pw_zero : pw 0 0 = 1 := rfl
theorem pw_none (t : Nat) : pw 0 (t + 1) = 0 := rfl
theorem pw_first (c : Nat) : pw (c + 1) 0 = -pw c 0 := by
  show -(1 * facC (fun _ => 1) (0 + 1) c 0) = _
  rw [fac_const]; unfold pw; omega
theorem pw_next (c t : Nat) : pw (c + 1) (t + 1) = pw c t - pw c (t + 1) := by
  show facC (fun _ => 1) (0 + 1) c t - 1 * facC (fun _ => 1) (0 + 1) c (t + 1) = _
  rw [fac_const, fac_const _ _ _ (t + 1)]; unfold pw; omega
theorem pw_high (c : Nat) : ∀ t, c < t → pw c t = 0 := by
  induction c with
  | zero => intro t h; obtain ⟨s, rfl⟩ : ∃ s, t = s + 1 := ⟨t - 1, by omega⟩; rfl
  | succ c ih =>
    intro t h
    obtain ⟨s, rfl⟩ : ∃ s, t = s + 1 := ⟨t - 1, by omega⟩
    rw [pw_next, ih s (by omega), ih (s + 1) (by omega)]; rfl
theorem pw_bd (c : Nat) : ∀ t, -((2 ^ c : Nat) : Int) ≤ pw c t ∧ pw c t ≤ ((2 ^ c : Nat) : Int) := by
  induction c with
  | zero => intro t; cases t with
    | zero => decide
    | succ t => rw [pw_none]; decide
  | succ c ih =>
    intro t
    have e : ((2 ^ (c + 1) : Nat) : Int) = 2 * ((2 ^ c : Nat) : Int) := by rw [Nat.pow_succ]; omega
    rw [e]
    cases t with
    | zero => have := ih 0; rw [pw_first]; omega
    | succ t => have h1 := ih t; have h2 := ih (t + 1); rw [pw_next]; omega
theorem pw_small {c : Nat} (h : c ≤ 6) (t : Nat) : -64 ≤ pw c t ∧ pw c t ≤ 64 := by
  have h1 := pw_bd c t
  have h2 : 2 ^ c ≤ 64 := pow6 c h
  omega
def pwL (c : Nat) : List Int := (List.range (c + 1)).map (pw c)
theorem pwL_len (c : Nat) : (pwL c).length = c + 1 := by simp [pwL]
theorem pwL_at (c t : Nat) (h : t < c + 1) : (pwL c)[t]? = some (pw c t) := by simp [pwL, h]
theorem pwL_get (c t : Nat) : (pwL c)[t]?.getD 0 = pw c t := by
  by_cases h : t < c + 1
  · rw [pwL_at _ _ h]; rfl
  · rw [List.getElem?_eq_none (by rw [pwL_len]; omega), pw_high _ _ (by omega)]; rfl
/-- the sums of the numbers of the first choices -/
def sumL (N : Nat) (l : List Nat) : List Int := (List.range N).map fun t => lsum (fun c => pw c t) l
theorem sumL_len (N : Nat) (l : List Nat) : (sumL N l).length = N := by simp [sumL]
theorem sumL_at (N : Nat) (l : List Nat) (t : Nat) (h : t < N) : (sumL N l)[t]? = some (lsum (fun c => pw c t) l) := by simp [sumL, h]
theorem sumL_nil (N : Nat) : sumL N [] = List.replicate N 0 := by
  apply List.ext_getElem?
  intro j
  by_cases h : j < N
  · rw [sumL_at _ _ _ h]; simp [h]; rfl
  · rw [List.getElem?_eq_none (by rw [sumL_len]; omega), List.getElem?_eq_none (by simp; omega)]
theorem lsum_bd (g : Nat → Int) (B : Int) (l : List Nat) (h : ∀ c ∈ l, -B ≤ g c ∧ g c ≤ B) : -(l.length * B) ≤ lsum g l ∧ lsum g l ≤ l.length * B := by
  have key : ∀ l' : List Nat, (∀ c ∈ l', -B ≤ g c ∧ g c ≤ B) → -(l'.reverse.length * B) ≤ lsum g l'.reverse ∧ lsum g l'.reverse ≤ l'.reverse.length * B := by
    intro l'
    induction l' with
    | nil => intro _; simp [lsum]
    | cons c l' ih =>
      intro h
      have h1 := h c (by simp)
      have h2 := ih (fun x hx => h x (by simp [hx]))
      rw [List.reverse_cons, lsum_snoc, List.length_append]
      simp only [List.length_cons, List.length_nil, Nat.zero_add]
      have e : ((l'.reverse.length + 1 : Nat) : Int) * B = l'.reverse.length * B + B := by rw [Int.natCast_add, Int.add_mul]; omega
      rw [e]; omega
  have := key l.reverse (fun c hc => h c (by simpa using hc))
  rwa [List.reverse_reverse] at this
theorem sum_small {l : List Nat} (h : ∀ c ∈ l, c ≤ 6) (hl : l.length ≤ 64) (t : Nat) : -4096 ≤ lsum (fun c => pw c t) l ∧ lsum (fun c => pw c t) l ≤ 4096 := by
  have h1 := lsum_bd (fun c => pw c t) 64 l (fun c hc => pw_small (h c hc) t)
  have h2 : (l.length : Int) * 64 ≤ 4096 := by omega
  omega
/-- one choice more: the first j numbers are added -/
def addUp (out p : List Int) (j : Nat) : List Int := (List.range out.length).map fun t => out[t]?.getD 0 + if t < j then p[t]?.getD 0 else 0
theorem addUp_len (out p : List Int) (j : Nat) : (addUp out p j).length = out.length := by simp [addUp]
theorem addUp_at (out p : List Int) (j t : Nat) (h : t < out.length) : (addUp out p j)[t]? = some (out[t]?.getD 0 + if t < j then p[t]?.getD 0 else 0) := by simp [addUp, h]
theorem addUp_zero (out p : List Int) : addUp out p 0 = out := by
  apply List.ext_getElem?
  intro t
  by_cases h : t < out.length
  · rw [addUp_at _ _ _ _ h, if_neg (by omega), List.getElem?_eq_getElem h]; simp
  · rw [List.getElem?_eq_none (by rw [addUp_len]; omega), List.getElem?_eq_none (by omega)]
theorem addUp_succ (out p : List Int) (j : Nat) (h : j < out.length) : addUp out p (j + 1) = (addUp out p j).set j (out[j]?.getD 0 + p[j]?.getD 0) := by
  apply List.ext_getElem?
  intro t
  rw [List.getElem?_set, addUp_len]
  by_cases ht : t < out.length
  · rw [addUp_at _ _ _ _ ht, addUp_at _ _ _ _ ht]
    by_cases e : j = t
    · subst e; rw [if_pos (by omega), if_pos rfl, if_pos h]
    · rw [if_neg e]
      by_cases e2 : t < j
      · rw [if_pos (by omega), if_pos e2]
      · rw [if_neg (by omega), if_neg e2]
  · rw [if_neg (by omega), List.getElem?_eq_none (by rw [addUp_len]; omega), List.getElem?_eq_none (by rw [addUp_len]; omega)]
theorem sumL_snoc (N : Nat) (l : List Nat) (c : Nat) (h : c + 1 ≤ N) : sumL N (l ++ [c]) = addUp (sumL N l) (pwL c) (c + 1) := by
  apply List.ext_getElem?
  intro t
  by_cases ht : t < N
  · rw [sumL_at _ _ _ ht, addUp_at _ _ _ _ (by rw [sumL_len]; exact ht), sumL_at _ _ _ ht, lsum_snoc, pwL_get]
    by_cases e : t < c + 1
    · rw [if_pos e]; rfl
    · rw [if_neg e, pw_high _ _ (by omega)]; rfl
  · rw [List.getElem?_eq_none (by rw [sumL_len]; omega), List.getElem?_eq_none (by rw [addUp_len, sumL_len]; omega)]
/-- one factor more: the first j numbers are laid out -/
def mulTo (p : List Int) (j : Nat) : List Int := (List.range (p.length + 1)).map fun t => (if 0 < t ∧ t ≤ j then p[t - 1]?.getD 0 else 0) - if t < j then p[t]?.getD 0 else 0
theorem mulTo_len (p : List Int) (j : Nat) : (mulTo p j).length = p.length + 1 := by simp [mulTo]
theorem mulTo_at (p : List Int) (j t : Nat) (h : t < p.length + 1) : (mulTo p j)[t]? = some ((if 0 < t ∧ t ≤ j then p[t - 1]?.getD 0 else 0) - if t < j then p[t]?.getD 0 else 0) := by simp [mulTo, h]
theorem mulTo_zero (p : List Int) : mulTo p 0 = List.replicate (p.length + 1) 0 := by
  apply List.ext_getElem?
  intro t
  by_cases h : t < p.length + 1
  · rw [mulTo_at _ _ _ h, if_neg (by omega), if_neg (by omega)]; simp [h]
  · rw [List.getElem?_eq_none (by rw [mulTo_len]; omega), List.getElem?_eq_none (by simp; omega)]
theorem mulTo_succ (p : List Int) (j : Nat) (h : j < p.length) : mulTo p (j + 1) = ((mulTo p j).set j ((mulTo p j)[j]?.getD 0 - p[j]?.getD 0)).set (j + 1) (p[j]?.getD 0) := by
  apply List.ext_getElem?
  intro t
  rw [List.getElem?_set, List.getElem?_set, List.length_set, mulTo_len]
  by_cases ht : t < p.length + 1
  · rw [mulTo_at p (j + 1) t ht, mulTo_at p j t ht, mulTo_at p j j (by omega), Option.getD_some]
    rcases Nat.lt_trichotomy t j with hlt | rfl | hgt
    · have a1 : ¬ j + 1 = t := by omega
      have a2 : ¬ j = t := by omega
      have a3 : t < j + 1 := by omega
      have a5 : t ≤ j + 1 := by omega
      have a6 : t ≤ j := by omega
      simp [a1, a2, a3, hlt, a5, a6]
    · have a1 : t < p.length + 1 := by omega
      simp [a1]
    · by_cases e : j + 1 = t
      · subst e
        simp [h]
      · have a2 : ¬ j = t := by omega
        have a3 : ¬ t < j + 1 := by omega
        have a4 : ¬ t < j := by omega
        have a5 : ¬ t ≤ j + 1 := by omega
        have a6 : ¬ t ≤ j := by omega
        simp [e, a2, a3, a4, a5, a6]
  · rw [if_neg (by omega), if_neg (by omega), List.getElem?_eq_none (by rw [mulTo_len]; omega), List.getElem?_eq_none (by rw [mulTo_len]; omega)]
theorem mulTo_end (c : Nat) : mulTo (pwL c) (pwL c).length = pwL (c + 1) := by
  apply List.ext_getElem?
  intro t
  by_cases ht : t < c + 1 + 1
  · rw [mulTo_at _ _ _ (by rw [pwL_len]; exact ht), pwL_at _ _ ht, pwL_get, pwL_get, pwL_len]
    cases t with
    | zero => rw [if_neg (by omega), if_pos (by omega), pw_first]; congr 1; omega
    | succ t =>
      rw [if_pos ⟨by omega, by omega⟩, Nat.add_sub_cancel, pw_next]
      by_cases e : t + 1 < c + 1
      · rw [if_pos e]
      · rw [if_neg e, pw_high c (t + 1) (by omega)]
  · rw [List.getElem?_eq_none (by rw [mulTo_len, pwL_len]; omega), List.getElem?_eq_none (by rw [pwL_len]; omega)]
/-- the interlace polynomial -/
def interL (xs : List Int) : List Int := sumL (xs.length / 2 + 1) (cors xs (2 ^ (xs.length / 2)))
theorem interL_len (xs : List Int) : (interL xs).length = xs.length / 2 + 1 := sumL_len _ _
theorem interL_exp (xs : List Int) (root : Nat → Int) (hroot : ∀ k, root k = 1) : expL root (hist (xs.length / 2 + 1) (cors xs (2 ^ (xs.length / 2)))) = interL xs := by
  obtain rfl : root = fun _ => 1 := funext hroot
  apply List.ext_getElem?
  intro t
  by_cases ht : t < xs.length / 2 + 1
  · have h1 := expL_hist (fun _ => 1) (xs.length / 2 + 1) (cors xs (2 ^ (xs.length / 2))) (fun c hc => by have := cors_mem hc; omega) t ht
    have h2 : t < (expL (fun _ => 1) (hist (xs.length / 2 + 1) (cors xs (2 ^ (xs.length / 2))))).length := by rw [expL_len, hist_len]; exact ht
    rw [List.getElem?_eq_getElem h2, Option.getD_some] at h1
    rw [List.getElem?_eq_getElem h2, h1]
    unfold interL
    rw [sumL_at _ _ _ ht]; rfl
  · rw [List.getElem?_eq_none (by rw [expL_len, hist_len]; omega), List.getElem?_eq_none (by rw [interL_len]; omega)]
end Go.Proofs.Ytacfiljclklkdaa
