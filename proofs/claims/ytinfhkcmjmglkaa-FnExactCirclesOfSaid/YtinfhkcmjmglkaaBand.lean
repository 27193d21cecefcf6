/- A word's ring with bands: its points, the bands' ends, the ring's border. -/
import Derived.Test.YtinfhkcmjmglkaaOrbit
import Derived.Test.YtinfhkcmjmglkaaPolyTrim
namespace Go.Proofs.Ytinfhkcmjmglkaa
set_option linter.unusedVariables false
set_option linter.unusedSimpArgs false
set_option maxRecDepth 100000

/-- the other place of the chord at t -/
def partner (xs : List Int) (t : Nat) : Nat := place1 xs (xs.getD t 0) + place2 xs (xs.getD t 0) - t
/-- where the band leads from a point -/
def bandF (xs : List Int) (tw : Nat → Bool) (p : Nat) : Nat := 2 * partner xs (p / 2) + (if tw (xs.getD (p / 2) 0).toNat = true then p % 2 else 1 - p % 2)
/-- where the ring's border leads from a point -/
def nextF (m p : Nat) : Nat := if p % 2 = 1 then (p + 1) % m else (p + m - 1) % m
theorem nextF_at (m p : Nat) (hp : p < m) : (p % 2 = 1 ∧ p + 1 = m ∧ nextF m p = 0) ∨ (p % 2 = 1 ∧ p + 1 < m ∧ nextF m p = p + 1) ∨ (p % 2 = 0 ∧ p = 0 ∧ nextF m p = m - 1) ∨ (p % 2 = 0 ∧ 0 < p ∧ nextF m p = p - 1) := by
  unfold nextF
  by_cases e : p % 2 = 1
  · rw [if_pos e]
    by_cases e2 : p + 1 = m
    · exact .inl ⟨e, e2, by rw [e2, Nat.mod_self]⟩
    · exact .inr (.inl ⟨e, by omega, Nat.mod_eq_of_lt (show p + 1 < m from by omega)⟩)
  · rw [if_neg e]
    by_cases e2 : p = 0
    · exact .inr (.inr (.inl ⟨by omega, e2, by rw [e2, Nat.zero_add, Nat.mod_eq_of_lt (show m - 1 < m from by omega)]⟩))
    · exact .inr (.inr (.inr ⟨by omega, by omega, by rw [show p + m - 1 = (p - 1) + m from by omega, Nat.add_mod_right, Nat.mod_eq_of_lt (show p - 1 < m from by omega)]⟩))
theorem partner_ok {xs : List Int} (h : isWord xs = true) {k : Nat} (hk : k < xs.length) : partner xs k < xs.length ∧ partner xs k ≠ k ∧ xs.getD (partner xs k) 0 = xs.getD k 0 ∧ partner xs (partner xs k) = k := by
  have hc := word_count_at h hk
  have hp := place_lt hc
  have h1 := place1_at hc
  have h2 := place2_at hc
  have h3 := word_place_at h hk
  have e1 : xs.getD (place1 xs (xs.getD k 0)) 0 = xs.getD k 0 := by rw [getD_eq xs, h1]; rfl
  have e2 : xs.getD (place2 xs (xs.getD k 0)) 0 = xs.getD k 0 := by rw [getD_eq xs, h2]; rfl
  have e3 : xs.getD (partner xs k) 0 = xs.getD k 0 := by
    unfold partner
    rcases h3 with h3 | h3
    · rw [show place1 xs (xs.getD k 0) + place2 xs (xs.getD k 0) - k = place2 xs (xs.getD k 0) from by omega]; exact e2
    · rw [show place1 xs (xs.getD k 0) + place2 xs (xs.getD k 0) - k = place1 xs (xs.getD k 0) from by omega]; exact e1
  refine ⟨by unfold partner; omega, by unfold partner; omega, e3, ?_⟩
  rw [partner, e3]
  unfold partner
  omega
theorem band_half {xs : List Int} (tw : Nat → Bool) (p : Nat) : bandF xs tw p / 2 = partner xs (p / 2) ∧ bandF xs tw p % 2 = (if tw (xs.getD (p / 2) 0).toNat = true then p % 2 else 1 - p % 2) := by
  unfold bandF
  split <;> omega
theorem two_word {xs : List Int} (h : isWord xs = true) (tw : Nat → Bool) (h0 : 0 < xs.length) : Two (bandF xs tw) (nextF (2 * xs.length)) (2 * xs.length) := by
  refine ⟨fun p hp => ?_, fun p hp => ?_, fun p hp => ?_, fun p hp => ?_, fun p hp => ?_, fun p hp => ?_⟩
  · have h1 := partner_ok h (k := p / 2) (by omega)
    have h2 := band_half (xs := xs) tw p
    omega
  · unfold nextF; split <;> exact Nat.mod_lt _ (by omega)
  · have h1 := partner_ok h (k := p / 2) (by omega)
    have h2 := band_half (xs := xs) tw p
    have h3 := band_half (xs := xs) tw (bandF xs tw p)
    rw [h2.1, h2.2, h1.2.2.2, h1.2.2.1] at h3
    have h4 : bandF xs tw (bandF xs tw p) % 2 = p % 2 := by
      rw [h3.2]; split
      · rfl
      · omega
    omega
  · have h1 := nextF_at (2 * xs.length) p hp
    have hl : nextF (2 * xs.length) p < 2 * xs.length := by unfold nextF; split <;> exact Nat.mod_lt _ (by omega)
    have h2 := nextF_at (2 * xs.length) (nextF (2 * xs.length) p) hl
    omega
  · have h1 := partner_ok h (k := p / 2) (by omega)
    have h2 := band_half (xs := xs) tw p
    intro e
    rw [e] at h2
    omega
  · have h1 := nextF_at (2 * xs.length) p hp
    omega
/-- the number of circles -/
def circN (xs : List Int) (tw : Nat → Bool) : Int := if xs.length = 0 then 1 else (cirTo (bandF xs tw) (nextF (2 * xs.length)) (2 * xs.length) (2 * xs.length)).2
/-- the bands' ends of the first c chords -/
def bandL (xs : List Int) (tw : Nat → Bool) (c : Nat) : List Int := tab (2 * xs.length) (fun p => if xs.getD (p / 2) 0 < (c : Int) then (bandF xs tw p : Int) else 0)
theorem bandL_zero {xs : List Int} (h : isWord xs = true) (tw : Nat → Bool) : bandL xs tw 0 = List.replicate (2 * xs.length) 0 := by
  rw [tab_zero]
  exact tab_ext (fun i hi => by
    rw [if_neg]
    have : xs.getD (i / 2) 0 ∈ xs := by rw [List.getD, List.getElem?_eq_getElem (by omega)]; exact List.getElem_mem _
    have := (word_lt h this).1
    omega)
theorem bandL_get {xs : List Int} (h : isWord xs = true) (tw : Nat → Bool) {p : Nat} (hp : p < 2 * xs.length) : (bandL xs tw (xs.length / 2))[p]? = some (bandF xs tw p : Int) := by
  unfold bandL
  rw [tab_get hp, if_pos]
  have : xs.getD (p / 2) 0 ∈ xs := by rw [List.getD, List.getElem?_eq_getElem (by omega)]; exact List.getElem_mem _
  have := (word_lt h this).2
  omega
theorem band_at {xs : List Int} (h : isWord xs = true) (tw : Nat → Bool) {c : Nat} (hc : c < xs.length / 2) (s : Nat) (hs : s < 2) :
    bandF xs tw (2 * place1 xs c + s) = 2 * place2 xs c + (if tw c = true then s else 1 - s) ∧ bandF xs tw (2 * place2 xs c + s) = 2 * place1 xs c + (if tw c = true then s else 1 - s) := by
  have hct := word_count h (i := c) hc
  have hp := place_lt hct
  have e1 : xs.getD (place1 xs c) 0 = (c : Int) := by rw [getD_eq xs, place1_at hct]; rfl
  have e2 : xs.getD (place2 xs c) 0 = (c : Int) := by rw [getD_eq xs, place2_at hct]; rfl
  have d1 : (2 * place1 xs c + s) / 2 = place1 xs c := by omega
  have d2 : (2 * place2 xs c + s) / 2 = place2 xs c := by omega
  have m1 : (2 * place1 xs c + s) % 2 = s := by omega
  have m2 : (2 * place2 xs c + s) % 2 = s := by omega
  constructor
  · unfold bandF partner
    rw [d1, m1, e1, show place1 xs (c : Int) + place2 xs (c : Int) - place1 xs (c : Int) = place2 xs (c : Int) from by omega]; rfl
  · unfold bandF partner
    rw [d2, m2, e2, show place1 xs (c : Int) + place2 xs (c : Int) - place2 xs (c : Int) = place1 xs (c : Int) from by omega]; rfl
/-- four ends more: a chord's bands -/
theorem bandL_step {xs : List Int} (h : isWord xs = true) (tw : Nat → Bool) {c : Nat} (hc : c < xs.length / 2) {i1 i2 i3 i4 : Nat}
    (hi : ∀ p, (p / 2 = place1 xs c ∨ p / 2 = place2 xs c) ↔ (p = i1 ∨ p = i2 ∨ p = i3 ∨ p = i4)) :
    ((((bandL xs tw c).set i1 (bandF xs tw i1 : Int)).set i2 (bandF xs tw i2 : Int)).set i3 (bandF xs tw i3 : Int)).set i4 (bandF xs tw i4 : Int) = bandL xs tw (c + 1) := by
  have hct := word_count h (i := c) hc
  obtain ⟨_, _, g1, g2, _, h6⟩ := two_places hct
  unfold bandL
  rw [tab_set, tab_set, tab_set, tab_set]
  apply tab_ext
  intro p hp
  have hx : xs[p / 2]? = some (xs.getD (p / 2) 0) := by rw [List.getD, List.getElem?_eq_getElem (by omega)]; rfl
  have hiff : xs.getD (p / 2) 0 = (c : Int) ↔ (p = i1 ∨ p = i2 ∨ p = i3 ∨ p = i4) := by
    rw [← hi p]
    constructor
    · intro e; exact h6 _ (by rw [hx, e])
    · rintro (e | e)
      · rw [getD_eq xs, e, g1]; rfl
      · rw [getD_eq xs, e, g2]; rfl
  by_cases e4 : p = i4
  · subst e4; rw [if_pos rfl, if_pos (by have := hiff.2 (by simp); omega)]
  rw [if_neg e4]
  by_cases e3 : p = i3
  · subst e3; rw [if_pos rfl, if_pos (by have := hiff.2 (by simp); omega)]
  rw [if_neg e3]
  by_cases e2 : p = i2
  · subst e2; rw [if_pos rfl, if_pos (by have := hiff.2 (by simp); omega)]
  rw [if_neg e2]
  by_cases e1 : p = i1
  · subst e1; rw [if_pos rfl, if_pos (by have := hiff.2 (by simp); omega)]
  rw [if_neg e1]
  have hne : ¬ xs.getD (p / 2) 0 = (c : Int) := fun e => by have := hiff.1 e; omega
  by_cases hl : xs.getD (p / 2) 0 < (c : Int)
  · rw [if_pos hl, if_pos (by omega)]
  · rw [if_neg hl, if_neg (by omega)]
theorem next_int (m p : Nat) (h0 : 0 < m) (hp : p < m) : (p % 2 = 1 → ((p : Int) + 1) % (m : Int) = (nextF m p : Int)) ∧ (¬ p % 2 = 1 → ((p : Int) + (m : Int) - 1) % (m : Int) = (nextF m p : Int)) := by
  constructor
  · intro h; unfold nextF; rw [if_pos h, Int.natCast_emod]; rfl
  · intro h; unfold nextF; rw [if_neg h, Int.natCast_emod]; congr 1; omega
end Go.Proofs.Ytinfhkcmjmglkaa
