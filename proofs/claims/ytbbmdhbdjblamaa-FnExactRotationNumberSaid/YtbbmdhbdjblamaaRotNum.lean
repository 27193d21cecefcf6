/- The rotations that a map of keys has met. -/
import Derived.Test.YtbbmdhbdjblamaaArrKey
import Derived.Test.YtbbmdhbdjblamaaPure7
import Derived.Test.YtbbmdhbdjblamaaSym
namespace Go.Proofs.Ytbbmdhbdjblamaa
open Go.RowKit
set_option linter.unusedVariables false
set_option linter.unusedSimpArgs false
set_option maxRecDepth 100000

theorem rot_rotP (xs : List Int) (k : Nat) : rot xs k = rotP xs k := rfl
theorem key_inj_len {xs ys : List Int} (h : xs.length = ys.length) (e : key xs = key ys) : xs = ys := by
  unfold key at e; exact List.append_inj_left e h
/-- the keys of the first q rotations -/
def rotKeys (xs : List Int) (q : Nat) : List (List Int) := (List.range q).map fun i => key (rotP xs i)
theorem rotKeys_succ (xs : List Int) (q : Nat) : rotKeys xs (q + 1) = rotKeys xs q ++ [key (rotP xs q)] := by simp [rotKeys, List.range_succ]
theorem rotKeys_mem (xs : List Int) (q i : Nat) (h : i < q) : key (rotP xs i) ∈ rotKeys xs q := List.mem_map.2 ⟨i, List.mem_range.2 h, rfl⟩
theorem rot_among {xs : List Int} {p : Nat} (h : norm xs = xs) (hp : IsPer xs p) : ∀ k, k < xs.length → ∃ i, i < p ∧ rotP xs k = rotP xs i := by
  intro k
  induction k using Nat.strongRecOn with
  | _ k ih =>
    intro hk
    by_cases hkp : k < p
    · exact ⟨k, hkp, rfl⟩
    · have h1 := hp.1
      obtain ⟨i, hi, e⟩ := ih (k - p) (by omega) (by omega)
      exact ⟨i, hi, by rw [rot_old h hp k (by omega) hk, e]⟩
/-- how many keys there are after k rounds -/
def metKeys (p k : Nat) : Nat := min (max k 1) p
theorem rotKeys_step {xs : List Int} {p : Nat} (h : norm xs = xs) (hp : IsPer xs p) (k : Nat) (hk : k < xs.length) :
    (if key (rotP xs k) ∈ rotKeys xs (metKeys p k) then rotKeys xs (metKeys p k) else rotKeys xs (metKeys p k) ++ [key (rotP xs k)]) = rotKeys xs (metKeys p (k + 1)) := by
  have h1 := hp.1
  by_cases hkp : p ≤ k
  · obtain ⟨i, hi, e⟩ := rot_among h hp k hk
    rw [show metKeys p k = p from by unfold metKeys; omega, show metKeys p (k + 1) = p from by unfold metKeys; omega, e, if_pos (rotKeys_mem xs p i hi)]
  · by_cases h0 : k = 0
    · subst h0
      rw [show metKeys p 0 = 1 from by unfold metKeys; omega, show metKeys p (0 + 1) = 1 from by unfold metKeys; omega, if_pos (rotKeys_mem xs 1 0 (by omega))]
    · rw [show metKeys p k = k from by unfold metKeys; omega, show metKeys p (k + 1) = k + 1 from by unfold metKeys; omega, if_neg, rotKeys_succ]
      intro hm
      obtain ⟨i, hi, e⟩ := List.mem_map.1 hm
      have hik := List.mem_range.1 hi
      exact rot_new h hp i k hik (by omega) hk (key_inj_len (by rw [rotP_length, rotP_length]) e)
theorem rotKeys_one {xs : List Int} (h : norm xs = xs) : rotKeys xs 1 = [key xs] := by simp [rotKeys, rotP_zero h]
theorem rotNumber_is {xs : List Int} {k : Nat} (h : IsPer xs k) : rotNumber xs = (k : Int) := by unfold rotNumber; rw [(perNat_is xs).uniq h]
theorem perNat_le (xs : List Int) : perNat xs ≤ max xs.length 1 := by rcases (perNat_is xs).2.1 with h | h <;> omega
theorem metKeys_end (xs : List Int) : metKeys (perNat xs) xs.length = perNat xs := by have := perNat_le xs; have := (perNat_is xs).1; unfold metKeys; omega
theorem rotKeys_length (xs : List Int) (q : Nat) : (rotKeys xs q).length = q := by simp [rotKeys]
end Go.Proofs.Ytbbmdhbdjblamaa
