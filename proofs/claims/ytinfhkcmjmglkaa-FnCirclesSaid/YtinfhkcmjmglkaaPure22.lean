/- Plain: circles and ranks of all words, run by the kernel: up to five chords, and a first part of six. -/
import Derived.Test.YtinfhkcmjmglkaaPure21
namespace Go.Proofs.Ytinfhkcmjmglkaa
set_option linter.unusedVariables false
set_option linter.unusedSimpArgs false
set_option maxRecDepth 100000

/-- what is asked holds of each word with a beginning -/
def Good (ok : List Nat → Bool) (n f : Nat) (b : List Nat) (m : Nat) : Prop := ∀ w ∈ fillP n f (natI b) m, ∃ v, w = natI v ∧ ok v = true
theorem good_of {ok : List Nat → Bool} {n f : Nat} {b : List Nat} {m : Nat} (h : allK ok n f b m = true) : Good ok n f b m := allK_all ok n f b m h
theorem good_step {ok : List Nat → Bool} {n f : Nat} {b : List Nat} {m : Nat} (h : ∀ x, x < min (m + 1) n → (natI b).count (x : Int) < 2 → Good ok n f (b ++ [x]) (max m (x + 1))) : Good ok n (f + 1) b m := by
  intro w hw
  simp only [fillP] at hw
  obtain ⟨x, hx, hw⟩ := List.mem_flatMap.1 hw
  rw [List.mem_range] at hx
  split at hw
  · rename_i hc
    exact h x hx hc w (by rw [natI_snoc]; exact hw)
  · cases hw
theorem circ1 : allK (circOkK 1 2) 1 2 [] 0 = true := by decide +kernel
theorem circ2 : allK (circOkK 2 4) 2 4 [] 0 = true := by decide +kernel
theorem circ3 : allK (circOkK 3 6) 3 6 [] 0 = true := by decide +kernel
theorem circ4 : allK (circOkK 4 8) 4 8 [] 0 = true := by decide +kernel
theorem circ5 : allK (circOkK 5 10) 5 10 [] 0 = true := by decide +kernel
theorem circ6_00 : allK (circOkK 6 12) 6 10 [0, 0] 1 = true := by decide +kernel
theorem circ6_010 : allK (circOkK 6 12) 6 9 [0, 1, 0] 2 = true := by decide +kernel
theorem circ6_011 : allK (circOkK 6 12) 6 9 [0, 1, 1] 2 = true := by decide +kernel
theorem circ6_0120 : allK (circOkK 6 12) 6 8 [0, 1, 2, 0] 3 = true := by decide +kernel
end Go.Proofs.Ytinfhkcmjmglkaa
