/- Plain: border circles are told by crossing ranks, ranks are even, and rotations keep circles. -/
import Derived.Test.YtinfhkcmjmglkaaPure22
import Derived.Test.YtinfhkcmjmglkaaPure23
namespace Go.Proofs.Ytinfhkcmjmglkaa
set_option linter.unusedVariables false
set_option linter.unusedSimpArgs false
set_option maxRecDepth 100000

theorem circ6_012340 : allK (circOkK 6 12) 6 6 [0, 1, 2, 3, 4, 0] 5 = true := by decide +kernel
theorem circ6_012341 : allK (circOkK 6 12) 6 6 [0, 1, 2, 3, 4, 1] 5 = true := by decide +kernel
theorem circ6_012342 : allK (circOkK 6 12) 6 6 [0, 1, 2, 3, 4, 2] 5 = true := by decide +kernel
theorem circ6_012343 : allK (circOkK 6 12) 6 6 [0, 1, 2, 3, 4, 3] 5 = true := by decide +kernel
theorem circ6_012344 : allK (circOkK 6 12) 6 6 [0, 1, 2, 3, 4, 4] 5 = true := by decide +kernel
theorem circ6_012345 : allK (circOkK 6 12) 6 6 [0, 1, 2, 3, 4, 5] 6 = true := by decide +kernel
theorem good6 : Good (circOkK 6 12) 6 12 [] 0 := by
  refine good_step fun x hx _ => ?_
  obtain rfl : x = 0 := by omega
  refine good_step fun x hx _ => ?_
  obtain rfl | rfl : x = 0 ∨ x = 1 := by omega
  · exact good_of circ6_00
  refine good_step fun x hx _ => ?_
  obtain rfl | rfl | rfl : x = 0 ∨ x = 1 ∨ x = 2 := by omega
  · exact good_of circ6_010
  · exact good_of circ6_011
  refine good_step fun x hx _ => ?_
  obtain rfl | rfl | rfl | rfl : x = 0 ∨ x = 1 ∨ x = 2 ∨ x = 3 := by omega
  · exact good_of circ6_0120
  · exact good_of circ6_0121
  · exact good_of circ6_0122
  refine good_step fun x hx _ => ?_
  obtain rfl | rfl | rfl | rfl | rfl : x = 0 ∨ x = 1 ∨ x = 2 ∨ x = 3 ∨ x = 4 := by omega
  · exact good_of circ6_01230
  · exact good_of circ6_01231
  · exact good_of circ6_01232
  · exact good_of circ6_01233
  refine good_step fun x hx _ => ?_
  obtain rfl | rfl | rfl | rfl | rfl | rfl : x = 0 ∨ x = 1 ∨ x = 2 ∨ x = 3 ∨ x = 4 ∨ x = 5 := by omega
  · exact good_of circ6_012340
  · exact good_of circ6_012341
  · exact good_of circ6_012342
  · exact good_of circ6_012343
  · exact good_of circ6_012344
  · exact good_of circ6_012345
theorem circOk_says {n : Nat} {v : List Nat} (h0 : n ≠ 0) (hn6 : n ≤ 6) (hw : isWord (natI v) = true) (hw2 : isWord (rotP (natI v) 1) = true) (hn : v.length = 2 * n) (h : circOkK n (2 * n) v = true) :
    circles (natI v) = (n : Int) + 1 - rankOf (natI v) ∧ rankOf (natI v) % 2 = 0 ∧ circles (rotP (natI v) 1) = circles (natI v) := by
  have hr := rankK_eq v n hn
  have hc := circlesK_eq hw n hn h0
  have hu : (rotK v).length = 2 * n := by rw [← natI_length, ← rotK_eq, rotP_length, natI_length, hn]
  rw [rotK_eq] at hw2 ⊢
  have hc2 := circlesK_eq hw2 n hu h0
  have h' : Bool.rec (motive := fun _ => Bool) false (Bool.rec (motive := fun _ => Bool) false (Nat.beq (circlesK (rotK v) (firstsK (rotK v) n) (secondsK (rotK v) n) n (2 * n)) (circlesK v (firstsK v n) (secondsK v n) n (2 * n))) (Nat.beq (Nat.add (circlesK v (firstsK v n) (secondsK v n) n (2 * n)) (lenK (basisK (rowsK (firstsK v n) (secondsK v n) n) []) 0)) (Nat.add n 1))) (Nat.beq (Nat.mod (lenK (basisK (rowsK (firstsK v n) (secondsK v n) n) []) 0) 2) 0) = true := h
  clear h
  generalize lenK (basisK (rowsK (firstsK v n) (secondsK v n) n) []) 0 = r at *
  generalize circlesK v (firstsK v n) (secondsK v n) n (2 * n) = c at *
  generalize circlesK (rotK v) (firstsK (rotK v) n) (secondsK (rotK v) n) n (2 * n) = d at *
  rcases e1 : Nat.beq (Nat.mod r 2) 0 with _ | _
  · rw [e1] at h'; cases h'
  rcases e2 : Nat.beq (Nat.add c r) (Nat.add n 1) with _ | _
  · rw [e1, e2] at h'; cases h'
  rw [e1, e2] at h'
  have h3 : d = c := Nat.eq_of_beq_eq_true h'
  have h1 : r % 2 = 0 := Nat.eq_of_beq_eq_true e1
  have h2 : c + r = n + 1 := Nat.eq_of_beq_eq_true e2
  rw [hr, ← hc, ← hc2, h3]
  refine ⟨by omega, by omega, rfl⟩
theorem circ_facts {xs : List Int} (h : isWord xs = true) (hrot : isWord (rotP xs 1) = true) :
    circles xs = (xs.length : Int) / 2 + 1 - rankOf xs ∧ rankOf xs % 2 = 0 ∧ circles (rotP xs 1) = circles xs := by
  have h12 := isWord_len h
  have hh := word_half h
  obtain ⟨n, hn⟩ : ∃ n, n = xs.length / 2 := ⟨_, rfl⟩
  have hl : xs.length = 2 * n := by omega
  rw [show (xs.length : Int) / 2 = n by omega]
  by_cases h0 : n = 0
  · subst h0
    have : xs = [] := List.eq_nil_of_length_eq_zero (by omega)
    subst this
    decide +kernel
  have main : ∀ k, n = k → Good (circOkK k (2 * k)) k (2 * k) [] 0 → circles xs = (n : Int) + 1 - rankOf xs ∧ rankOf xs % 2 = 0 ∧ circles (rotP xs 1) = circles xs := by
    intro k hk hg
    subst hk
    obtain ⟨v, e, hv⟩ := hg xs (wordsP_all h n hl)
    subst e
    exact circOk_says h0 (by omega) h hrot (by rw [← natI_length, hl]) hv
  obtain e | e | e | e | e | e : n = 1 ∨ n = 2 ∨ n = 3 ∨ n = 4 ∨ n = 5 ∨ n = 6 := by omega
  · exact main 1 e (good_of circ1)
  · exact main 2 e (good_of circ2)
  · exact main 3 e (good_of circ3)
  · exact main 4 e (good_of circ4)
  · exact main 5 e (good_of circ5)
  · exact main 6 e good6
end Go.Proofs.Ytinfhkcmjmglkaa
