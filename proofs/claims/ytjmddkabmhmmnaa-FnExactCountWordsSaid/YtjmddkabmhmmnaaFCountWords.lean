/- CountWords: the program's and the model's contract. -/
import Derived.Test.YtjmddkabmhmmnaaWrap
namespace Go.Proofs.Ytjmddkabmhmmnaa
open Go.RowKit
set_option linter.unusedVariables false
set_option linter.unusedSimpArgs false
set_option maxRecDepth 100000

def oddF : Nat → Int
  | 0 => 1
  | k + 1 => oddF k * (2 * (k : Int) + 1)
theorem oddF_bd (k : Nat) (h : k ≤ 6) : 1 ≤ oddF k ∧ oddF k ≤ 10395 := by
  have : ∀ k, k < 7 → 1 ≤ oddF k ∧ oddF k ≤ 10395 := by decide
  exact this k (by omega)
theorem oddF_pre (k : Nat) (h : 1 ≤ k) : oddF (k - 1) * (2 * (k : Int) - 1) = oddF k := by
  obtain ⟨j, rfl⟩ : ∃ j, k = j + 1 := ⟨k - 1, by omega⟩
  show oddF j * (2 * ((j + 1 : Nat) : Int) - 1) = oddF j * (2 * (j : Int) + 1)
  congr 1; omega
def countWords (k : Int) : Int × Int := if inB k 0 6 then (oddF k.toNat, 0) else (0, 2)
theorem countWords_no {k : Int} (h : inB k 0 6 = false) : countWords k = (0, 2) := by unfold countWords; rw [if_neg (by rw [h]; decide)]
theorem countWords_yes {j : Nat} (h : j ≤ 6) : countWords (j : Int) = (oddF j, 0) := by unfold countWords; rw [if_pos (inB_true.2 (by omega))]; rfl

set_option maxHeartbeats 800000 in
theorem specCountWords_any (k : Int) (w : World) (hi : -9223372036854775808 ≤ k ∧ k ≤ 9223372036854775807) :
    Told 38 #[.int .i64 k] w (.tuple #[.int .i64 (countWords k).1, .int .i64 (countWords k).2]) := by
  rcases hx : inB k 0 6 with _ | _
  · refine told_mk (v' := .tuple #[.int .i64 0, .int .i64 2]) (by rw [countWords_no hx]) ?_
    have HX := Lib.hid hx
    clear hx
    go_enter Try.func38, Try.ntmps38
    go_wp2_with fail
    refine (in_any _ _ _ _).mono ?_
    rintro e w1 ⟨rfl, rfl⟩
    rw [HX.out]
    go_wp2_with fail
    go_ret2
    exact ⟨rfl, Below.refl _ _⟩
  · have hb := inB_true.1 hx
    obtain ⟨j, rfl⟩ := Int.eq_ofNat_of_zero_le hb.1
    have hj : j ≤ 6 := by omega
    refine told_mk (v' := .tuple #[.int .i64 (oddF j), .int .i64 0]) (by rw [countWords_yes hj]) ?_
    have HX := Lib.hid hx
    clear hx hb hi
    go_enter Try.func38, Try.ntmps38
    go_wp2_with fail
    refine (in_any _ _ _ _).mono ?_
    rintro e w1 ⟨rfl, rfl⟩
    rw [HX.out]
    go_wp2_with fail
    go_loop [4, 5] (fun t i => ∃ k : Nat, 1 ≤ k ∧ k ≤ j + 1 ∧ i = .int .i64 k ∧ t = .int .i64 (oddF (k - 1))) (fun _ i => j + 1 - (intOf i).toNat)
    case atStart => exact ⟨1, by omega, by omega, rfl, rfl⟩
    case round =>
      obtain ⟨k, hk1, hk, rfl, rfl⟩ := hrel
      have hbd := oddF_bd (k - 1) (by omega)
      by_cases hlt : k ≤ j
      · have hp := oddF_pre k hk1
        have hbd2 := oddF_bd k (by omega)
        rw [← hp] at hbd2
        have HP := Lib.hid hp
        clear hp
        go_wp2_with fail
        go_round
        case rel => exact ⟨k + 1, by omega, by omega, by go_num, by rw [HP.out]; rfl⟩
        case measure => simp [intOf]; omega
      · obtain rfl : k = j + 1 := by omega
        go_wp2_with fail
        go_ret2
        exact ⟨rfl, Below.refl _ _⟩

set_option maxHeartbeats 800000 in
theorem implCountWords_any (k : Int) (w : World) (hi : -9223372036854775808 ≤ k ∧ k ≤ 9223372036854775807) :
    Told 39 #[.int .i64 k] w (.tuple #[.int .i64 (countWords k).1, .int .i64 (countWords k).2]) := by
  rcases hx : inB k 0 6 with _ | _
  · refine told_mk (v' := .tuple #[.int .i64 0, .int .i64 2]) (by rw [countWords_no hx]) ?_
    have hx := inB_false.1 hx
    by_cases h1 : k < 0
    · go_enter Try.func39, Try.ntmps39
      go_wp2_with fail
      go_ret2
      exact ⟨rfl, Below.refl _ _⟩
    · have h2 : 6 < k := by omega
      go_enter Try.func39, Try.ntmps39
      go_wp2_with fail
      go_ret2
      exact ⟨rfl, Below.refl _ _⟩
  · have hb := inB_true.1 hx
    obtain ⟨j, rfl⟩ := Int.eq_ofNat_of_zero_le hb.1
    have hj : j ≤ 6 := by omega
    refine told_mk (v' := .tuple #[.int .i64 (oddF j), .int .i64 0]) (by rw [countWords_yes hj]) ?_
    have e1 : ¬ ((j : Int) < 0) := by omega
    have e2 : ¬ (6 < (j : Int)) := by omega
    clear hx hb hi
    go_enter Try.func39, Try.ntmps39
    go_wp2_with fail
    go_loop [4, 13] (fun t i => ∃ k : Nat, k ≤ j ∧ i = .int .i64 k ∧ t = .int .i64 (oddF k)) (fun _ i => j - (intOf i).toNat)
    case atStart => exact ⟨0, by omega, rfl, rfl⟩
    case round =>
      obtain ⟨k, hk, rfl, rfl⟩ := hrel
      have hbd := oddF_bd k (by omega)
      by_cases hlt : k < j
      · have hbd2 : 1 ≤ oddF k * (2 * (k : Int) + 1) ∧ oddF k * (2 * (k : Int) + 1) ≤ 10395 := oddF_bd (k + 1) (by omega)
        go_wp2_with fail
        go_round
        case rel => exact ⟨k + 1, by omega, by go_num, rfl⟩
        case measure => simp [intOf]; omega
      · obtain rfl : k = j := by omega
        go_wp2_with fail
        go_ret2
        exact ⟨rfl, Below.refl _ _⟩
end Go.Proofs.Ytjmddkabmhmmnaa
