/- NormalWord: the program's and the model's contract. -/
import Derived.Test.YtinfhkcmjmglkaaIsWord
import Derived.Test.YtinfhkcmjmglkaaSeg
namespace Go.Proofs.Ytinfhkcmjmglkaa
open Go.RowKit
set_option linter.unusedVariables false
set_option linter.unusedSimpArgs false
set_option maxRecDepth 100000

def normalWord (xs : List Int) : List Int × Int := if decide (xs.length ≤ 12) && twice xs then (norm xs, 0) else ([], 2)
theorem normalWord_yes {xs : List Int} (h : (decide (xs.length ≤ 12) && twice xs) = true) : normalWord xs = (norm xs, 0) := by unfold normalWord; rw [if_pos h]
theorem normalWord_no {xs : List Int} (h : (decide (xs.length ≤ 12) && twice xs) = false) : normalWord xs = ([], 2) := by unfold normalWord; rw [if_neg (by rw [h]; decide)]
theorem normalWord_len (xs : List Int) (h : xs.length ≤ 1048576) : (normalWord xs).1.length ≤ 1048576 := by
  unfold normalWord; split
  · rw [norm_length]; exact h
  · simp

theorem specNormalWord_any (A : Option Addr) (n c : Nat) (xs : List Int) (w : World) (hr : Rd w A n xs) (hwf : Wf xs) (hn : n ≤ 1048576) (hc : n ≤ c) : Gave 58 #[.slice A n c] w (normalWord xs) := by
  have HR := Lib.hid hr
  have hl := hr.len
  clear hr
  by_cases h12 : n ≤ 12
  · by_cases ht : twice xs = true
    · refine gave_mk (normalWord_yes (by rw [ht, hl]; simp [h12])) ?_
      have HT := Lib.hid ht
      clear ht hl
      have hg : decide (12 < (n : Int)) = false := by simp; omega
      go_enter Try.func58, Try.ntmps58
      go_wp2_with fail
      refine (twice_any _ _ _ xs _ HR.out hn).mono ?_
      rintro e w1 ⟨rfl, hb1⟩
      rw [HT.out]
      go_wp2_with fail
      refine (normal_any _ _ _ xs _ (HR.out.below hb1) hn).mono ?_
      rintro e w2 ⟨v, rfl, ho, hb2⟩
      go_wp2_with fail
      go_ret2
      exact ⟨_, rfl, ho.mono hb1.size, hb1.trans (hb2.mono hb1.size)⟩
    · have ht' : twice xs = false := by simpa using ht
      refine gave_mk (normalWord_no (by rw [ht']; simp)) ?_
      have HT := Lib.hid ht'
      clear ht ht' hl
      have hg : decide (12 < (n : Int)) = false := by simp; omega
      go_enter Try.func58, Try.ntmps58
      go_wp2_with fail
      refine (twice_any _ _ _ xs _ HR.out hn).mono ?_
      rintro e w1 ⟨rfl, hb1⟩
      rw [HT.out]
      go_wp2_with fail
      go_ret2
      exact ⟨_, rfl, Own.nil_ _ _, hb1⟩
  · refine gave_mk (normalWord_no (by rw [hl]; simp [h12])) ?_
    clear hl
    have hg : decide (12 < (n : Int)) = true := by simp; omega
    go_enter Try.func58, Try.ntmps58
    go_wp2_with fail
    go_ret2
    exact ⟨_, rfl, Own.nil_ _ _, Below.refl _ _⟩

theorem implNormalWord_any (A : Option Addr) (n c : Nat) (xs : List Int) (w : World) (hr : Rd w A n xs) (hwf : Wf xs) (hn : n ≤ 1048576) (hc : n ≤ c) : Gave 57 #[.slice A n c] w (normalWord xs) := by
  have HR := Lib.hid hr
  have HW := Lib.hid hwf
  clear hr hwf
  by_cases hp : (decide (xs.length ≤ 12) && twice xs) = true
  · refine gave_mk (normalWord_yes hp) ?_
    have HP := Lib.hid hp
    clear hp
    go_enter Try.func57, Try.ntmps57
    go_wp2_with fail
    refine (isPaired_any _ _ _ xs _ HR.out HW.out hn).mono ?_
    rintro e w1 ⟨rfl, hb1⟩
    rw [HP.out]
    go_wp2_with fail
    refine (normalOf_any _ _ _ xs _ (HR.out.below hb1) HW.out hn).mono ?_
    rintro e w2 ⟨v, rfl, ho, hb2⟩
    go_wp2_with fail
    go_ret2
    exact ⟨_, rfl, ho.mono hb1.size, hb1.trans (hb2.mono hb1.size)⟩
  · have hp' : (decide (xs.length ≤ 12) && twice xs) = false := by simpa using hp
    refine gave_mk (normalWord_no hp') ?_
    have HP := Lib.hid hp'
    clear hp hp'
    go_enter Try.func57, Try.ntmps57
    go_wp2_with fail
    refine (isPaired_any _ _ _ xs _ HR.out HW.out hn).mono ?_
    rintro e w1 ⟨rfl, hb1⟩
    rw [HP.out]
    go_wp2_with fail
    go_ret2
    exact ⟨_, rfl, Own.nil_ _ _, hb1⟩

end Go.Proofs.Ytinfhkcmjmglkaa
