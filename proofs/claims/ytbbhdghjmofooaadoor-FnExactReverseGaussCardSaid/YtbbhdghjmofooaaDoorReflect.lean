/- The contracts of slices.Clone, slices.Reverse and of both reflections. -/
import Derived.Test.YtbbhdghjmofooaaDoorRotate
import Derived.WalkSpells
import Derived.RegionTactic
import Derived.BigRegion
namespace Go.Proofs.YtbbhdghjmofooaaDoor
open Go.RowKit
set_option linter.unusedVariables false
set_option linter.unusedSimpArgs false
set_option maxRecDepth 100000

def revTo (xs : List Int) (k : Nat) : List Int := (List.range xs.length).map fun j => if j < k ∨ xs.length - k ≤ j then xs.getD (xs.length - 1 - j) 0 else xs.getD j 0
@[simp] theorem revTo_length (xs : List Int) (k : Nat) : (revTo xs k).length = xs.length := by simp [revTo]
theorem revTo_get (xs : List Int) (k j : Nat) (hj : j < xs.length) : (revTo xs k)[j]? = some (if j < k ∨ xs.length - k ≤ j then xs.getD (xs.length - 1 - j) 0 else xs.getD j 0) := by
  simp [revTo, hj]
theorem revTo_zero (xs : List Int) : revTo xs 0 = xs := by
  apply List.ext_getElem?
  intro j
  by_cases hj : j < xs.length
  · rw [revTo_get xs 0 j hj, if_neg (by omega), List.getElem?_eq_getElem hj]; simp [List.getD, List.getElem?_eq_getElem hj]
  · rw [List.getElem?_eq_none (by simp; omega), List.getElem?_eq_none (by omega)]
theorem revTo_end (xs : List Int) (k : Nat) (h : xs.length ≤ 2 * k + 1) : revTo xs k = xs.reverse := by
  apply List.ext_getElem?
  intro j
  by_cases hj : j < xs.length
  · rw [revTo_get xs k j hj, List.getElem?_reverse hj, List.getElem?_eq_getElem (show xs.length - 1 - j < xs.length by omega)]
    congr 1
    split
    · simp [List.getD, List.getElem?_eq_getElem (show xs.length - 1 - j < xs.length by omega)]
    · have e : xs.length - 1 - j = j := by omega
      simp [List.getD, List.getElem?_eq_getElem hj, e]
  · rw [List.getElem?_eq_none (by simp; omega), List.getElem?_eq_none (by simp; omega)]
theorem revTo_step (xs : List Int) (k : Nat) (h : k < xs.length - 1 - k) :
    ((ints (revTo xs k)).set k (.int .i64 (xs.getD (xs.length - 1 - k) 0))).set (xs.length - 1 - k) (.int .i64 (xs.getD k 0)) = ints (revTo xs (k + 1)) := by
  apply List.ext_getElem?
  intro j
  by_cases hj : j < xs.length
  · rw [ints_get?, revTo_get xs (k + 1) j hj]
    by_cases e1 : xs.length - 1 - k = j
    · subst e1
      rw [List.getElem?_set_self (by simp; omega)]
      rw [if_pos (by omega), show xs.length - 1 - (xs.length - 1 - k) = k from by omega]; rfl
    · rw [List.getElem?_set_ne e1]
      by_cases e2 : k = j
      · subst e2
        rw [List.getElem?_set_self (by simp; omega), if_pos (by omega)]; rfl
      · rw [List.getElem?_set_ne e2, ints_get?, revTo_get xs k j hj]
        by_cases h3 : j < k ∨ xs.length - k ≤ j
        · rw [if_pos h3, if_pos (by omega)]
        · rw [if_neg h3, if_neg (by omega)]
  · rw [List.getElem?_eq_none (by simp; omega), List.getElem?_eq_none (by simp; omega)]
theorem revTo_mid (xs : List Int) (k : Nat) (h : k < xs.length - 1 - k) : (revTo xs k)[k]? = some (xs.getD k 0) ∧ (revTo xs k)[xs.length - 1 - k]? = some (xs.getD (xs.length - 1 - k) 0) := by
  rw [revTo_get xs k k (by omega), revTo_get xs k _ (by omega), if_neg (by omega), if_neg (by omega)]
  exact ⟨rfl, rfl⟩


def refl (xs : List Int) : List Int := norm xs.reverse
theorem refl_length (xs : List Int) : (refl xs).length = xs.length := by unfold refl; rw [norm_length]; simp
theorem wf_reverse {xs : List Int} (h : Wf xs) : Wf xs.reverse := fun y hy => h y (by simpa using hy)
set_option maxHeartbeats 800000 in
theorem back_any (A : Option Addr) (n c : Nat) (xs : List Int) (w : World) (hr : Rd w A n xs) (hn : n ≤ 1048576) :
    Calls Tryd.prog 29 #[.slice A n c] w fun e w' => ∃ v, e = .returned v ∧ Own w' w.heap.size v xs.reverse ∧ Below w.heap.size w w' := by
  have HR := Lib.hid hr
  have HL := Lib.hid hr.len
  clear hr
  go_enter Tryd.func29, Tryd.ntmps29
  go_wp2
  go_loopw [3, 4] (fun v i wr => ∃ k : Nat, k ≤ n ∧ i = .int .i64 ((n : Int) - 1 - k) ∧ Own wr w.heap.size v (xs.reverse.take k) ∧ Below w.heap.size w wr) (fun _ i _ => (intOf i + 1).toNat)
  case atStart =>
    refine ⟨0, by omega, by simp, ?_, (Below.refl _ _).alloc (Nat.le_refl _) _⟩
    exact World.ownsRow_lit w #[] 0 (Nat.le_refl _) (by decide) rfl
  case round =>
    obtain ⟨k, hk, rfl, ho, hb⟩ := hrel
    by_cases hlt : k < n
    · obtain ⟨a, rfl, ha, hc⟩ := (HR.out.below hb).at_ (show n - 1 - k < n by omega)
      have hjt : ((n : Int) - 1 - k).toNat = n - 1 - k := by omega
      have hji : (0 : Int) ≤ (n : Int) - 1 - k := by omega
      have hs : xs.reverse.take (k + 1) = xs.reverse.take k ++ [xs[n - 1 - k]?.getD 0] := by
        rw [take_next _ k (by rw [List.length_reverse, HL.out]; exact hlt), List.getElem?_reverse (by rw [HL.out]; exact hlt), HL.out]
      have HS := Lib.hid hs
      have hln : (xs.reverse.take k).length ≤ 1099511627776 := by have := List.length_take_le k xs.reverse; omega
      clear hs
      go_wp2_with (at_builtin; refine push_int wr rfl (.tmp 13) (.tmp 18) rfl w.heap.size _ (xs.reverse.take k) (xs[n - 1 - k]?.getD 0) rfl ho rfl hln hb.size ?_; intro v1 w1 ho1 hg1 hat1)
      go_roundw
      case rel => exact ⟨k + 1, by omega, by first | go_num | (congr 1; omega), by rw [HS.out]; exact ho1, hb.grown hg1 hb.size (fun x hx => (ho.lt x hx).1)⟩
      case measure => simp [intOf]; omega
    · have et : xs.reverse.take k = xs.reverse := List.take_of_length_le (by rw [List.length_reverse, HL.out]; omega)
      rw [et] at ho
      have hneg : (n : Int) - 1 - k < 0 := by omega
      clear et
      go_wp2
      go_ret
      exact ⟨_, rfl, ho, hb⟩
end Go.Proofs.YtbbhdghjmofooaaDoor
