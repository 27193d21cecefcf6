/- slices.Sort of at most twelve numbers of the call's own: in place, ascending. -/
import Derived.Test.YtmndkkhaagjjmaaWrap
import Derived.WalkSpells
import Derived.RegionTactic
import Derived.BigRegion
import Derived.BigQuiet
import Derived.Sort.LotA
namespace Go.Proofs.Ytmndkkhaagjjmaa
open Go.RowKit
set_option linter.unusedVariables false
set_option linter.unusedSimpArgs false
set_option maxRecDepth 100000

theorem ins_go (a j : Nat) (d : Array Int) (hj : a < j) (hl : Sort.ltInt d[j]! d[j - 1]! = true) : Sort.insInner Sort.ltInt a j d = Sort.insInner Sort.ltInt a (j - 1) (Sort.swp d j (j - 1)) := by
  obtain ⟨k, rfl⟩ : ∃ k, j = k + 1 := ⟨j - 1, by omega⟩
  rw [Sort.insInner]
  simp only [Nat.add_sub_cancel] at hl ⊢
  simp [hj, hl]
theorem ins_stop (a j : Nat) (d : Array Int) (h : j ≤ a ∨ Sort.ltInt d[j]! d[j - 1]! = false) : Sort.insInner Sort.ltInt a j d = d := by
  cases j with
  | zero => rw [Sort.insInner]
  | succ k =>
    rw [Sort.insInner]
    simp only [Nat.add_sub_cancel] at h
    rcases h with h | h
    · simp [show ¬ k + 1 > a by omega]
    · simp [h]
theorem insOut_go (a b i : Nat) (d : Array Int) (h : i < b) : Sort.insOuter Sort.ltInt a b i d = Sort.insOuter Sort.ltInt a b (i + 1) (Sort.insInner Sort.ltInt a i d) := by rw [Sort.insOuter, if_pos h]
theorem insOut_stop (a b i : Nat) (d : Array Int) (h : ¬ i < b) : Sort.insOuter Sort.ltInt a b i d = d := by rw [Sort.insOuter, if_neg h]
theorem swp_ints (d : Array Int) (i j : Nat) (G : Nat → Int) (hG : ∀ t, G t = d[t]!) : ((ints d.toList).set i (.int .i64 (G j))).set j (.int .i64 (G i)) = ints (Sort.swp d i j).toList := by
  rw [hG, hG, ints_set, ints_set]
  unfold Sort.swp
  simp
def sortedOf (xs : List Int) : List Int := (Sort.insertionSort Sort.ltInt xs.toArray 0 xs.length).toList
theorem sortedOf_is (xs : List Int) : (sortedOf xs).Perm xs ∧ (sortedOf xs).Pairwise (· ≤ ·) := by
  obtain ⟨⟨h1, _, h2⟩, h3⟩ := Sort.insertionSort_holds (lt := Sort.ltInt) Sort.swo_ltInt xs.toArray 0 xs.length (Nat.zero_le _) (by simp)
  have hsz : (sortedOf xs).length = xs.length := by unfold sortedOf; simpa using h1
  constructor
  · rw [show xs.length = (Sort.insertionSort Sort.ltInt xs.toArray 0 xs.length).size from by simpa using h1.symm] at h2
    have e1 : ((Sort.insertionSort Sort.ltInt xs.toArray 0 xs.length).extract 0 xs.length).toList = sortedOf xs := by
      rw [Array.toList_extract]; unfold sortedOf; simp [List.take_of_length_le (Nat.le_of_eq (show (Sort.insertionSort Sort.ltInt xs.toArray 0 xs.length).toList.length = xs.length by simpa using h1))]
    have e2 : (xs.toArray.extract 0 xs.length).toList = xs := by simp
    have h2' := (Sort.insertionSort_holds (lt := Sort.ltInt) Sort.swo_ltInt xs.toArray 0 xs.length (Nat.zero_le _) (by simp)).1.2.2
    rw [e1, e2] at h2'
    exact h2'
  · rw [List.pairwise_iff_getElem]
    intro i j hi hj hij
    have := h3 i j (Nat.zero_le _) hij (by rw [← hsz]; exact hj)
    have hz : (Sort.insertionSort Sort.ltInt xs.toArray 0 xs.length).size = xs.length := by simpa using h1
    rw [getElem!_pos _ _ (by rw [hz, ← hsz]; exact hj), getElem!_pos _ _ (by rw [hz, ← hsz]; exact hi)] at this
    simp only [Sort.ltInt, decide_eq_false_iff_not] at this
    simp only [sortedOf, Array.getElem_toList]
    omega

end Go.Proofs.Ytmndkkhaagjjmaa
