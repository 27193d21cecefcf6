/- Sums handed back: the contract with its frame, the room that they take. -/
import Derived.Test.YtofcldplgkejiaaPure25
import Derived.Test.YtofcldplgkejiaaSumHelp
namespace Go.Proofs.Ytofcldplgkejiaa
open Go.RowKit
set_option linter.unusedVariables false
set_option linter.unusedSimpArgs false

theorem GaveS.segr {F : FuncId} {args : Array Value} {w : World} {r : (Int × Tms) × Int} {p z : Int} {ts : Tms} (h : GaveS F args w r) (e : r = ((p, ts), z)) :
    Calls Try.prog F args w fun e w' => ∃ B m d, e = .returned (.tuple #[.agg #[.int .i64 p, .slice B m d], .int .i64 z]) ∧ SegT w' w.heap.size w'.heap.size (.slice B m d) ts ∧ Fr 0 0 w w' := by
  subst e; exact h.seg
theorem told_need (p : Int) {L : Tms} (h : Tidy L) : need (toldT p L).1.2 ≤ 1048576 := by
  unfold toldT
  split
  · simp [need]
  · have := tidy_need h
    show need L ≤ _
    omega
theorem put_need (p : Int) {l : Tms} (h : Plain l) : need (toldT p (putAll p [] l)).1.2 ≤ 1048576 := told_need p (putAll_tidy p l [] tidy_nil h.words)
theorem zero_need (z : Int) : need ((((0 : Int), ([] : Tms)), z) : (Int × Tms) × Int).1.2 ≤ 1048576 := by simp [need]
theorem sumOfWord_need (p : Int) (xs : List Int) (v : Int) : need (sumOfWord p xs v).1.2 ≤ 1048576 := by
  unfold sumOfWord
  by_cases h : isWord xs = true
  · rw [if_pos h]
    by_cases h2 : (prime p && inB v 0 (p - 1)) = true
    · rw [if_pos h2]
      rw [Bool.and_eq_true] at h2
      have hp := prime_bd h2.1
      have hv : 0 ≤ v ∧ v ≤ p - 1 := by have h3 := h2.2; unfold inB at h3; simpa using h3
      exact put_need p (fun t ht => by rw [List.mem_singleton] at ht; subst ht; exact ⟨h, by show 0 ≤ v; omega, by show v ≤ 1024; omega⟩)
    · rw [if_neg h2]; exact zero_need 2
  · rw [if_neg h]; exact zero_need 1
theorem res_need {p : Int} {ts l : Tms} (h : isSum p ts = true → Plain l) : need (sumRes p ts l).1.2 ≤ 1048576 := by
  unfold sumRes
  by_cases hs : isSum p ts = true
  · rw [if_pos hs]; exact put_need p (h hs)
  · rw [if_neg hs]; exact zero_need 1
theorem circle_need (p : Int) (ts : Tms) : need (sumRes p ts (mapL least ts)).1.2 ≤ 1048576 := res_need fun h => plain_mapL (isSum_plain h) fun w hw => least_word hw
theorem reflect_need (p : Int) (ts : Tms) : need (sumRes p ts (mapL refl ts)).1.2 ≤ 1048576 := res_need fun h => plain_mapL (isSum_plain h) fun w hw => refl_word hw
theorem deriv_need (p : Int) (ts : Tms) : need (sumRes p ts (derL ts)).1.2 ≤ 1048576 := res_need fun h => plain_derL (isSum_plain h)
theorem partOfSum_need (p : Int) (ts : Tms) (k : Int) : need (partOfSum p ts k).1.2 ≤ 1048576 := by
  unfold partOfSum
  by_cases hs : isSum p ts = true
  · rw [if_pos hs]
    split
    · exact put_need p (plain_partL (isSum_plain hs))
    · exact zero_need 2
  · rw [if_neg hs]; exact zero_need 1
theorem rotate_need (p : Int) (ts : Tms) (k : Int) : need (rotateSum p ts k).1.2 ≤ 1048576 := by
  unfold rotateSum
  by_cases hs : isSum p ts = true
  · rw [if_pos hs]
    split
    · exact put_need p (plain_mapL (isSum_plain hs) fun w hw => rotW_word hw)
    · exact zero_need 2
  · rw [if_neg hs]; exact zero_need 1
end Go.Proofs.Ytofcldplgkejiaa
