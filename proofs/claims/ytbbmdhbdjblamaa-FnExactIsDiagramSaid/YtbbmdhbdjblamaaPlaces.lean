/- The contracts of both ways to find a chord's places. -/
import Derived.Test.YtbbmdhbdjblamaaSmall
namespace Go.Proofs.Ytbbmdhbdjblamaa
open Go.RowKit
set_option linter.unusedVariables false
set_option linter.unusedSimpArgs false
set_option maxRecDepth 100000

/-- a cut of a slice -/
theorem Rd.cut {w : World} {A : Option Addr} {n c k : Nat} {xs : List Int} (h : Rd w A n xs) (hk : k ≤ n) (hc : n ≤ c) : Rd w (if c = k then A else A.map (·.add k)) (n - k) (xs.drop k) := by
  refine ⟨by rw [List.length_drop, h.1], fun hn => ?_⟩
  obtain ⟨a, rfl, hl, hcell⟩ := h.2 (by omega)
  rw [if_neg (by omega)]
  refine ⟨a.add k, rfl, by rw [add_block]; exact hl, fun j hj => ?_⟩
  rw [add_add, hcell (k + j) (by omega)]
  simp [List.getD, List.getElem?_drop]

theorem Rd.take {w : World} {A : Option Addr} {n k : Nat} {xs : List Int} (h : Rd w A n xs) (hk : k ≤ n) : Rd w A k (xs.take k) := by
  have hl := h.1
  refine ⟨by rw [List.length_take]; omega, fun hn => ?_⟩
  obtain ⟨a, rfl, hb, hcell⟩ := h.2 (by omega)
  refine ⟨a, rfl, hb, fun j hj => ?_⟩
  rw [hcell j (by omega)]
  simp [List.getD, List.getElem?_take, hj]
theorem Rd.cut1 {w : World} {A : Option Addr} {n k : Nat} {xs : List Int} (h : Rd w A n xs) (hk : k + 1 ≤ n) : Rd w (A.map (fun x => { block := x.block, off := x.off + (k + 1) })) (n - (k + 1)) (xs.drop (k + 1)) := by
  refine ⟨by rw [List.length_drop, h.1], fun hn => ?_⟩
  obtain ⟨a, rfl, hl, hcell⟩ := h.2 (by omega)
  refine ⟨_, rfl, hl, fun j hj => ?_⟩
  have e : (Addr.add { block := a.block, off := a.off + (k + 1) } j) = a.add (k + 1 + j) := by
    unfold Addr.add
    by_cases hj0 : j = 0 <;> simp [hj0, Nat.add_assoc] <;> omega
  rw [e, hcell (k + 1 + j) (by omega)]
  simp [List.getD, List.getElem?_drop]

theorem firstTo_step (l : List Int) (y : Int) (k : Nat) (hk : k < l.length) :
    (l[k]?.getD 0 ≠ y → firstAt (l.take (k + 1)) y = firstAt (l.take k) y ∧ lastAt l y (k + 1) = lastAt l y k) ∧
    (l[k]?.getD 0 = y → firstAt (l.take k) y < 0 → firstAt (l.take (k + 1)) y = k ∧ lastAt l y (k + 1) = k) ∧
    (l[k]?.getD 0 = y → ¬ firstAt (l.take k) y < 0 → firstAt (l.take (k + 1)) y = firstAt (l.take k) y ∧ lastAt l y (k + 1) = k) := by
  rw [take_next l k hk]
  have hlen : (l.take k).length = k := by rw [List.length_take]; omega
  refine ⟨fun h => ⟨?_, by rw [lastAt, if_neg h]⟩, fun h h2 => ⟨?_, by rw [lastAt, if_pos h]⟩, fun h h2 => ⟨?_, by rw [lastAt, if_pos h]⟩⟩
  · unfold firstAt
    have hne : ¬ y = l[k]?.getD 0 := fun e => h e.symm
    simp only [List.mem_append, List.mem_singleton, hne, or_false]
    split
    · rename_i hm; rw [List.idxOf_append, if_pos hm]
    · rfl
  · have hm : y ∉ l.take k := by
      intro hm; rw [firstAt_mem hm] at h2; omega
    rw [firstAt_mem (by simp [h]), List.idxOf_append, if_neg hm, h]
    simp [hlen]
  · have hm : y ∈ l.take k := by
      rcases Classical.em (y ∈ l.take k) with hm | hm
      · exact hm
      · exact absurd (by unfold firstAt; rw [if_neg hm]; decide) h2
    rw [firstAt_mem hm, firstAt_mem (List.mem_append_left _ hm), List.idxOf_append, if_pos hm]

end Go.Proofs.Ytbbmdhbdjblamaa
