/- The contracts of both ways to find a chord's places. -/
import Derived.Test.YtbbhdghjmofooaaDoorSmall
namespace Go.Proofs.YtbbhdghjmofooaaDoor
open Go.RowKit
set_option linter.unusedVariables false
set_option linter.unusedSimpArgs false
set_option maxRecDepth 100000

/-- a cut of a slice -/
theorem Rd.cut {w : World} {A : Option Addr} {n c k : Nat} {xs : List Int} (h : Rd w A n xs) (hk : k ≤ n) (hc : n ≤ c) : Rd w (if c = k then A else A.map (·.add k)) (n - k) (xs.drop k) := by
  refine ⟨by rw [List.length_drop, h.1], fun hn => ?_⟩
  obtain ⟨a, rfl, hl, hcell⟩ := h.2 (by omega)
  rw [if_neg (by omega)]
  refine ⟨a.add k, rfl, by rw [add_block]; exact hl, fun j hj => ?_⟩
  rw [add_add, hcell (k + j) (by omega)]
  simp [List.getD, List.getElem?_drop]

theorem Rd.take {w : World} {A : Option Addr} {n k : Nat} {xs : List Int} (h : Rd w A n xs) (hk : k ≤ n) : Rd w A k (xs.take k) := by
  have hl := h.1
  refine ⟨by rw [List.length_take]; omega, fun hn => ?_⟩
  obtain ⟨a, rfl, hb, hcell⟩ := h.2 (by omega)
  refine ⟨a, rfl, hb, fun j hj => ?_⟩
  rw [hcell j (by omega)]
  simp [List.getD, List.getElem?_take, hj]
theorem Rd.cut1 {w : World} {A : Option Addr} {n k : Nat} {xs : List Int} (h : Rd w A n xs) (hk : k + 1 ≤ n) : Rd w (A.map (fun x => { block := x.block, off := x.off + (k + 1) })) (n - (k + 1)) (xs.drop (k + 1)) := by
  refine ⟨by rw [List.length_drop, h.1], fun hn => ?_⟩
  obtain ⟨a, rfl, hl, hcell⟩ := h.2 (by omega)
  refine ⟨_, rfl, hl, fun j hj => ?_⟩
  have e : (Addr.add { block := a.block, off := a.off + (k + 1) } j) = a.add (k + 1 + j) := by
    unfold Addr.add
    by_cases hj0 : j = 0 <;> simp [hj0, Nat.add_assoc] <;> omega
  rw [e, hcell (k + 1 + j) (by omega)]
  simp [List.getD, List.getElem?_drop]

end Go.Proofs.YtbbhdghjmofooaaDoor
