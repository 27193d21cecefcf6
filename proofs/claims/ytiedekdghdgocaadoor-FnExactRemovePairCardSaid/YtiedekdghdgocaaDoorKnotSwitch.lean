/- A chord of a knot switched. -/
import Derived.Test.YtiedekdghdgocaaDoorKnotMoves
import Derived.Test.YtiedekdghdgocaaDoorMoveDoor
namespace Go.Proofs.YtiedekdghdgocaaDoor
open Go.RowKit
set_option linter.unusedVariables false
set_option linter.unusedSimpArgs false
set_option maxRecDepth 100000

set_option maxHeartbeats 1600000 in
theorem hasChord_any (lo kb : Nat) (L : List Nd) (ars : List Nat) (av : Value) (xs hs ss : List Int) (w : World) (h : KnotW w lo kb L ars av xs hs ss) (i : Int) (hl : ars.length ≤ 1000) :
    Calls Tryd.prog 89 #[ptr kb, .int .i64 i] w fun e w' => e = .returned (.bool (decide (0 ≤ i) && decide (i < (ars.length : Int)))) ∧ w' = w := by
  obtain ⟨A, c, rfl⟩ := row_form h.arr
  have c1 := h.box.cell1
  obtain ⟨n, hn⟩ : ∃ n, n = ars.length := ⟨_, rfl⟩
  rw [← hn] at c1 hl ⊢
  clear h hn
  unfold ptr
  go_enter Tryd.func89, Tryd.ntmps89
  by_cases h0 : 0 ≤ i
  · have b0 : decide (0 ≤ i) = true := decide_eq_true h0
    by_cases h1 : i < (n : Int)
    · have b1 : decide (i < (n : Int)) = true := decide_eq_true h1
      go_wp2
      go_ret
      first | exact ⟨rfl, rfl⟩ | exact ⟨by rw [b0, b1]; rfl, rfl⟩
    · have b1 : decide (i < (n : Int)) = false := decide_eq_false h1
      go_wp2
      go_ret
      first | exact ⟨rfl, rfl⟩ | exact ⟨by rw [b0, b1]; rfl, rfl⟩
  · have b0 : decide (0 ≤ i) = false := decide_eq_false h0
    go_wp2
    go_ret
    first | exact ⟨rfl, rfl⟩ | exact ⟨by rw [b0]; rfl, rfl⟩
end Go.Proofs.YtiedekdghdgocaaDoor
