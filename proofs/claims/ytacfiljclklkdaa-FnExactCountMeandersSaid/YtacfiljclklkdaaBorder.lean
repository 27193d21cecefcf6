/- The contracts of both ways to count border circles. -/
import Derived.Test.YtacfiljclklkdaaWrap
import Derived.Test.YtacfiljclklkdaaPure5
import Derived.BigRegion
import Derived.StillTailTactics
import Derived.Deep.LoopGhost
namespace Go.Proofs.Ytacfiljclklkdaa
open Go.RowKit
set_option linter.unusedVariables false
set_option linter.unusedSimpArgs false
set_option maxRecDepth 100000

theorem info_int : (Try.prog.info? 3).map (fun i => (i.zero, i.size, i.bytes)) = some (some (.int .i64 0), 1, 8) := by kernel_rfl
theorem info_bool : (Try.prog.info? 4).map (fun i => (i.zero, i.size, i.bytes)) = some (some (.bool false), 1, 1) := by kernel_rfl
def bools (bs : List Bool) : List Value := bs.map Value.bool
@[simp] theorem bools_length (bs : List Bool) : (bools bs).length = bs.length := by simp [bools]
theorem bools_get? (bs : List Bool) (j : Nat) : (bools bs)[j]? = bs[j]?.map Value.bool := by simp [bools]
theorem bools_set (bs : List Bool) (j : Nat) (b : Bool) : (bools bs).set j (.bool b) = bools (bs.set j b) := by simp [bools, List.map_set]
theorem made_false (m : Nat) : (madeCells (Value.bool false).cells (m * 1)).toList = bools (List.replicate m false) := by
  rw [show (Value.bool false).cells = #[Value.bool false] from rfl, toList_madeCells_one]; simp [bools]


theorem word_places_at {xs : List Int} (h : isWord xs = true) {k : Nat} (hk : k < xs.length) :
    firstAt xs (xs[k]?.getD 0) = (place1 xs (xs[k]?.getD 0) : Int) ∧ lastAt xs (xs[k]?.getD 0) xs.length = (place2 xs (xs[k]?.getD 0) : Int) := by
  have hc := word_count_at h hk
  rw [getD_eq] at hc
  exact ⟨firstAt_mem (List.count_pos_iff.1 (by omega)), lastAt_two hc⟩

theorem nextTo_all {xs : List Int} (h : isWord xs = true) (n k : Nat) (hn : n = xs.length) (hk : k < n) : (nextTo xs n (n / 2))[k]? = some (nxt xs k : Int) := by
  have := nextTo_end h n k hn hk
  rw [List.getElem?_eq_getElem (by simp; exact hk)] at this ⊢
  rw [← this]; rfl

end Go.Proofs.Ytacfiljclklkdaa
