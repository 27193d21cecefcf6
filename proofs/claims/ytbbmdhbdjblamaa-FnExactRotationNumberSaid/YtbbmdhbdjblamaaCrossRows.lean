/- The contracts of both ways to make the crossing rows. -/
import Derived.Test.YtbbmdhbdjblamaaCross
import Derived.Test.YtbbmdhbdjblamaaRows3
namespace Go.Proofs.Ytbbmdhbdjblamaa
open Go.RowKit
set_option linter.unusedVariables false
set_option linter.unusedSimpArgs false
set_option maxRecDepth 100000

theorem word_places {xs : List Int} (h : isWord xs = true) {i : Nat} (hi : i < xs.length / 2) :
    firstAt xs (i : Int) = (place1 xs (i : Int) : Int) ∧ lastAt xs (i : Int) xs.length = (place2 xs (i : Int) : Int) := by
  have hc := word_count h hi
  exact ⟨firstAt_mem (List.count_pos_iff.1 (by omega)), lastAt_two hc⟩
theorem made_zeros (m : Nat) : (madeCells (Value.int .i64 0).cells (m * 1)).toList = ints (List.replicate m 0) := by
  rw [show (Value.int .i64 0).cells = #[Value.int .i64 0] from rfl, toList_madeCells_one]; simp [ints]

theorem OwnV.inAt {w : World} {lo b m d : Nat} {v : Value} {vs : List Value} {rs : List (List Int)} (h : OwnV w lo v vs rs) (i : Nat) (hv : vAt vs i = .slice (some ⟨b, 0, none⟩) m d) (q : Nat) (hq : q < m) :
    w.frozen? ⟨b, q, none⟩ = false ∧ (∃ u, w.cell? ⟨b, q, none⟩ = some u) ∧ (rAt rs i).length = m := by
  have h0 : w.ownsRow lo 2 1 (vAt vs i) (rAt rs i).length (ints (rAt rs i)) := h.row i
  obtain ⟨A, c, e, _⟩ := h.rowForm i
  rw [hv] at e h0
  injection e with e1 e2 e3
  rw [← e2] at h0
  refine ⟨h0.frozenAt q, ⟨_, by rw [h0.cellAt q (by omega)]; exact List.getElem?_eq_getElem (by simp; omega)⟩, e2.symm⟩
theorem made_rows (m : Nat) : (madeCells (Value.slice none 0 0).cells (m * 1)).toList = List.replicate m (.slice none 0 0) := by
  rw [show (Value.slice none 0 0).cells = #[Value.slice none 0 0] from rfl, toList_madeCells_one]; simp

/-- the first k crossing rows, one row, and nil rows -/
def midRows (xs : List Int) (m k : Nat) (r : List Int) : List (List Int) := (rowsOf xs).take k ++ r :: List.replicate (m - k - 1) []
def topRows (xs : List Int) (m k : Nat) : List (List Int) := (rowsOf xs).take k ++ List.replicate (m - k) []
theorem take_rows_len (xs : List Int) (m k : Nat) (hm : m = xs.length / 2) (hk : k ≤ m) : ((rowsOf xs).take k).length = k := by rw [List.length_take, rowsOf_length]; omega
theorem topRows_length (xs : List Int) (m k : Nat) (hm : m = xs.length / 2) (hk : k ≤ m) : (topRows xs m k).length = m := by
  unfold topRows; rw [List.length_append, take_rows_len xs m k hm hk]; simp; omega
theorem midRows_length (xs : List Int) (m k : Nat) (r : List Int) (hm : m = xs.length / 2) (hk : k < m) : (midRows xs m k r).length = m := by
  unfold midRows; rw [List.length_append, take_rows_len xs m k hm (by omega)]; simp; omega
theorem midRows_at (xs : List Int) (m k : Nat) (r : List Int) (hm : m = xs.length / 2) (hk : k < m) : rAt (midRows xs m k r) k = r := by
  unfold rAt midRows
  rw [List.getElem?_append_right (by rw [take_rows_len xs m k hm (by omega)]; exact Nat.le_refl _), take_rows_len xs m k hm (by omega)]; simp
theorem midRows_set (xs : List Int) (m k : Nat) (r r' : List Int) (hm : m = xs.length / 2) (hk : k < m) : (midRows xs m k r).set k r' = midRows xs m k r' := by
  unfold midRows
  rw [List.set_append_right _ _ (by rw [take_rows_len xs m k hm (by omega)]; exact Nat.le_refl _), take_rows_len xs m k hm (by omega)]; simp
theorem topRows_set (xs : List Int) (m k : Nat) (r : List Int) (hm : m = xs.length / 2) (hk : k < m) : (topRows xs m k).set k r = midRows xs m k r := by
  unfold midRows topRows
  rw [List.set_append_right _ _ (by rw [take_rows_len xs m k hm (by omega)]; exact Nat.le_refl _), take_rows_len xs m k hm (by omega)]
  rw [show m - k = (m - k - 1) + 1 from by omega, List.replicate_succ]; simp
theorem midRows_end (xs : List Int) (m k : Nat) (hm : m = xs.length / 2) (hk : k < m) : midRows xs m k (rowTo xs m k m) = topRows xs m (k + 1) := by
  unfold midRows topRows
  rw [rowsOf_take xs k (by omega)]
  unfold rowOf
  rw [← hm]; simp [show m - k - 1 = m - (k + 1) from by omega]
theorem topRows_end (xs : List Int) (m : Nat) (hm : m = xs.length / 2) : topRows xs m m = rowsOf xs := by
  unfold topRows
  rw [List.take_of_length_le (by rw [rowsOf_length]; omega)]; simp
theorem topRows_zero (xs : List Int) (m : Nat) : topRows xs m 0 = List.replicate m [] := by simp [topRows]

end Go.Proofs.Ytbbmdhbdjblamaa
