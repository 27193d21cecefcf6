/- NamedWeb: webs out of literals; both contracts. -/
import Derived.Test.YtdeefgmjlcdpfaaWeb
namespace Go.Proofs.Ytdeefgmjlcdpfaa
open Go.RowKit
set_option linter.unusedVariables false
set_option linter.unusedSimpArgs false
set_option maxRecDepth 100000

/-- blocks laid one behind the other -/
def allocs (w : World) : List Obj → World
  | [] => w
  | x :: xs => allocs (w.alloc x) xs
theorem allocs_below (w : World) (l : List Obj) : Below w.heap.size w (allocs w l) := by
  induction l generalizing w with
  | nil => exact Below.refl _ _
  | cons x l ih => exact (below_alloc w x).trans ((ih (w.alloc x)).mono (below_alloc w x).size)
theorem allocs_get (w : World) (l : List Obj) (i : Nat) (h : i < l.length) : (allocs w l).heap[w.heap.size + i]? = l[i]? := by
  induction l generalizing w i with
  | nil => simp at h
  | cons x l ih =>
    have hs : (w.alloc x).heap.size = w.heap.size + 1 := by simp
    cases i with
    | zero => exact ((allocs_below (w.alloc x) l).block w.heap.size (by rw [hs]; omega)).trans (heap_alloc_new _ _)
    | succ i =>
      have h1 := ih (w.alloc x) i (by simpa using h)
      rw [hs, show w.heap.size + 1 + i = w.heap.size + (i + 1) from by omega] at h1
      exact h1
theorem row_lit {w : World} {lo g n : Nat} {e : TypeId} {xs : List Value} (hg : w.heap[g]? = some (.cells xs.toArray e (0, 0))) (hl : xs.length = n) (hlo : lo ≤ g) (hm : n ≤ 1000) : w.ownsRow lo e 1 (.slice (some ⟨g, 0, none⟩) n n) n xs := by
  refine ⟨by rw [hl, Nat.mul_one], .inr ⟨g, n, xs.toArray, rfl, hlo, hg, Nat.le_refl _, by unfold maxLen; omega, by simp [hl], by simp [← hl]⟩⟩
def rowVal (b : Nat) (rs : List (List Int)) (j : Nat) : Value := .slice (some ⟨b + j, 0, none⟩) (rAt rs j).length (rAt rs j).length
def rowVals (b : Nat) (rs : List (List Int)) : List Value := (List.range rs.length).map (rowVal b rs)
theorem vAt_rowVals (b : Nat) (rs : List (List Int)) (j : Nat) : vAt (rowVals b rs) j = if j < rs.length then rowVal b rs j else nilS := by
  unfold vAt rowVals
  by_cases h : j < rs.length
  · rw [if_pos h]; simp [h]
  · rw [if_neg h, List.getElem?_eq_none (by simp; omega)]; rfl
/-- the blocks of a literal of a web: the result, the legs, the forks, the slice of the forks -/
def litObjs (b : Nat) (xs : List Int) (rs : List (List Int)) : List Obj :=
  .cells #[.slice (some ⟨b + 1, 0, none⟩) xs.length xs.length, .slice (some ⟨b + 2 + rs.length, 0, none⟩) rs.length rs.length] 41 :: .cells (ints xs).toArray 2 ::
    (rs.map (fun r => Obj.cells (ints r).toArray 2) ++ [.cells (rowVals (b + 2) rs).toArray 22])
theorem lit_web (w : World) (xs : List Int) (rs : List (List Int)) (hx : xs.length ≤ 1000) (hr : rs.length ≤ 1000) (hrr : ∀ j, (rAt rs j).length ≤ 1000) :
    OwnW (allocs w (litObjs w.heap.size xs rs)) w.heap.size (.slice (some ⟨w.heap.size + 1, 0, none⟩) xs.length xs.length) (.slice (some ⟨w.heap.size + 2 + rs.length, 0, none⟩) rs.length rs.length) (rowVals (w.heap.size + 2) rs) xs rs := by
  have hlen : (litObjs w.heap.size xs rs).length = rs.length + 3 := by simp [litObjs]
  have h1 := allocs_get w (litObjs w.heap.size xs rs) 1 (by omega)
  have h2 : ∀ j, j < rs.length → (allocs w (litObjs w.heap.size xs rs)).heap[w.heap.size + 2 + j]? = some (.cells (ints (rAt rs j)).toArray 2 (0, 0)) := fun j hj => by
    have h := allocs_get w (litObjs w.heap.size xs rs) (j + 2) (by omega)
    rw [show w.heap.size + (j + 2) = w.heap.size + 2 + j from by omega] at h
    rw [h]
    show (rs.map (fun r => Obj.cells (ints r).toArray 2) ++ [.cells (rowVals (w.heap.size + 2) rs).toArray 22])[j]? = _
    rw [List.getElem?_append_left (by simpa using hj)]
    simp [rAt, hj]
  have h3 : (allocs w (litObjs w.heap.size xs rs)).heap[w.heap.size + 2 + rs.length]? = some (.cells (rowVals (w.heap.size + 2) rs).toArray 22 (0, 0)) := by
    have h := allocs_get w (litObjs w.heap.size xs rs) (rs.length + 2) (by omega)
    rw [show w.heap.size + (rs.length + 2) = w.heap.size + 2 + rs.length from by omega] at h
    rw [h]
    show (rs.map (fun r => Obj.cells (ints r).toArray 2) ++ [.cells (rowVals (w.heap.size + 2) rs).toArray 22])[rs.length]? = _
    rw [List.getElem?_append_right (by simp)]
    simp
  have hvl : (rowVals (w.heap.size + 2) rs).length = rs.length := by simp [rowVals]
  have hb : ∀ j k, (vAt (rowVals (w.heap.size + 2) rs) j).ownBlock = some k → j < rs.length ∧ k = w.heap.size + 2 + j := fun j k hk => by
    rw [vAt_rowVals] at hk
    by_cases h : j < rs.length
    · rw [if_pos h] at hk
      simp [rowVal, Value.ownBlock] at hk
      exact ⟨h, by omega⟩
    · rw [if_neg h, nilS_block] at hk; cases hk
  refine ⟨?_, ⟨hvl, ?_, fun j => ?_, fun i j hij k hi hj => ?_, fun j k hj hk => ?_⟩, fun k hk => ⟨fun h => ?_, fun j hj => ?_⟩⟩
  · exact row_lit h1 (by simp) (by omega) hx
  · rw [hvl]; exact row_lit h3 hvl (by omega) hr
  · rw [vAt_rowVals]
    by_cases h : j < rs.length
    · rw [if_pos h]; exact row_lit (h2 j h) (by simp) (by omega) (hrr j)
    · rw [if_neg h, show rAt rs j = [] from by unfold rAt; rw [List.getElem?_eq_none (by omega)]; rfl]; exact Own.nil_ _ _
  · have := hb i k hi; have := hb j k hj; omega
  · have := hb j k hj; simp [Value.ownBlock] at hk; omega
  · simp [Value.ownBlock] at hk h; omega
  · have := hb j k hj; simp [Value.ownBlock] at hk; omega
theorem lit_box (w : World) (xs : List Int) (rs : List (List Int)) : (allocs w (litObjs w.heap.size xs rs)).heap[w.heap.size]? = some (.cells #[.slice (some ⟨w.heap.size + 1, 0, none⟩) xs.length xs.length, .slice (some ⟨w.heap.size + 2 + rs.length, 0, none⟩) rs.length rs.length] 41 (0, 0)) := by
  have h := allocs_get w (litObjs w.heap.size xs rs) 0 (by simp [litObjs])
  rw [Nat.add_zero] at h
  rw [h]; rfl

def namedWeb (s : ByteArray) : (List Int × List (List Int)) × Int :=
  if (s.toList == [99, 104, 111, 114, 100]) = true then (([0, 0], []), 0) else
  if (s.toList == [102, 111, 114, 107]) = true then (([0, 1, 2], [[0, 1, 2]]), 0) else
  if (s.toList == [114, 105, 110, 103]) = true then (([0, 1], [[0, 2, 3], [1, 3, 2]]), 0) else
  if (s.toList == [98, 114, 105, 100, 103, 101]) = true then (([0, 1, 2, 3], [[0, 1, 4], [4, 2, 3]]), 0) else
  if (s.toList == [119, 104, 101, 101, 108]) = true then (([0, 1, 2], [[0, 3, 5], [1, 4, 3], [2, 5, 4]]), 0) else
  if (s.toList == [99, 111, 109, 98]) = true then (([0, 1, 2, 3, 4], [[0, 1, 5], [5, 2, 6], [6, 3, 4]]), 0) else
  (([], []), 4)
theorem namedWeb_few (s : ByteArray) : FewW (namedWeb s).1.1 (namedWeb s).1.2 := by
  unfold namedWeb
  repeat' split
  all_goals exact ⟨by decide, ⟨by decide, by decide⟩, by decide⟩

set_option maxHeartbeats 16000000 in
theorem implNamedWeb_any (s : ByteArray) (w : World) (hn : s.size ≤ 1048576) : GaveW 24 #[.string s] w (namedWeb s) := by
  obtain ⟨x0, r0, z0, hR⟩ : ∃ x0 r0 z0, namedWeb s = ((x0, r0), z0) := ⟨_, _, _, rfl⟩
  have HRR := Lib.hid hR
  rw [hR]
  clear hR
  unfold GaveW
  go_enter Try.func24, Try.ntmps24
  go_wp2
  · have hk : ((x0, r0), z0) = (([0, 0], []), 0) := by rw [← HRR.out]; simp only [namedWeb, *, if_true, if_false, Bool.false_eq_true]
    simp only [Prod.mk.injEq] at hk
    obtain ⟨⟨rfl, rfl⟩, rfl⟩ := hk
    have hw := lit_web w [0, 0] [] (by decide) (by decide) (fun j => by simp [rAt])
    have e2 : ((w.alloc (.cells #[.slice (some ⟨w.heap.size + 1, 0, none⟩) 2 2, .slice none 0 0] 41)).alloc (.cells #[.int .i64 0, .int .i64 0] 2)).heap[w.heap.size]? = some (.cells #[.slice (some ⟨w.heap.size + 1, 0, none⟩) 2 2, .slice none 0 0] 41 (0, 0)) := (box2_new _ _ _ _).alloc _
    have e3 : ((w.alloc (.cells #[.slice (some ⟨w.heap.size + 1, 0, none⟩) 2 2, .slice none 0 0] 41)).alloc (.cells #[.int .i64 0, .int .i64 0] 2)).heap[w.heap.size + 1]? = some (.cells (ints [0, 0]).toArray 2 (0, 0)) := by
      have h := heap_alloc_new (w.alloc (.cells #[.slice (some ⟨w.heap.size + 1, 0, none⟩) 2 2, .slice none 0 0] 41)) (.cells (ints [0, 0]).toArray 2)
      rw [show (w.alloc (.cells #[.slice (some ⟨w.heap.size + 1, 0, none⟩) 2 2, .slice none 0 0] 41)).heap.size = w.heap.size + 1 from by simp] at h
      exact h
    refine bodyPost_ret (v := .tuple #[.agg #[.slice (some ⟨w.heap.size + 1, 0, none⟩) 2 2, .slice none 0 0], .int .i64 0]) ?_ ?_ ?_
    · exact results_row_tmp Try.results24 _ _ (w.heap.size) _ _ rfl rfl (run_loadVar_row _ _ _ _ _ _ _ e2 Try.underlying41 rfl size_web)
    · rfl
    · exact ⟨_, _, _, rfl, ⟨row_lit e3 (by decide) (by omega) (by decide), OwnV.nil_ _ _, fun k hk => ⟨by simp [Value.ownBlock], fun j => by rw [vAt_nil, nilS_block]; simp⟩⟩, (below_alloc _ _).alloc (by simp) _⟩
  · have hk : ((x0, r0), z0) = (([0, 1, 2], [[0, 1, 2]]), 0) := by rw [← HRR.out]; simp only [namedWeb, *, if_true, if_false, Bool.false_eq_true]
    simp only [Prod.mk.injEq] at hk
    obtain ⟨⟨rfl, rfl⟩, rfl⟩ := hk
    have hw := lit_web w [0, 1, 2] [[0, 1, 2]] (by decide) (by decide) (fun j => by rcases j with _ | _ | _ | j <;> simp [rAt])
    have e2 := lit_box w [0, 1, 2] [[0, 1, 2]]
    have hb := allocs_below w (litObjs w.heap.size [0, 1, 2] [[0, 1, 2]])
    refine bodyPost_ret (v := .tuple #[.agg #[.slice (some ⟨w.heap.size + 1, 0, none⟩) 3 3, .slice (some ⟨w.heap.size + 2 + 1, 0, none⟩) 1 1], .int .i64 0]) ?_ ?_ ?_
    · exact results_row_tmp Try.results24 _ _ (w.heap.size) _ _ rfl rfl (run_loadVar_row _ _ _ _ _ _ _ e2 Try.underlying41 rfl size_web)
    · rfl
    · exact ⟨_, _, _, rfl, hw, hb⟩
  · have hk : ((x0, r0), z0) = (([0, 1], [[0, 2, 3], [1, 3, 2]]), 0) := by rw [← HRR.out]; simp only [namedWeb, *, if_true, if_false, Bool.false_eq_true]
    simp only [Prod.mk.injEq] at hk
    obtain ⟨⟨rfl, rfl⟩, rfl⟩ := hk
    have hw := lit_web w [0, 1] [[0, 2, 3], [1, 3, 2]] (by decide) (by decide) (fun j => by rcases j with _ | _ | _ | j <;> simp [rAt])
    have e2 := lit_box w [0, 1] [[0, 2, 3], [1, 3, 2]]
    have hb := allocs_below w (litObjs w.heap.size [0, 1] [[0, 2, 3], [1, 3, 2]])
    refine bodyPost_ret (v := .tuple #[.agg #[.slice (some ⟨w.heap.size + 1, 0, none⟩) 2 2, .slice (some ⟨w.heap.size + 2 + 2, 0, none⟩) 2 2], .int .i64 0]) ?_ ?_ ?_
    · exact results_row_tmp Try.results24 _ _ (w.heap.size) _ _ rfl rfl (run_loadVar_row _ _ _ _ _ _ _ e2 Try.underlying41 rfl size_web)
    · rfl
    · exact ⟨_, _, _, rfl, hw, hb⟩
  · have hk : ((x0, r0), z0) = (([0, 1, 2, 3], [[0, 1, 4], [4, 2, 3]]), 0) := by rw [← HRR.out]; simp only [namedWeb, *, if_true, if_false, Bool.false_eq_true]
    simp only [Prod.mk.injEq] at hk
    obtain ⟨⟨rfl, rfl⟩, rfl⟩ := hk
    have hw := lit_web w [0, 1, 2, 3] [[0, 1, 4], [4, 2, 3]] (by decide) (by decide) (fun j => by rcases j with _ | _ | _ | j <;> simp [rAt])
    have e2 := lit_box w [0, 1, 2, 3] [[0, 1, 4], [4, 2, 3]]
    have hb := allocs_below w (litObjs w.heap.size [0, 1, 2, 3] [[0, 1, 4], [4, 2, 3]])
    refine bodyPost_ret (v := .tuple #[.agg #[.slice (some ⟨w.heap.size + 1, 0, none⟩) 4 4, .slice (some ⟨w.heap.size + 2 + 2, 0, none⟩) 2 2], .int .i64 0]) ?_ ?_ ?_
    · exact results_row_tmp Try.results24 _ _ (w.heap.size) _ _ rfl rfl (run_loadVar_row _ _ _ _ _ _ _ e2 Try.underlying41 rfl size_web)
    · rfl
    · exact ⟨_, _, _, rfl, hw, hb⟩
  · have hk : ((x0, r0), z0) = (([0, 1, 2], [[0, 3, 5], [1, 4, 3], [2, 5, 4]]), 0) := by rw [← HRR.out]; simp only [namedWeb, *, if_true, if_false, Bool.false_eq_true]
    simp only [Prod.mk.injEq] at hk
    obtain ⟨⟨rfl, rfl⟩, rfl⟩ := hk
    have hw := lit_web w [0, 1, 2] [[0, 3, 5], [1, 4, 3], [2, 5, 4]] (by decide) (by decide) (fun j => by rcases j with _ | _ | _ | j <;> simp [rAt])
    have e2 := lit_box w [0, 1, 2] [[0, 3, 5], [1, 4, 3], [2, 5, 4]]
    have hb := allocs_below w (litObjs w.heap.size [0, 1, 2] [[0, 3, 5], [1, 4, 3], [2, 5, 4]])
    refine bodyPost_ret (v := .tuple #[.agg #[.slice (some ⟨w.heap.size + 1, 0, none⟩) 3 3, .slice (some ⟨w.heap.size + 2 + 3, 0, none⟩) 3 3], .int .i64 0]) ?_ ?_ ?_
    · exact results_row_tmp Try.results24 _ _ (w.heap.size) _ _ rfl rfl (run_loadVar_row _ _ _ _ _ _ _ e2 Try.underlying41 rfl size_web)
    · rfl
    · exact ⟨_, _, _, rfl, hw, hb⟩
  · have hk : ((x0, r0), z0) = (([0, 1, 2, 3, 4], [[0, 1, 5], [5, 2, 6], [6, 3, 4]]), 0) := by rw [← HRR.out]; simp only [namedWeb, *, if_true, if_false, Bool.false_eq_true]
    simp only [Prod.mk.injEq] at hk
    obtain ⟨⟨rfl, rfl⟩, rfl⟩ := hk
    have hw := lit_web w [0, 1, 2, 3, 4] [[0, 1, 5], [5, 2, 6], [6, 3, 4]] (by decide) (by decide) (fun j => by rcases j with _ | _ | _ | j <;> simp [rAt])
    have e2 := lit_box w [0, 1, 2, 3, 4] [[0, 1, 5], [5, 2, 6], [6, 3, 4]]
    have hb := allocs_below w (litObjs w.heap.size [0, 1, 2, 3, 4] [[0, 1, 5], [5, 2, 6], [6, 3, 4]])
    refine bodyPost_ret (v := .tuple #[.agg #[.slice (some ⟨w.heap.size + 1, 0, none⟩) 5 5, .slice (some ⟨w.heap.size + 2 + 3, 0, none⟩) 3 3], .int .i64 0]) ?_ ?_ ?_
    · exact results_row_tmp Try.results24 _ _ (w.heap.size) _ _ rfl rfl (run_loadVar_row _ _ _ _ _ _ _ e2 Try.underlying41 rfl size_web)
    · rfl
    · exact ⟨_, _, _, rfl, hw, hb⟩
  · have hk : ((x0, r0), z0) = (([], []), 4) := by rw [← HRR.out]; simp only [namedWeb, *, if_true, if_false, Bool.false_eq_true]
    simp only [Prod.mk.injEq] at hk
    obtain ⟨⟨rfl, rfl⟩, rfl⟩ := hk
    have e2 : (w.alloc (.cells #[.slice none 0 0, .slice none 0 0] 41)).heap[w.heap.size]? = some (.cells #[.slice none 0 0, .slice none 0 0] 41 (0, 0)) := box2_new _ _ _ _
    refine bodyPost_ret (v := .tuple #[.agg #[.slice none 0 0, .slice none 0 0], .int .i64 4]) ?_ ?_ ?_
    · exact results_row_tmp Try.results24 _ _ (w.heap.size) _ _ rfl rfl (run_loadVar_row _ _ _ _ _ _ _ e2 Try.underlying41 rfl size_web)
    · rfl
    · exact ⟨_, _, _, rfl, OwnW.nil_ _ _, below_alloc _ _⟩
/-- a web, and whether there is one -/
def GaveWB (F : FuncId) (args : Array Value) (w : World) (xs : List Int) (rs : List (List Int)) (b : Bool) : Prop :=
  Calls Try.prog F args w fun e w' => ∃ u v vs, e = .returned (.tuple #[.agg #[u, v], .bool b]) ∧ OwnW w' w.heap.size u v vs xs rs ∧ Below w.heap.size w w'
set_option maxHeartbeats 16000000 in
theorem named_any (s : ByteArray) (w : World) (hn : s.size ≤ 1048576) (x0 : List Int) (r0 : List (List Int)) (z0 : Int) (hR : namedWeb s = ((x0, r0), z0)) : GaveWB 61 #[.string s] w x0 r0 (z0 == 0) := by
  have HRR := Lib.hid hR
  clear hR
  unfold GaveWB
  go_enter Try.func61, Try.ntmps61
  go_wp2
  · have hk : ((x0, r0), z0) = (([0, 0], []), 0) := by rw [← HRR.out]; simp only [namedWeb, *, if_true, if_false, Bool.false_eq_true]
    simp only [Prod.mk.injEq] at hk
    obtain ⟨⟨rfl, rfl⟩, rfl⟩ := hk
    have hw := lit_web w [0, 0] [] (by decide) (by decide) (fun j => by rcases j with _ | _ | _ | j <;> simp [rAt])
    have e2 := lit_box w [0, 0] []
    have hb := allocs_below w (litObjs w.heap.size [0, 0] [])
    refine bodyPost_ret (v := .tuple #[.agg #[.slice (some ⟨w.heap.size + 1, 0, none⟩) 2 2, .slice (some ⟨w.heap.size + 2 + 0, 0, none⟩) 0 0], .bool true]) ?_ ?_ ?_
    · exact results_row_tmp Try.results61 _ _ (w.heap.size) _ _ rfl rfl (run_loadVar_row _ _ _ _ _ _ _ e2 Try.underlying41 rfl size_web)
    · rfl
    · exact ⟨_, _, _, rfl, hw, hb⟩
  · have hk : ((x0, r0), z0) = (([0, 1, 2], [[0, 1, 2]]), 0) := by rw [← HRR.out]; simp only [namedWeb, *, if_true, if_false, Bool.false_eq_true]
    simp only [Prod.mk.injEq] at hk
    obtain ⟨⟨rfl, rfl⟩, rfl⟩ := hk
    have hw := lit_web w [0, 1, 2] [[0, 1, 2]] (by decide) (by decide) (fun j => by rcases j with _ | _ | _ | j <;> simp [rAt])
    have e2 := lit_box w [0, 1, 2] [[0, 1, 2]]
    have hb := allocs_below w (litObjs w.heap.size [0, 1, 2] [[0, 1, 2]])
    refine bodyPost_ret (v := .tuple #[.agg #[.slice (some ⟨w.heap.size + 1, 0, none⟩) 3 3, .slice (some ⟨w.heap.size + 2 + 1, 0, none⟩) 1 1], .bool true]) ?_ ?_ ?_
    · exact results_row_tmp Try.results61 _ _ (w.heap.size) _ _ rfl rfl (run_loadVar_row _ _ _ _ _ _ _ e2 Try.underlying41 rfl size_web)
    · rfl
    · exact ⟨_, _, _, rfl, hw, hb⟩
  · have hk : ((x0, r0), z0) = (([0, 1], [[0, 2, 3], [1, 3, 2]]), 0) := by rw [← HRR.out]; simp only [namedWeb, *, if_true, if_false, Bool.false_eq_true]
    simp only [Prod.mk.injEq] at hk
    obtain ⟨⟨rfl, rfl⟩, rfl⟩ := hk
    have hw := lit_web w [0, 1] [[0, 2, 3], [1, 3, 2]] (by decide) (by decide) (fun j => by rcases j with _ | _ | _ | j <;> simp [rAt])
    have e2 := lit_box w [0, 1] [[0, 2, 3], [1, 3, 2]]
    have hb := allocs_below w (litObjs w.heap.size [0, 1] [[0, 2, 3], [1, 3, 2]])
    refine bodyPost_ret (v := .tuple #[.agg #[.slice (some ⟨w.heap.size + 1, 0, none⟩) 2 2, .slice (some ⟨w.heap.size + 2 + 2, 0, none⟩) 2 2], .bool true]) ?_ ?_ ?_
    · exact results_row_tmp Try.results61 _ _ (w.heap.size) _ _ rfl rfl (run_loadVar_row _ _ _ _ _ _ _ e2 Try.underlying41 rfl size_web)
    · rfl
    · exact ⟨_, _, _, rfl, hw, hb⟩
  · have hk : ((x0, r0), z0) = (([0, 1, 2, 3], [[0, 1, 4], [4, 2, 3]]), 0) := by rw [← HRR.out]; simp only [namedWeb, *, if_true, if_false, Bool.false_eq_true]
    simp only [Prod.mk.injEq] at hk
    obtain ⟨⟨rfl, rfl⟩, rfl⟩ := hk
    have hw := lit_web w [0, 1, 2, 3] [[0, 1, 4], [4, 2, 3]] (by decide) (by decide) (fun j => by rcases j with _ | _ | _ | j <;> simp [rAt])
    have e2 := lit_box w [0, 1, 2, 3] [[0, 1, 4], [4, 2, 3]]
    have hb := allocs_below w (litObjs w.heap.size [0, 1, 2, 3] [[0, 1, 4], [4, 2, 3]])
    refine bodyPost_ret (v := .tuple #[.agg #[.slice (some ⟨w.heap.size + 1, 0, none⟩) 4 4, .slice (some ⟨w.heap.size + 2 + 2, 0, none⟩) 2 2], .bool true]) ?_ ?_ ?_
    · exact results_row_tmp Try.results61 _ _ (w.heap.size) _ _ rfl rfl (run_loadVar_row _ _ _ _ _ _ _ e2 Try.underlying41 rfl size_web)
    · rfl
    · exact ⟨_, _, _, rfl, hw, hb⟩
  · have hk : ((x0, r0), z0) = (([0, 1, 2], [[0, 3, 5], [1, 4, 3], [2, 5, 4]]), 0) := by rw [← HRR.out]; simp only [namedWeb, *, if_true, if_false, Bool.false_eq_true]
    simp only [Prod.mk.injEq] at hk
    obtain ⟨⟨rfl, rfl⟩, rfl⟩ := hk
    have hw := lit_web w [0, 1, 2] [[0, 3, 5], [1, 4, 3], [2, 5, 4]] (by decide) (by decide) (fun j => by rcases j with _ | _ | _ | j <;> simp [rAt])
    have e2 := lit_box w [0, 1, 2] [[0, 3, 5], [1, 4, 3], [2, 5, 4]]
    have hb := allocs_below w (litObjs w.heap.size [0, 1, 2] [[0, 3, 5], [1, 4, 3], [2, 5, 4]])
    refine bodyPost_ret (v := .tuple #[.agg #[.slice (some ⟨w.heap.size + 1, 0, none⟩) 3 3, .slice (some ⟨w.heap.size + 2 + 3, 0, none⟩) 3 3], .bool true]) ?_ ?_ ?_
    · exact results_row_tmp Try.results61 _ _ (w.heap.size) _ _ rfl rfl (run_loadVar_row _ _ _ _ _ _ _ e2 Try.underlying41 rfl size_web)
    · rfl
    · exact ⟨_, _, _, rfl, hw, hb⟩
  · have hk : ((x0, r0), z0) = (([0, 1, 2, 3, 4], [[0, 1, 5], [5, 2, 6], [6, 3, 4]]), 0) := by rw [← HRR.out]; simp only [namedWeb, *, if_true, if_false, Bool.false_eq_true]
    simp only [Prod.mk.injEq] at hk
    obtain ⟨⟨rfl, rfl⟩, rfl⟩ := hk
    have hw := lit_web w [0, 1, 2, 3, 4] [[0, 1, 5], [5, 2, 6], [6, 3, 4]] (by decide) (by decide) (fun j => by rcases j with _ | _ | _ | j <;> simp [rAt])
    have e2 := lit_box w [0, 1, 2, 3, 4] [[0, 1, 5], [5, 2, 6], [6, 3, 4]]
    have hb := allocs_below w (litObjs w.heap.size [0, 1, 2, 3, 4] [[0, 1, 5], [5, 2, 6], [6, 3, 4]])
    refine bodyPost_ret (v := .tuple #[.agg #[.slice (some ⟨w.heap.size + 1, 0, none⟩) 5 5, .slice (some ⟨w.heap.size + 2 + 3, 0, none⟩) 3 3], .bool true]) ?_ ?_ ?_
    · exact results_row_tmp Try.results61 _ _ (w.heap.size) _ _ rfl rfl (run_loadVar_row _ _ _ _ _ _ _ e2 Try.underlying41 rfl size_web)
    · rfl
    · exact ⟨_, _, _, rfl, hw, hb⟩
  · have hk : ((x0, r0), z0) = (([], []), 4) := by rw [← HRR.out]; simp only [namedWeb, *, if_true, if_false, Bool.false_eq_true]
    simp only [Prod.mk.injEq] at hk
    obtain ⟨⟨rfl, rfl⟩, rfl⟩ := hk
    have e2 : (w.alloc (.cells #[.slice none 0 0, .slice none 0 0] 41)).heap[w.heap.size]? = some (.cells #[.slice none 0 0, .slice none 0 0] 41 (0, 0)) := box2_new _ _ _ _
    refine bodyPost_ret (v := .tuple #[.agg #[.slice none 0 0, .slice none 0 0], .bool false]) ?_ ?_ ?_
    · exact results_row_tmp Try.results61 _ _ (w.heap.size) _ _ rfl rfl (run_loadVar_row _ _ _ _ _ _ _ e2 Try.underlying41 rfl size_web)
    · rfl
    · exact ⟨_, _, _, rfl, OwnW.nil_ _ _, below_alloc _ _⟩
theorem named_z (s : ByteArray) : (namedWeb s).2 = 0 ∨ namedWeb s = (([], []), 4) := by
  unfold namedWeb
  repeat' split
  all_goals first | exact .inl rfl | exact .inr rfl
set_option maxHeartbeats 1600000 in
theorem specNamedWeb_any (s : ByteArray) (w : World) (hn : s.size ≤ 1048576) : GaveW 23 #[.string s] w (namedWeb s) := by
  obtain ⟨x0, r0, z0, hR⟩ : ∃ x0 r0 z0, namedWeb s = ((x0, r0), z0) := ⟨_, _, _, rfl⟩
  have hz := named_z s
  have hN := named_any s (w.alloc (.cells #[.slice none 0 0, .slice none 0 0] 41)) hn x0 r0 z0 hR
  rw [hR] at hz ⊢
  unfold GaveWB at hN
  have HN := Lib.hid hN
  obtain ⟨W, hW⟩ : ∃ W, W = w.alloc (.cells #[.slice none 0 0, .slice none 0 0] 41) := ⟨_, rfl⟩
  have hBW : Below w.heap.size w W := by rw [hW]; exact below_alloc _ _
  have hsW : W.heap.size = w.heap.size + 1 := by rw [hW]; simp
  have g1 : Box2 W w.heap.size 41 (.slice none 0 0) (.slice none 0 0) := by rw [hW]; exact box2_new _ _ _ _
  have HG := Lib.hid g1
  have HB := Lib.hid hBW
  have HS := Lib.hid hsW
  rw [← hW] at HN
  have HW := Lib.hid hW
  clear hN hBW hsW g1 hR hW
  rcases hz with hz | hz
  · have hz0 : z0 = 0 := hz
    subst hz0
    clear hz
    unfold GaveW
    go_enter Try.func23, Try.ntmps23
    go_wp2_with fail
    rw [← HW.out]
    refine HN.out.mono ?_
    rintro e w1 ⟨u, v, vs, rfl, ho, hb⟩
    obtain ⟨Bu, mu, du, rfl, _⟩ := ho.legs.form'
    obtain ⟨Bv, dv, rfl, _⟩ := ho.forks.form
    obtain ⟨mv, hmv⟩ : ∃ x, x = r0.length := ⟨_, rfl⟩
    rw [← hmv] at ho ⊢
    clear hmv
    have HG1 := Lib.hid ((HG.out.below hb (by rw [HS.out]; omega)).alloc (.cells #[.slice Bu mu du, .slice Bv mv dv] 41))
    have HX := Lib.hid (box2_new w1 41 (.slice Bu mu du) (.slice Bv mv dv))
    have hb1 := HB.out.trans (hb.mono HB.out.size)
    have HB1 := Lib.hid (hb1.alloc hb1.size (.cells #[.slice Bu mu du, .slice Bv mv dv] 41))
    have HO := Lib.hid (ho.below (below_alloc w1 (.cells #[.slice Bu mu du, .slice Bv mv dv] 41)))
    have hs9 := HS.out
    clear hb hb1 ho
    have d0 := HG1.out.cell0
    have d1 := HG1.out.cell1
    have f0 := HG1.out.free 0
    have f1 := HG1.out.free 1
    have q0 := HX.out.cell0
    have q1 := HX.out.cell1
    go_wp2_with fail
    have e2 := (HG1.out.set0 (.slice Bu mu du)).set1 (.slice Bv mv dv)
    refine bodyPost_ret (v := .tuple #[.agg #[.slice Bu mu du, .slice Bv mv dv], .int .i64 0]) ?_ ?_ ?_
    · exact results_row_tmp Try.results23 _ _ (w.heap.size) _ _ rfl rfl (run_loadVar_row _ _ _ _ _ _ _ e2 Try.underlying41 rfl size_web)
    · rfl
    · exact ⟨_, _, vs, rfl, ((HO.out.set_other ⟨w.heap.size, 0, none⟩ (.slice Bu mu du) (by show w.heap.size < _; omega)).set_other ⟨w.heap.size, 1, none⟩ (.slice Bv mv dv) (by show w.heap.size < _; omega)).mono (by omega), ((HB1.out.setCell (by show w.heap.size ≤ w.heap.size; omega) _).setCell (by show w.heap.size ≤ w.heap.size; omega) _)⟩
  · simp only [Prod.mk.injEq] at hz
    obtain ⟨⟨rfl, rfl⟩, rfl⟩ := hz
    unfold GaveW
    go_enter Try.func23, Try.ntmps23
    go_wp2_with fail
    rw [← HW.out]
    refine HN.out.mono ?_
    rintro e w1 ⟨u, v, vs, rfl, ho, hb⟩
    obtain ⟨Bu, mu, du, rfl, _⟩ := ho.legs.form'
    obtain ⟨Bv, dv, rfl, _⟩ := ho.forks.form
    obtain ⟨mv, hmv⟩ : ∃ x, x = ([] : List (List Int)).length := ⟨_, rfl⟩
    rw [← hmv] at ho ⊢
    clear hmv
    have HG1 := Lib.hid ((HG.out.below hb (by rw [HS.out]; omega)).alloc (.cells #[.slice Bu mu du, .slice Bv mv dv] 41))
    have hb1 := HB.out.trans (hb.mono HB.out.size)
    have HB1 := Lib.hid (hb1.alloc hb1.size (.cells #[.slice Bu mu du, .slice Bv mv dv] 41))
    clear hb hb1 ho
    have d0 := HG1.out.cell0
    have d1 := HG1.out.cell1
    have f0 := HG1.out.free 0
    have f1 := HG1.out.free 1
    go_wp2_with fail
    have e2 := (HG1.out.set0 (.slice none 0 0)).set1 (.slice none 0 0)
    refine bodyPost_ret (v := .tuple #[.agg #[.slice none 0 0, .slice none 0 0], .int .i64 4]) ?_ ?_ ?_
    · exact results_row_tmp Try.results23 _ _ (w.heap.size) _ _ rfl rfl (run_loadVar_row _ _ _ _ _ _ _ e2 Try.underlying41 rfl size_web)
    · rfl
    · exact ⟨_, _, _, rfl, OwnW.nil_ _ _, ((HB1.out.setCell (by show w.heap.size ≤ w.heap.size; omega) _).setCell (by show w.heap.size ≤ w.heap.size; omega) _)⟩
end Go.Proofs.Ytdeefgmjlcdpfaa
