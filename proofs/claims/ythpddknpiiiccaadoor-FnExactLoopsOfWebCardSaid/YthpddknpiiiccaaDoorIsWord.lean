/- Arrays of numbers compared; the contract of the program's IsWord. -/
import Derived.Test.YthpddknpiiiccaaDoorKey
import Derived.Laws.StructEq
namespace Go.Proofs.YthpddknpiiiccaaDoor
open Go.RowKit
set_option linter.unusedVariables false
set_option linter.unusedSimpArgs false
set_option maxRecDepth 100000

theorem run_part_int {P : Program} (w : World) (e : TypeId) (he : P.underlying e = some (.int .i64)) (xs : List Int) (k : Nat) (hk : k < xs.length) :
    (part e (ints xs).toArray k).run P w = .ok (.int .i64 (xs.getD k 0)) w := by
  have h : (ints xs).toArray[k]? = some (.int .i64 (xs.getD k 0)) := by
    simp [ints_get?, List.getElem?_eq_getElem hk]
  simp [part, isAgg, run_underlying he, h]
theorem eq_loop {P : Program} (w : World) (d : Nat) (e : TypeId) (xs ys : List Int) (he : P.underlying e = some (.int .i64)) :
    ∀ m k, k + m = xs.length → ys.length = xs.length →
    (Sem.run P (forIn (List.range' k m 1) (none, ()) fun i (__s : Option Bool × Unit) => do
              let __do_lift ← part e (ints xs).toArray (i * 1)
              let __do_lift_1 ← part e (ints ys).toArray (i * 1)
              let __do_lift ← Op.equalIn (d + 1) e __do_lift __do_lift_1
              if (!__do_lift) = true then pure (ForInStep.done (some false, ())) else pure (ForInStep.yield (none, ()))) w) =
      .ok (if xs.drop k = ys.drop k then (none, ()) else (some false, ())) w := by
  intro m
  induction m with
  | zero =>
    intro k hk hl
    rw [List.drop_of_length_le (by omega), List.drop_of_length_le (by omega)]
    simp
  | succ m ih =>
    intro k hk hl
    rw [List.range'_succ, List.forIn_cons]
    simp only [Sem.run_bind, Nat.mul_one, run_part_int w e he xs k (by omega), run_part_int w e he ys k (by omega), Result.andThen_ok, run_equalIn_int w d e .i64 .i64 _ _ he]
    rw [List.drop_eq_getElem_cons (show k < xs.length by omega), List.drop_eq_getElem_cons (show k < ys.length by omega)]
    have ex : xs.getD k 0 = xs[k]'(by omega) := by simp [List.getD, List.getElem?_eq_getElem (show k < xs.length by omega)]
    have ey : ys.getD k 0 = ys[k]'(by omega) := by simp [List.getD, List.getElem?_eq_getElem (show k < ys.length by omega)]
    rw [ex, ey]
    by_cases h : xs[k]'(by omega) = ys[k]'(by omega)
    · have hb : (xs[k]'(by omega) == ys[k]'(by omega)) = true := by simpa using h
      have := ih (k + 1) (by omega) hl
      simp only [Nat.mul_one] at this
      rw [hb]
      simp only [Bool.not_true, Bool.false_eq_true, if_false, Sem.run_pure, Result.andThen_ok, this, List.cons.injEq, h, true_and]
    · have hb : (xs[k]'(by omega) == ys[k]'(by omega)) = false := by simpa using h
      have hne : ¬ (xs[k]'(by omega) :: xs.drop (k + 1) = ys[k]'(by omega) :: ys.drop (k + 1)) := by
        intro e2; injection e2 with e2; exact h e2
      rw [hb, if_neg hne]
      simp
theorem run_eq_ints {P : Program} (w : World) (d : Nat) (t e : TypeId) (i : TypeInfo) (len : Nat) (xs ys : List Int) (ht : P.underlying t = some (.array len e)) (he : P.underlying e = some (.int .i64)) (hi : P.info? e = some i) (hs : i.size = 1)
    (hx : xs.length = len) (hy : ys.length = len) : (Op.equalIn (d + 2) t (.agg (ints xs).toArray) (.agg (ints ys).toArray)).run P w = .ok (xs == ys) w := by
  unfold Op.equalIn
  simp only [Sem.run_bind, run_underlying ht, Result.andThen_ok]
  have hsz : (sizeOf e).run P w = .ok 1 w := by simp [sizeOf, typeInfo, hi, hs]
  rw [hsz]
  simp only [Result.andThen_ok]
  have hl := eq_loop (P := P) w d e xs ys he len 0 (by omega) (by omega)
  rw [Std.Legacy.Range.forIn_eq_forIn_range']
  have e1 : [:len].size = len := by simp [Std.Legacy.Range.size]
  rw [e1]
  rw [hl]
  simp only [Result.andThen_ok, List.drop_zero]
  by_cases h : xs = ys
  · simp [h]
  · have hb : (xs == ys) = false := by simpa using h
    simp [h]

theorem key_eq_len (xs ys : List Int) (h : xs.length = ys.length) : (key xs == key ys) = (xs == ys) := by
  by_cases e : xs = ys
  · subst e; simp
  · have h1 : (xs == ys) = false := by simpa using e
    rw [h1, beq_eq_false_iff_ne]
    intro e2
    unfold key at e2
    exact e (List.append_inj_left e2 h)
theorem wf_norm (xs : List Int) (h : xs.length ≤ 1048576) : Wf (norm xs) := by
  intro y hy
  have := norm_lt xs y hy
  have := met_length xs
  omega

end Go.Proofs.YthpddknpiiiccaaDoor
