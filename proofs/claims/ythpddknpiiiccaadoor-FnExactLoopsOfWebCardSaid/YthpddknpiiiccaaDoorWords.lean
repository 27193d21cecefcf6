/- The contracts of the model's words: l01Same, l01Twice, l01Normal, l01Is. -/
import Derived.Test.YthpddknpiiiccaaDoorHelp
import Derived.Test.YthpddknpiiiccaaDoorPure2
import Derived.Maps.AppendAt
namespace Go.Proofs.YthpddknpiiiccaaDoor
open Go.RowKit
set_option linter.unusedVariables false
set_option linter.unusedSimpArgs false
set_option maxRecDepth 100000

/-- one number appended to a slice of the call's own: the new cell's block is the world's last one -/
theorem push_int {ops : Array Oper} {rest : List Oper} {o : Oper} {a : Act} {Q : Exit → Act → World → Prop} (W : World) (hgd : o.guard = none) (s x : Operand)
    (ho : o.op = .call { callee := .builtin .append, args := #[s, x], argTypes := #[22, 22] })
    (lo : Nat) (v : Value) (xs : List Int) (y : Int) (hs : a.eval s = v) (hown : Own W lo v xs) (hx : a.eval x = .slice (some ⟨W.heap.size, 0, none⟩) 1 1) (hn : xs.length ≤ 1099511627776) (hlo : lo ≤ W.heap.size)
    (h : ∀ v' w', Own w' lo v' (xs ++ [y]) → W.grownBy w' v.ownBlock → (v'.ownBlock = v.ownBlock ∨ v'.ownBlock = some (W.heap.size + 1)) → wpList Tryd.prog ops Q rest (a.put o.dst v') w') :
    wpList Tryd.prog ops Q (o :: rest) a (W.alloc (.cells #[.int .i64 y] 2)) := by
  obtain ⟨i0, hi, hz0, hz1, hz2⟩ := info_parts info_int64
  have h0 : W.ownsRow lo 2 1 v xs.length (ints xs) := hown
  refine wpList_append_own_at _ hgd s x 22 ho lo 2 i0 (.int .i64 0) 1 8 Tryd.underlying22 hi hz0 hz1 hz2 rfl (by decide) v xs.length (ints xs) hs (h0.alloc _)
    ⟨W.heap.size, 0, none⟩ 1 1 [.int .i64 y] hx rfl ?_ ?_ (by unfold maxLen; omega) (by omega) (by simp; omega) ?_
  · intro j u hj
    rcases j with _ | j
    · simp only [List.getElem?_cons_zero, Option.some.injEq] at hj
      subst hj
      rw [add_row, World.cell?_alloc_at _ _ _ _ rfl]; rfl
    · simp at hj
  · intro u hu
    simp only [List.mem_singleton] at hu
    subst hu; rfl
  · intro v' w' h1 h2 _ h4
    refine h v' w' ?_ ⟨h2.os, h2.tape, h2.output, Nat.le_trans (by simp) h2.size, fun i hi hne => (h2.block i (by simp; omega) hne).trans (Below.heap_alloc W _ i hi)⟩ (by simpa using h4)
    unfold Own
    rw [ints_append, List.length_append]
    exact h1

theorem count_step (xs : List Int) (y : Int) (k : Nat) (hk : k < xs.length) :
    (xs.take (k + 1)).count y = (xs.take k).count y + if xs[k]?.getD 0 = y then 1 else 0 := by
  rw [take_next xs k hk, List.count_append, List.count_singleton]
  by_cases h : xs[k]?.getD 0 = y <;> simp [h]

theorem twice_step (xs : List Int) (k : Nat) (hk : k < xs.length) (h : (xs.take k).all (fun x => xs.count x == 2) = true) :
    (xs.count (xs[k]?.getD 0) = 2 → (xs.take (k + 1)).all (fun x => xs.count x == 2) = true) ∧ (xs.count (xs[k]?.getD 0) ≠ 2 → twice xs = false) := by
  refine ⟨fun h2 => ?_, fun h2 => ?_⟩
  · rw [take_next xs k hk, List.all_append, h]; simp [h2]
  · unfold twice
    rw [← Bool.not_eq_true, List.all_eq_true]
    intro hall
    have := hall xs[k] (List.getElem_mem hk)
    rw [List.getElem?_eq_getElem hk] at h2
    simp only [Option.getD_some] at h2
    simp only [beq_iff_eq] at this
    exact h2 this

theorem met_at (xs : List Int) (y : Int) : lastAt (met xs) y (met xs).length = if y ∈ met xs then ((met xs).idxOf y : Int) else -1 := by
  by_cases h : y ∈ met xs
  · rw [if_pos h]; exact lastAt_some _ _ (met_nodup xs) h _ (Nat.le_refl _) (List.idxOf_lt_length_of_mem h)
  · rw [if_neg h]; exact lastAt_none _ _ h _ (Nat.le_refl _)

theorem normal_step (xs : List Int) (k : Nat) (hk : k < xs.length) :
    (xs[k]?.getD 0 ∈ met (xs.take k) → met (xs.take (k + 1)) = met (xs.take k) ∧ norm (xs.take (k + 1)) = norm (xs.take k) ++ [((met (xs.take k)).idxOf (xs[k]?.getD 0) : Int)]) ∧
    (xs[k]?.getD 0 ∉ met (xs.take k) → met (xs.take (k + 1)) = met (xs.take k) ++ [xs[k]?.getD 0] ∧ norm (xs.take (k + 1)) = norm (xs.take k) ++ [((met (xs.take k)).length : Int)]) := by
  rw [take_next xs k hk, met_snoc, norm_snoc]
  exact ⟨fun h => by rw [if_pos h, if_pos h]; exact ⟨rfl, rfl⟩, fun h => by rw [if_neg h, if_neg h]; exact ⟨rfl, rfl⟩⟩

theorem grown_other {w w' : World} {v u : Value} {lo : Nat} {xs : List Int} (ho : Own w lo u xs) (hg : w.grownBy w' v.ownBlock) (hne : ∀ g, u.ownBlock = some g → v.ownBlock ≠ some g) : Own w' lo u xs :=
  ho.kept hg hne
/-- a block that is new, or the one that it was, differs from another slice's -/
theorem apart_push {w : World} {u v v' : Value} {lo : Nat} {ys : List Int} (hu : Own w lo u ys) (hne : ∀ g, u.ownBlock = some g → v.ownBlock ≠ some g) (h : v'.ownBlock = v.ownBlock ∨ v'.ownBlock = some (w.heap.size + 1)) :
    ∀ g, u.ownBlock = some g → v'.ownBlock ≠ some g := by
  intro g hg e
  have hl := hu.lt g hg
  rcases h with h | h
  · exact hne g hg (h ▸ e)
  · rw [h] at e; injection e; omega

end Go.Proofs.YthpddknpiiiccaaDoor
