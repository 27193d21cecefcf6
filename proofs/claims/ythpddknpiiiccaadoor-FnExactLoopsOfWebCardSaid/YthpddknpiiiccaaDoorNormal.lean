/- The contract of the program's normalOf. -/
import Derived.Test.YthpddknpiiiccaaDoorPaired
namespace Go.Proofs.YthpddknpiiiccaaDoor
open Go.RowKit Go.Maps
set_option linter.unusedVariables false
set_option linter.unusedSimpArgs false
set_option maxRecDepth 100000

/-- block b is a map of the call's own: number x stands in it where it stands in l -/
def Numbers (w : World) (b n : Nat) (l : List Int) : Prop :=
  ∃ D : DataW Unit, w.ownsMap Tryd.prog 2 (plainElem Tryd.prog 2) b n D ∧ (∀ x, Maps.has D (.int .i64 x) = decide (x ∈ l)) ∧ Maps.size D = l.length ∧
    ∀ x, x ∈ l → D.atKey (.int .i64 x) (.lit (.int .i64 0)) = .lit (.int .i64 (l.idxOf x : Nat))

theorem numbers_made (w : World) : Numbers (w.alloc (.map #[] 0)) w.heap.size 0 [] :=
  ⟨.map [], World.ownsMap_made _ _ _ _, fun x => by simp [Maps.has], rfl, fun x h => by cases h⟩
theorem Numbers.kept {w w' : World} {b n : Nat} {l : List Int} {row : Option Nat} (h : Numbers w b n l) (hg : w.grownBy w' row) (hne : some b ≠ row) : Numbers w' b n l := by
  obtain ⟨D, h1, h2⟩ := h
  exact ⟨D, h1.kept hg hne, h2⟩
theorem numbers_put {w w' : World} {b n : Nat} {l : List Int} {D : DataW Unit} {x : Int} (h1 : w.ownsMap Tryd.prog 2 (plainElem Tryd.prog 2) b n D) (h2 : ∀ x, Maps.has D (.int .i64 x) = decide (x ∈ l)) (h3 : Maps.size D = l.length)
    (h4 : ∀ x, x ∈ l → D.atKey (.int .i64 x) (.lit (.int .i64 0)) = .lit (.int .i64 (l.idxOf x : Nat))) (hx : x ∉ l)
    (h : w'.ownsMap Tryd.prog 2 (plainElem Tryd.prog 2) b (n + 1) (D.put (.int .i64 x) (.lit (.int .i64 (l.length : Nat))))) : Numbers w' b (n + 1) (l ++ [x]) := by
  refine ⟨_, h, fun y => ?_, ?_, fun y hy => ?_⟩
  · by_cases e : y = x
    · subst e
      rw [has_put_same h1.isMap (isKey _)]; simp
    · rw [has_put_other (lit_ne e), h2]; simp [e]
  · rw [size_put (h1.tidy key64), h2]; simp [hx, h3]
  · by_cases e : y = x
    · subst e
      rw [atKey_put_same h1.isMap (isKey _), List.idxOf_append, if_neg hx]; simp
    · have hy' : y ∈ l := by simpa [e] using hy
      rw [atKey_put_other (lit_ne e), h4 y hy', List.idxOf_append, if_pos hy']

theorem norm_fill (xs : List Int) (n k : Nat) (z : Int) (hl : xs.length = n) (hk : k < n) (h : norm (xs.take (k + 1)) = norm (xs.take k) ++ [z]) :
    (ints (norm (xs.take k) ++ List.replicate (n - k) 0)).set k (.int .i64 z) = ints (norm (xs.take (k + 1)) ++ List.replicate (n - (k + 1)) 0) := by
  have e : List.replicate (n - k) (0 : Int) = 0 :: List.replicate (n - (k + 1)) 0 := by
    rw [show n - k = (n - (k + 1)) + 1 from by omega]; rfl
  have hnl : (norm (xs.take k)).length = k := by rw [norm_length, List.length_take]; omega
  rw [e, h]
  simp only [ints, List.map_append, List.map_cons, List.append_assoc]
  rw [List.set_append_right _ _ (by simp [hnl])]
  simp [hnl]

theorem fill_lt (xs : List Int) (n k : Nat) (hl : xs.length = n) (hk : k < n) : k < (ints (norm (xs.take k) ++ List.replicate (n - k) 0)).length := by
  have h1 := norm_length (xs.take k)
  have h3 : (xs.take k).length = k := by rw [List.length_take]; omega
  simp; omega

end Go.Proofs.YthpddknpiiiccaaDoor
