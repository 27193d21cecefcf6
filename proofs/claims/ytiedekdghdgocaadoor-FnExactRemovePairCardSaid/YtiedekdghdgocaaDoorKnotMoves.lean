/- Changes of a knot: an arrow turned, switched; all chords mirrored. -/
import Derived.Test.YtiedekdghdgocaaDoorKnotOf
namespace Go.Proofs.YtiedekdghdgocaaDoor
open Go.RowKit
set_option linter.unusedVariables false
set_option linter.unusedSimpArgs false
set_option maxRecDepth 100000

/-- one arrow has another Head, another Sign -/
theorem KnotW.set_arrow {w w' : World} {lo kb : Nat} {L : List Nd} {ars : List Nat} {av : Value} {xs hs ss hs' ss' : List Int} (h : KnotW w lo kb L ars av xs hs ss) {k : Nat} (hk : k < ars.length)
    (ht : Turn (fun q => q = aBl ars k) w w') (hb : Box2 w' (aBl ars k) 76 (.int .i64 (hs'[k]?.getD 0)) (.int .i64 (ss'[k]?.getD 0)))
    (hh : ∀ i, i < ars.length → i ≠ k → hs'[i]?.getD 0 = hs[i]?.getD 0) (hS : ∀ i, i < ars.length → i ≠ k → ss'[i]?.getD 0 = ss[i]?.getD 0) : KnotW w' lo kb L ars av xs hs' ss' := by
  have ha := h.arrows.box k hk
  refine ⟨h.box.turn_ ht (fun e => box2_ne ha h.box (by decide) e.symm), row_turn h.arr ht (fun q hq e => row_off h.arr ha (by decide) (e ▸ hq)), h.ring.kept ht (fun i hi e => box23_ne ha (h.ring.node i hi) (by decide) e.symm), h.len, h.cut, h.vals,
    ⟨h.arrows.inj, h.arrows.low, fun i hi => ?_⟩, h.lowk, h.lowr⟩
  by_cases e : i = k
  · subst e; exact hb
  · rw [hh i hi e, hS i hi e]
    exact (h.arrows.box i hi).turn_ ht (fun e1 => e (h.arrows.inj i k hi hk e1))
/-- the first k changed -/
def turnK (f : Int → Int) (xs : List Int) (k : Nat) : List Int := (xs.take k).map f ++ xs.drop k
theorem turnK_get (f : Int → Int) (xs : List Int) (k i : Nat) (hk : k ≤ xs.length) (hi : i < xs.length) : (turnK f xs k)[i]?.getD 0 = if i < k then f (xs[i]?.getD 0) else xs[i]?.getD 0 := by
  unfold turnK
  have hl : ((xs.take k).map f).length = k := by rw [List.length_map, List.length_take]; omega
  by_cases h : i < k
  · rw [if_pos h, List.getElem?_append_left (by omega), List.getElem?_map, List.getElem?_take, if_pos h, List.getElem?_eq_getElem hi]; rfl
  · rw [if_neg h, List.getElem?_append_right (by omega), hl, List.getElem?_drop]
    congr 2; omega
theorem turnK_zero (f : Int → Int) (xs : List Int) : turnK f xs 0 = xs := by simp [turnK]
theorem turnK_all (f : Int → Int) (xs : List Int) : turnK f xs xs.length = xs.map f := by simp [turnK]
end Go.Proofs.YtiedekdghdgocaaDoor
