/- A ring turned round: ahead and behind have changed their parts. -/
import Derived.Test.YtiedekdghdgocaaDoorRing
namespace Go.Proofs.YtiedekdghdgocaaDoor
open Go.RowKit
set_option linter.unusedVariables false
set_option linter.unusedSimpArgs false
set_option maxRecDepth 100000

/-- the cut, then the places from the last to the first -/
def revL (L : List Nd) : List Nd := L.take 1 ++ (L.drop 1).reverse
theorem revL_length (L : List Nd) : (revL L).length = L.length := by
  unfold revL; simp; omega
def flip (m i : Nat) : Nat := if i = 0 then 0 else m - i
theorem flip_lt {m i : Nat} (h : i < m) : flip m i < m := by unfold flip; split <;> omega
theorem revL_get (L : List Nd) (i : Nat) (h : i < L.length) : (revL L)[i]? = L[flip L.length i]? := by
  unfold revL flip
  have hl : (L.take 1).length = 1 := by simp; omega
  by_cases h0 : i = 0
  · rw [if_pos h0, h0, List.getElem?_append_left (by omega), List.getElem?_take, if_pos (by omega)]
  · rw [if_neg h0, List.getElem?_append_right (by omega), hl, List.getElem?_reverse (by simp; omega), List.getElem?_drop]
    congr 1
    simp
    omega
theorem bl_rev (L : List Nd) (i : Nat) (h : i < L.length) : bl (revL L) i = bl L (flip L.length i) := by unfold bl; rw [revL_get L i h]
theorem vl_rev (L : List Nd) (i : Nat) (h : i < L.length) : vl (revL L) i = vl L (flip L.length i) := by unfold vl; rw [revL_get L i h]
theorem flip_inj {m i j : Nat} (hi : i < m) (hj : j < m) (h : flip m i = flip m j) : i = j := by
  unfold flip at h
  split at h <;> split at h <;> omega
theorem flip_is (m j : Nat) : (j = 0 → flip m j = 0) ∧ (j ≠ 0 → flip m j = m - j) := ⟨fun hh => by unfold flip; rw [if_pos hh], fun hh => by unfold flip; rw [if_neg hh]⟩
theorem flip_prv {m i : Nat} (h : i < m) : flip m (prv m i) = nxt m (flip m i) := by
  have p := prv_is m i
  have f1 := flip_is m i
  have f2 := flip_is m (prv m i)
  have n := nxt_is m (flip m i)
  omega
theorem flip_nxt {m i : Nat} (h : i < m) : flip m (nxt m i) = prv m (flip m i) := by
  have p := nxt_is m i
  have f1 := flip_is m i
  have f2 := flip_is m (nxt m i)
  have n := prv_is m (flip m i)
  omega
/-- a ring whose nodes have ahead and behind changed -/
theorem ring_reverse {w w' : World} {L : List Nd} (h : Ring w L) (hn : ∀ i, i < L.length → Box3 w' (bl L i) 71 (vl L i) (ptr (bl L (nxt L.length i))) (ptr (bl L (prv L.length i)))) : Ring w' (revL L) := by
  refine ⟨fun i j hi hj he => ?_, fun i hi => ?_⟩
  · rw [revL_length] at hi hj
    rw [bl_rev L i hi, bl_rev L j hj] at he
    exact flip_inj hi hj (h.inj _ _ (flip_lt hi) (flip_lt hj) he)
  · rw [revL_length] at hi ⊢
    rw [bl_rev L i hi, vl_rev L i hi, bl_rev L _ (prv_lt hi), bl_rev L _ (nxt_lt hi), flip_prv hi, flip_nxt hi]
    exact hn _ (flip_lt hi)
theorem revL_map (L : List Nd) : (revL L).drop 1 = (L.drop 1).reverse := by
  unfold revL
  cases L with
  | nil => rfl
  | cons a l => rfl
end Go.Proofs.YtiedekdghdgocaaDoor
