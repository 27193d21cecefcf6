/- Plain: border circles and crossing ranks, told faster. -/
import Derived.Test.YtinfhkcmjmglkaaPure19
import Derived.Test.YtinfhkcmjmglkaaPure5
import Derived.Test.YtinfhkcmjmglkaaPure7
namespace Go.Proofs.Ytinfhkcmjmglkaa
set_option linter.unusedVariables false
set_option linter.unusedSimpArgs false
set_option maxRecDepth 100000

/-- both places of each chord -/
def plsF (w : List Int) (n : Nat) : List (Nat × Nat) := (List.range n).map fun i : Nat => (place1 w i, place2 w i)
def plAt (P : List (Nat × Nat)) (i : Nat) : Nat × Nat := P[i]?.getD (0, 0)
theorem plAt_eq (w : List Int) (n i : Nat) (h : i < n) : plAt (plsF w n) i = (place1 w i, place2 w i) := by simp [plAt, plsF, h]
def nxtF (w : List Int) (m : Nat) (P : List (Nat × Nat)) : List Nat := (List.range m).map fun k => ((plAt P (w.getD k 0).toNat).1 + (plAt P (w.getD k 0).toNat).2 - k + 1) % m
theorem nxtF_eq {w : List Int} (h : isWord w = true) (n k : Nat) (hn : w.length = 2 * n) (hk : k < 2 * n) : (nxtF w (2 * n) (plsF w n))[k]?.getD 0 = nxt w k := by
  have hm : w.getD k 0 ∈ w := by
    rw [show w.getD k 0 = w[k]'(by omega) from by simp [List.getD, List.getElem?_eq_getElem (show k < w.length by omega)]]
    exact List.getElem_mem _
  have hl := word_lt h hm
  have e1 : (((w.getD k 0).toNat : Nat) : Int) = w.getD k 0 := by omega
  have h1 : (nxtF w (2 * n) (plsF w n))[k]?.getD 0 = ((plAt (plsF w n) (w.getD k 0).toNat).1 + (plAt (plsF w n) (w.getD k 0).toNat).2 - k + 1) % (2 * n) := by simp [nxtF, hk]
  rw [h1, plAt_eq w n _ (by omega)]
  unfold nxt
  rw [e1, hn]
/-- the circles from the start i on -/
def circF (nx : Nat → Nat) (n : Nat) : Nat → Nat → List Bool → Nat → Nat
  | 0, _, _, c => c
  | s + 1, i, met, c => if met[i]?.getD false = true then circF nx n s (i + 1) met c else circF nx n s (i + 1) (mark nx n met i) (c + 1)
theorem mark_congr {nx nx' : Nat → Nat} {n : Nat} (h : ∀ k, k < n → nx k = nx' k ∧ nx k < n) : ∀ f met p, p < n → mark nx f met p = mark nx' f met p := by
  intro f
  induction f with
  | zero => intro met p _; rfl
  | succ f ih =>
    intro met p hp
    unfold mark
    rw [← (h p hp).1]
    rw [ih _ _ (h p hp).2]
theorem circTo_congr {nx nx' : Nat → Nat} {n : Nat} (h : ∀ k, k < n → nx k = nx' k ∧ nx k < n) : ∀ i, i ≤ n → circTo nx n i = circTo nx' n i := by
  intro i
  induction i with
  | zero => intro _; rfl
  | succ i ih =>
    intro hi
    unfold circTo
    rw [ih (by omega), mark_congr h n _ i (by omega)]
theorem circF_eq (nx : Nat → Nat) (n : Nat) : ∀ s i, circF nx n s i (circTo nx n i).1 (circTo nx n i).2.toNat = (circTo nx n (i + s)).2.toNat := by
  intro s
  induction s with
  | zero => intro i; rfl
  | succ s ih =>
    intro i
    have hb := (circTo_bd nx n i).1
    unfold circF
    by_cases hm : (circTo nx n i).1[i]?.getD false = true
    · rw [if_pos hm, ← circTo_yes nx n i hm, ih (i + 1), show i + 1 + s = i + (s + 1) by omega]
    · have hm' : (circTo nx n i).1[i]?.getD false = false := by simpa using hm
      rw [if_neg hm]
      have e := circTo_no nx n i hm'
      have h1 := ih (i + 1)
      rw [e] at h1
      simp only at h1
      rw [show ((circTo nx n i).2 + 1).toNat = (circTo nx n i).2.toNat + 1 by omega] at h1
      rw [h1, show i + 1 + s = i + (s + 1) by omega]
def circlesF (w : List Int) (n : Nat) (P : List (Nat × Nat)) : Nat :=
  if n = 0 then 1 else circF (fun k => (nxtF w (2 * n) P)[k]?.getD 0) (2 * n) (2 * n) 0 (List.replicate (2 * n) false) 0
theorem circlesF_eq {w : List Int} (h : isWord w = true) (n : Nat) (hn : w.length = 2 * n) : (circlesF w n (plsF w n) : Int) = circles w := by
  unfold circlesF
  by_cases h0 : n = 0
  · rw [if_pos h0, circles_zero (by omega)]; rfl
  · rw [if_neg h0, circles_some (by omega)]
    have hx : ∀ k, k < 2 * n → nxt w k = (nxtF w (2 * n) (plsF w n))[k]?.getD 0 ∧ nxt w k < 2 * n := fun k hk =>
      ⟨(nxtF_eq h n k hn hk).symm, by rw [← hn]; exact nxt_lt w k (by omega)⟩
    have h1 := circF_eq (fun k => (nxtF w (2 * n) (plsF w n))[k]?.getD 0) (2 * n) (2 * n) 0
    rw [hn, circTo_congr hx (2 * n) (Nat.le_refl _)]
    rw [Nat.zero_add] at h1
    have h2 := (circTo_bd (fun k => (nxtF w (2 * n) (plsF w n))[k]?.getD 0) (2 * n) (2 * n)).1
    have h3 : circF (fun k => (nxtF w (2 * n) (plsF w n))[k]?.getD 0) (2 * n) (2 * n) 0 (List.replicate (2 * n) false) 0 = (circTo (fun k => (nxtF w (2 * n) (plsF w n))[k]?.getD 0) (2 * n) (2 * n)).2.toNat := h1
    rw [h3]; omega
def crossN (a b c d : Nat) : Bool := (Nat.blt a c && Nat.blt c b) != (Nat.blt a d && Nat.blt d b)
theorem blt_eq (a b : Nat) : Nat.blt a b = decide ((a : Int) < b) := by
  rcases h : Nat.blt a b with _ | _
  · have h1 : ¬ a < b := fun h2 => by rw [(Nat.blt_eq (x := a) (y := b)).symm] at h2; rw [h2] at h; cases h
    exact (decide_eq_false (by omega)).symm
  · have h1 : a < b := by rw [← Nat.blt_eq (x := a) (y := b)]; exact h
    exact (decide_eq_true (by omega)).symm
theorem crossN_eq (a b c d : Nat) : crossN a b c d = crossB a b c d := by
  unfold crossN crossB betw
  rw [blt_eq, blt_eq, blt_eq, blt_eq]
def bitsF (f : Nat → Bool) : Nat → Nat
  | 0 => 0
  | k + 1 => (if f k then 2 ^ k else 0) + bitsF f k
def vecsF (n : Nat) (P : List (Nat × Nat)) : List Nat := (List.range n).map fun i => bitsF (fun k => crossN (plAt P i).1 (plAt P i).2 (plAt P k).1 (plAt P k).2) n
theorem vecsF_eq (w : List Int) (n : Nat) (hn : w.length = 2 * n) : vecsF n (plsF w n) = vecs n (rowsOf w) := by
  unfold vecsF vecs rowsOf
  rw [show w.length / 2 = n by omega, List.map_map]
  refine List.map_congr_left fun i hi => ?_
  rw [List.mem_range] at hi
  show _ = bitsUp (rowOf w i) n
  have h : ∀ m, m ≤ n → bitsF (fun k => crossN (plAt (plsF w n) i).1 (plAt (plsF w n) i).2 (plAt (plsF w n) k).1 (plAt (plsF w n) k).2) m = bitsUp (rowOf w i) m := by
    intro m
    induction m with
    | zero => intro _; rfl
    | succ m ih =>
      intro hm
      unfold bitsF bitsUp
      rw [ih (by omega), rowOf_get w i m (by omega), plAt_eq w n i hi, plAt_eq w n m (by omega)]
      show (if crossN (place1 w i) (place2 w i) (place1 w m) (place2 w m) then 2 ^ m else 0) + _ = _
      rw [crossN_eq]
      show (if crossAt w i m then 2 ^ m else 0) + _ = 2 ^ m * (one0 (crossAt w i m)).toNat + _
      cases crossAt w i m <;> simp [one0]
  exact h n (Nat.le_refl _)
theorem rankF_eq (w : List Int) (n : Nat) (hn : w.length = 2 * n) : rankOf w = ((basisOf (vecsF n (plsF w n))).length : Nat) := by
  unfold rankOf
  rw [vecsF_eq w n hn, show w.length / 2 = n by omega]
/-- what is asked of a word of n chords: its circles, and those of the word rotated by 1 -/
def circOk (n : Nat) (w : List Int) : Bool :=
  Nat.beq (circlesF w n (plsF w n) + (basisOf (vecsF n (plsF w n))).length) (n + 1) && (Nat.beq ((basisOf (vecsF n (plsF w n))).length % 2) 0 && Nat.beq (circlesF (rotP w 1) n (plsF (rotP w 1) n)) (circlesF w n (plsF w n)))
end Go.Proofs.Ytinfhkcmjmglkaa
