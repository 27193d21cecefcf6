/- What functions of one word hand back; the model's l02Code. -/
import Derived.Test.YtacfiljclklkdaaCrossRows
namespace Go.Proofs.Ytacfiljclklkdaa
open Go.RowKit
set_option linter.unusedVariables false
set_option linter.unusedSimpArgs false
set_option maxRecDepth 100000

def wordVal (f : List Int → Int) (xs : List Int) : Int × Int := if isWord xs then (f xs, 0) else (0, 1)
theorem wordVal_yes {f : List Int → Int} {xs : List Int} (h : isWord xs = true) : wordVal f xs = (f xs, 0) := by unfold wordVal; rw [if_pos h]
theorem wordVal_no {f : List Int → Int} {xs : List Int} (h : isWord xs = false) : wordVal f xs = (0, 1) := by unfold wordVal; rw [if_neg (by rw [h]; decide)]
def wordRows (f : List Int → List (List Int)) (xs : List Int) : List (List Int) × Int := if isWord xs then (f xs, 0) else ([], 1)
theorem wordRows_yes {f : List Int → List (List Int)} {xs : List Int} (h : isWord xs = true) : wordRows f xs = (f xs, 0) := by unfold wordRows; rw [if_pos h]
theorem wordRows_no {f : List Int → List (List Int)} {xs : List Int} (h : isWord xs = false) : wordRows f xs = ([], 1) := by unfold wordRows; rw [if_neg (by rw [h]; decide)]
def wordList (f : List Int → List Int) (xs : List Int) : List Int × Int := if isWord xs then (f xs, 0) else ([], 1)
theorem wordList_yes {f : List Int → List Int} {xs : List Int} (h : isWord xs = true) : wordList f xs = (f xs, 0) := by unfold wordList; rw [if_pos h]
theorem wordList_no {f : List Int → List Int} {xs : List Int} (h : isWord xs = false) : wordList f xs = ([], 1) := by unfold wordList; rw [if_neg (by rw [h]; decide)]
theorem wordList_len {f : List Int → List Int} (xs : List Int) (hf : isWord xs = true → (f xs).length ≤ 1048576) : (wordList f xs).1.length ≤ 1048576 := by
  rcases hx : isWord xs with _ | _
  · rw [wordList_no hx]; simp
  · rw [wordList_yes hx]; exact hf hx
/-- few rows, few numbers -/
def Few (rs : List (List Int)) : Prop := Slim rs ∧ cells rs ≤ 1048576
theorem cells_le (rs : List (List Int)) (a : Nat) (h : ∀ r ∈ rs, r.length ≤ a) : cells rs ≤ rs.length * a := by
  induction rs with
  | nil => simp [cells]
  | cons r rs ih =>
    have h1 := h r (by simp)
    have h2 := ih (fun q hq => h q (List.mem_cons_of_mem _ hq))
    simp only [cells, List.length_cons, Nat.add_mul, Nat.one_mul]; omega
theorem few_nil : Few [] := ⟨⟨by simp, by simp⟩, by simp [cells]⟩
theorem few_mk {rs : List (List Int)} (a b : Nat) (h1 : rs.length ≤ a) (h2 : ∀ r ∈ rs, r.length ≤ b) (ha : a ≤ 1000) (hb : b ≤ 1000) : Few rs := by
  have h3 := cells_le rs b h2
  have h4 : rs.length * b ≤ 1000 * 1000 := Nat.mul_le_mul (by omega) hb
  exact ⟨⟨by omega, fun r hr => by have := h2 r hr; omega⟩, by omega⟩
theorem wordRows_few {f : List Int → List (List Int)} (xs : List Int) (hf : isWord xs = true → Few (f xs)) : Few (wordRows f xs).1 := by
  rcases hx : isWord xs with _ | _
  · rw [wordRows_no hx]; exact few_nil
  · rw [wordRows_yes hx]; exact hf hx
theorem rowsOf_few {xs : List Int} (h : isWord xs = true) : Few (rowsOf xs) := by
  have := isWord_len h
  refine few_mk 6 6 (by rw [rowsOf_length]; omega) (fun r hr => ?_) (by omega) (by omega)
  obtain ⟨i, _, rfl⟩ := List.mem_map.1 hr
  rw [rowOf_length]; omega

theorem ints_set (xs : List Int) (k : Nat) (x : Int) : (ints xs).set k (.int .i64 x) = ints (xs.set k x) := by simp [ints, List.map_set]
/-- rows from block lo on are kept where a block below lo is written -/
theorem OwnV.other {w w' : World} {lo b : Nat} {v : Value} {vs : List Value} {rs : List (List Int)} (h : OwnV w lo v vs rs) (hg : w.grownBy w' (some b)) (hb : b < lo) : OwnV w' lo v vs rs :=
  h.kept hg (fun g hg e => by have h1 := (h.lt g hg).1; injection e with e; omega) (fun j g hg e => by have h1 := ((h.row j).lt g hg).1; injection e with e; omega)
theorem rAt_rowsOf (xs : List Int) (k : Nat) (h : k < xs.length / 2) : rAt (rowsOf xs) k = rowOf xs k := rAt_get _ _ _ (rowsOf_get xs k h)
/-- what reading crossing rows takes -/
theorem cross_at {w : World} {lo m c : Nat} {A : Option Addr} {vs : List Value} {xs : List Int} (h : OwnV w lo (.slice A m c) vs (rowsOf xs)) (hm : m = xs.length / 2) (k : Nat) (hk : k < m) :
    ∃ g B d, A = some ⟨g, 0, none⟩ ∧ w.cell? ⟨g, k, none⟩ = some (.slice B m d) ∧ Rd w B m (rowOf xs k) ∧ m ≤ d ∧ g < w.heap.size := by
  obtain ⟨g, B, d, e, hc, hr, hv, hg⟩ := h.at_ k hk
  have hrow := h.row k
  rw [rAt_rowsOf xs k (by omega)] at hc hr hv hrow
  rw [rowOf_length, ← hm] at hc hr hv
  rw [hv] at hrow
  exact ⟨g, B, d, e, hc, hr, hrow.cap, hg⟩
theorem OwnR.slice {w : World} {lo : Nat} {v : Value} {rs : List (List Int)} (h : OwnR w lo v rs) {m : Nat} (hm : rs.length = m) : ∃ A c vs, v = .slice A m c ∧ OwnV w lo (.slice A m c) vs rs := by
  obtain ⟨vs, h⟩ := h
  obtain ⟨A, c, e, _⟩ := h.form
  subst hm
  exact ⟨A, c, vs, e, e ▸ h⟩

end Go.Proofs.Ytacfiljclklkdaa
