/- Sums of products: what both ways to multiply polynomials reckon. -/
import Derived.Test.YtdeefgmjlcdpfaaFAddPolynomials
namespace Go.Proofs.Ytdeefgmjlcdpfaa
open Go.RowKit
set_option linter.unusedVariables false
set_option linter.unusedSimpArgs false
set_option maxRecDepth 100000

/-- the sum at j of phi over the pairs of a row below a -/
def cvR (φ : Int → Int → Int) (f g : List Int) : Nat → Nat → Int
  | 0, _ => 0
  | a + 1, j => cvR φ f g a j + (if a ≤ j ∧ j < a + g.length then φ (f[a]?.getD 0) (g[j - a]?.getD 0) else 0)
/-- and of the row a the first b ones -/
def cv (φ : Int → Int → Int) (f g : List Int) (a b j : Nat) : Int := cvR φ f g a j + (if a ≤ j ∧ j < a + b then φ (f[a]?.getD 0) (g[j - a]?.getD 0) else 0)
theorem cv_zero (φ : Int → Int → Int) (f g : List Int) (a j : Nat) : cv φ f g a 0 j = cvR φ f g a j := by unfold cv; rw [if_neg (by omega), Int.add_zero]
theorem cv_end (φ : Int → Int → Int) (f g : List Int) (a j : Nat) : cv φ f g a g.length j = cvR φ f g (a + 1) j := rfl
theorem cv_at (φ : Int → Int → Int) (f g : List Int) (a b : Nat) : cv φ f g a (b + 1) (a + b) = cv φ f g a b (a + b) + φ (f[a]?.getD 0) (g[b]?.getD 0) := by
  unfold cv
  rw [if_pos (by omega), if_neg (by omega), Int.add_zero, show a + b - a = b from by omega]
theorem cv_other (φ : Int → Int → Int) (f g : List Int) (a b j : Nat) (h : j ≠ a + b) : cv φ f g a (b + 1) j = cv φ f g a b j := by
  unfold cv
  by_cases e : a ≤ j ∧ j < a + b
  · rw [if_pos e, if_pos (by omega)]
  · rw [if_neg e, if_neg (by omega)]
theorem cvR_bd {φ : Int → Int → Int} {f g : List Int} {K : Int} (hK : 0 ≤ K) (h : ∀ i k : Nat, -K ≤ φ (f[i]?.getD 0) (g[k]?.getD 0) ∧ φ (f[i]?.getD 0) (g[k]?.getD 0) ≤ K) (a j : Nat) : -(K * a) ≤ cvR φ f g a j ∧ cvR φ f g a j ≤ K * a := by
  induction a with
  | zero => simp [cvR]
  | succ a ih =>
    have h1 := h a (j - a)
    have h2 : K * ((a + 1 : Nat) : Int) = K * a + K := by rw [Int.natCast_succ, Int.mul_add, Int.mul_one]
    rw [h2]
    show -(K * a + K) ≤ cvR φ f g a j + _ ∧ cvR φ f g a j + _ ≤ K * a + K
    split <;> omega
theorem cv_bd {φ : Int → Int → Int} {f g : List Int} {K : Int} (hK : 0 ≤ K) (h : ∀ i k : Nat, -K ≤ φ (f[i]?.getD 0) (g[k]?.getD 0) ∧ φ (f[i]?.getD 0) (g[k]?.getD 0) ≤ K) (a b j : Nat) (ha : a ≤ 41) : -(K * 42) ≤ cv φ f g a b j ∧ cv φ f g a b j ≤ K * 42 := by
  have h1 := cvR_bd hK h a j
  have h2 := h a (j - a)
  have h3 : K * (a : Int) ≤ K * 41 := Int.mul_le_mul_of_nonneg_left (by omega) hK
  unfold cv
  split <;> omega
theorem cvR_lin {φ φ1 φ2 : Int → Int → Int} (c : Int) (h : ∀ x y, φ x y = φ1 x y * c + φ2 x y) (f g : List Int) (a j : Nat) : cvR φ f g a j = cvR φ1 f g a j * c + cvR φ2 f g a j := by
  induction a with
  | zero => simp [cvR]
  | succ a ih =>
    show cvR φ f g a j + _ = (cvR φ1 f g a j + _) * c + (cvR φ2 f g a j + _)
    rw [ih, Int.add_mul]
    split
    · rw [h]; omega
    · omega
theorem cvR_far (φ : Int → Int → Int) (f g : List Int) : ∀ a j, a + g.length ≤ j + 1 → cvR φ f g a j = 0 ∨ a + g.length = 0 := by
  intro a
  induction a with
  | zero => intro j _; exact .inl rfl
  | succ a ih =>
    intro j h
    left
    show cvR φ f g a j + _ = 0
    rw [if_neg (by omega)]
    rcases ih j (by omega) with h1 | h1
    · rw [h1]; rfl
    · obtain rfl : a = 0 := by omega
      rfl
theorem cvR_none (φ : Int → Int → Int) (f : List Int) (a j : Nat) : cvR φ f [] a j = 0 := by
  induction a with
  | zero => rfl
  | succ a ih =>
    show cvR φ f [] a j + _ = 0
    rw [ih, if_neg (by rw [List.length_nil]; omega)]; rfl
/-- the product -/
def mul2 (x y : Int) : Int := x * y
def mulL (f g : List Int) (n : Nat) : List Int := tab n (fun j => cvR mul2 f g f.length j)
def mulPoly (f g : List Int) : List Int × Int := if polyB f then (if polyB g then toldP (trim (mulL f g (f.length + g.length))) else ([], 1)) else ([], 1)
theorem mulPoly_n1 {f g : List Int} (h : polyB f = false) : mulPoly f g = ([], 1) := by unfold mulPoly; rw [if_neg (by rw [h]; decide)]
theorem mulPoly_n2 {f g : List Int} (h : polyB f = true) (h2 : polyB g = false) : mulPoly f g = ([], 1) := by unfold mulPoly; rw [if_pos h, if_neg (by rw [h2]; decide)]
theorem mulPoly_yes {f g : List Int} (h : polyB f = true) (h2 : polyB g = true) : mulPoly f g = toldP (trim (mulL f g (f.length + g.length))) := by unfold mulPoly; rw [if_pos h, if_pos h2]
theorem mulPoly_len (f g : List Int) : (mulPoly f g).1.length ≤ 1048576 := by
  unfold mulPoly
  split
  · rename_i h1
    split
    · rename_i h2
      have h3 := toldP_len (trim (mulL f g (f.length + g.length)))
      have h4 := trim_len (mulL f g (f.length + g.length))
      have h5 : (mulL f g (f.length + g.length)).length = f.length + g.length := by unfold mulL; simp
      have := polyB_len h1
      have := polyB_len h2
      omega
    · simp
  · simp
theorem trim_zeros (l : List Int) (h : ∀ j : Nat, l[j]?.getD 0 = 0) : trim l = [] := by
  have e : ∀ n, trimN l n = 0 := by
    intro n
    induction n with
    | zero => rfl
    | succ n ih => rw [trimN_go (by omega) (h _)]; exact ih
  unfold trim; rw [e]; rfl
theorem told_nil : toldP [] = ([], 0) := rfl
theorem mulL_get (f g : List Int) (n j : Nat) : (mulL f g n)[j]?.getD 0 = if j < n then cvR mul2 f g f.length j else 0 := by
  unfold mulL
  by_cases h : j < n
  · rw [tab_get h, if_pos h]; rfl
  · rw [List.getElem?_eq_none (by simp; omega), if_neg h]; rfl
theorem mulPoly_zero {f g : List Int} (h : polyB f = true) (h2 : polyB g = true) (h0 : f.length = 0 ∨ g.length = 0) : mulPoly f g = ([], 0) := by
  rw [mulPoly_yes h h2, trim_zeros _ (fun j => ?_), told_nil]
  rw [mulL_get]
  split
  · rcases h0 with h0 | h0
    · rw [h0]; rfl
    · rw [List.length_eq_zero_iff.1 h0, cvR_none]
  · rfl
theorem trimN_congr (l l' : List Int) (n : Nat) (h : ∀ j, j < n → l[j]?.getD 0 = l'[j]?.getD 0) : trimN l n = trimN l' n := by
  induction n with
  | zero => rfl
  | succ n ih =>
    show (if l[n]?.getD 0 = 0 then trimN l n else n + 1) = (if l'[n]?.getD 0 = 0 then trimN l' n else n + 1)
    rw [h n (by omega), ih (fun j hj => h j (by omega))]
/-- a zero at the end is cut off -/
theorem trim_snoc (l : List Int) : trim (l ++ [0]) = trim l := by
  have hl : (l ++ [0]).length = l.length + 1 := by simp
  have h0 : (l ++ [(0 : Int)])[l.length]?.getD 0 = 0 := by simp
  have e : trimN (l ++ [0]) (l.length + 1) = trimN l l.length := by
    rw [trimN_go (by omega) (by rw [Nat.add_sub_cancel]; exact h0), Nat.add_sub_cancel]
    exact trimN_congr _ _ _ (fun j hj => by rw [List.getElem?_append_left hj])
  unfold trim
  rw [hl, e, List.take_append_of_le_length (trimN_le _ _)]
theorem tab_succ (n : Nat) (h : Nat → Int) : tab (n + 1) h = tab n h ++ [h n] := by
  unfold tab
  rw [List.range_succ, List.map_append]; rfl
theorem mulL_trim (f g : List Int) (h : 0 < f.length) (h2 : 0 < g.length) : trim (mulL f g (f.length + g.length)) = trim (mulL f g (f.length + g.length - 1)) := by
  have e : f.length + g.length = (f.length + g.length - 1) + 1 := by omega
  have h3 : cvR mul2 f g f.length (f.length + g.length - 1) = 0 := by
    rcases cvR_far mul2 f g f.length (f.length + g.length - 1) (by omega) with h | h
    · exact h
    · omega
  rw [show mulL f g (f.length + g.length) = mulL f g (f.length + g.length - 1) ++ [0] from by
    conv => lhs; rw [e]
    unfold mulL
    rw [tab_succ, h3], trim_snoc]
theorem trimN_ge (l : List Int) (j : Nat) (h : l[j]?.getD 0 ≠ 0) : ∀ n, j < n → j < trimN l n := by
  intro n
  induction n with
  | zero => intro hj; omega
  | succ n ih =>
    intro hj
    by_cases e : l[n]?.getD 0 = 0
    · have hjn : j ≠ n := fun e2 => h (by rw [e2]; exact e)
      rw [trimN_go (by omega) (by simpa using e), Nat.add_sub_cancel]
      exact ih (by omega)
    · rw [trimN_stop (by omega) (by simpa using e)]; omega
/-- a number that is too great stays -/
theorem told_great {l : List Int} {j : Nat} (hj : j < l.length) (h : within (l[j]?.getD 0) = false) : toldP (trim l) = ([], 3) := by
  apply toldP_no
  have h0 : l[j]?.getD 0 ≠ 0 := fun e => by rw [e] at h; revert h; decide
  have h1 := trimN_ge l j h0 l.length hj
  have h2 := trimN_le l l.length
  unfold polyB
  rw [within_not (k := j) (by unfold trim; rw [List.length_take]; omega) (by unfold trim; rw [List.getElem?_take, if_pos h1]; exact h)]
  rfl
end Go.Proofs.Ytdeefgmjlcdpfaa
