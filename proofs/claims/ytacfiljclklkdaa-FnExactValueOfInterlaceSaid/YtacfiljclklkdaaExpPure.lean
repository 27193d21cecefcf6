/- Polynomials that are expanded out of numbers of products of factors; how many members of a list have each value: plain facts. -/
import Derived.Test.YtacfiljclklkdaaPure3
namespace Go.Proofs.Ytacfiljclklkdaa
set_option linter.unusedVariables false
set_option linter.unusedSimpArgs false

/-- a sum of the first values -/
def sN (f : Nat → Int) : Nat → Int
  | 0 => 0
  | n + 1 => sN f n + f n
theorem sN_front (f : Nat → Int) (n : Nat) : sN f (n + 1) = f 0 + sN (fun i => f (i + 1)) n := by
  induction n with
  | zero => simp [sN]
  | succ n ih => rw [sN, ih, sN]; omega
theorem sN_congr {f g : Nat → Int} {n : Nat} (h : ∀ i, i < n → f i = g i) : sN f n = sN g n := by
  induction n with
  | zero => rfl
  | succ n ih => rw [sN, sN, ih (fun i hi => h i (by omega)), h n (by omega)]
theorem sN_add (f g : Nat → Int) (n : Nat) : sN (fun i => f i + g i) n = sN f n + sN g n := by
  induction n with
  | zero => rfl
  | succ n ih => rw [sN, sN, sN, ih]; omega
theorem sN_sub (f g : Nat → Int) (n : Nat) : sN (fun i => f i - g i) n = sN f n - sN g n := by
  induction n with
  | zero => rfl
  | succ n ih => rw [sN, sN, sN, ih]; omega
theorem sN_mul (r : Int) (f : Nat → Int) (n : Nat) : sN (fun i => r * f i) n = r * sN f n := by
  induction n with
  | zero => simp [sN]
  | succ n ih => rw [sN, sN, ih, Int.mul_add]
theorem sN_zero (n : Nat) : sN (fun _ => 0) n = 0 := by
  induction n with
  | zero => rfl
  | succ n ih => rw [sN, ih]; rfl
theorem sN_one (g : Nat → Int) {a n : Nat} (h : a < n) : sN (fun i => if i = a then g i else 0) n = g a := by
  induction n with
  | zero => omega
  | succ n ih =>
    rw [sN]
    by_cases e : a = n
    · subst e
      rw [if_pos rfl, sN_congr (g := fun _ => 0) (fun i hi => if_neg (by omega)), sN_zero]; omega
    · rw [ih (by omega), if_neg (by omega)]; omega

/-- the numbers of the product of d factors x - root, from the root i on -/
def facC (root : Nat → Int) : Nat → Nat → Nat → Int
  | _, 0, 0 => 1
  | _, 0, _ + 1 => 0
  | i, d + 1, 0 => -(root i * facC root (i + 1) d 0)
  | i, d + 1, t + 1 => facC root (i + 1) d t - root i * facC root (i + 1) d (t + 1)
/-- one factor more, one number more -/
def stepE (r y : Int) (p : List Int) : List Int := (List.range p.length).map fun j => (if j = 0 then y else p[j - 1]?.getD 0) - r * p[j]?.getD 0
theorem stepE_len (r y : Int) (p : List Int) : (stepE r y p).length = p.length := by simp [stepE]
theorem stepE_at (r y : Int) (p : List Int) (j : Nat) (h : j < p.length) : (stepE r y p)[j]?.getD 0 = (if j = 0 then y else p[j - 1]?.getD 0) - r * p[j]?.getD 0 := by simp [stepE, h]
/-- the state when q factors, from the last one on, are done -/
def expTo (root : Nat → Int) (nums : List Int) : Nat → List Int
  | 0 => List.replicate nums.length 0
  | q + 1 => stepE (root (nums.length - 1 - q)) (nums[nums.length - 1 - q]?.getD 0) (expTo root nums q)
def expL (root : Nat → Int) (nums : List Int) : List Int := expTo root nums nums.length
theorem expTo_len (root : Nat → Int) (nums : List Int) (q : Nat) : (expTo root nums q).length = nums.length := by
  induction q with
  | zero => simp [expTo]
  | succ q ih => rw [expTo, stepE_len, ih]
theorem expL_len (root : Nat → Int) (nums : List Int) : (expL root nums).length = nums.length := expTo_len _ _ _
theorem expTo_at (root : Nat → Int) (nums : List Int) (q : Nat) (hq : q ≤ nums.length) : ∀ t, t < nums.length → (expTo root nums q)[t]?.getD 0 = sN (fun s => nums[nums.length - q + s]?.getD 0 * facC root (nums.length - q) s t) q := by
  induction q with
  | zero => intro t ht; simp [expTo, sN, ht]
  | succ q ih =>
    intro t ht
    have ih := ih (by omega)
    have e : nums.length - (q + 1) = nums.length - 1 - q := by omega
    have e1 : nums.length - q = nums.length - 1 - q + 1 := by omega
    rw [e1] at ih
    obtain ⟨i, hi⟩ : ∃ i, nums.length - 1 - q = i := ⟨_, rfl⟩
    rw [expTo, stepE_at _ _ _ _ (by rw [expTo_len]; exact ht), e, sN_front]
    rw [hi] at ih ⊢
    cases t with
    | zero =>
      rw [if_pos rfl, ih 0 ht, ← sN_mul]
      have h1 : facC root i 0 0 = 1 := rfl
      rw [h1, Nat.add_zero, Int.mul_one, Int.sub_eq_add_neg]
      congr 1
      rw [show -(sN (fun s => root i * (nums[i + 1 + s]?.getD 0 * facC root (i + 1) s 0)) q) = (-1) * sN (fun s => root i * (nums[i + 1 + s]?.getD 0 * facC root (i + 1) s 0)) q from by omega, ← sN_mul]
      refine sN_congr fun s hs => ?_
      show -1 * (root i * (nums[i + 1 + s]?.getD 0 * facC root (i + 1) s 0)) = nums[i + (s + 1)]?.getD 0 * -(root i * facC root (i + 1) s 0)
      rw [show i + (s + 1) = i + 1 + s from by omega]
      generalize nums[i + 1 + s]?.getD 0 = x
      generalize facC root (i + 1) s 0 = y
      rw [Int.mul_neg, Int.neg_one_mul, ← Int.mul_assoc x, Int.mul_comm x (root i), Int.mul_assoc]
    | succ t =>
      rw [if_neg (by omega), Nat.add_sub_cancel, ih t (by omega), ih (t + 1) ht, ← sN_mul, ← sN_sub]
      have h1 : facC root i 0 (t + 1) = 0 := rfl
      rw [h1, Int.mul_zero, Int.zero_add]
      refine sN_congr fun s hs => ?_
      show nums[i + 1 + s]?.getD 0 * facC root (i + 1) s t - root i * (nums[i + 1 + s]?.getD 0 * facC root (i + 1) s (t + 1)) = nums[i + (s + 1)]?.getD 0 * (facC root (i + 1) s t - root i * facC root (i + 1) s (t + 1))
      rw [show i + (s + 1) = i + 1 + s from by omega, Int.mul_sub]
      generalize nums[i + 1 + s]?.getD 0 = x
      generalize facC root (i + 1) s (t + 1) = y
      rw [← Int.mul_assoc (root i), Int.mul_comm (root i) x, Int.mul_assoc]
theorem expL_at (root : Nat → Int) (nums : List Int) (t : Nat) (ht : t < nums.length) : (expL root nums)[t]?.getD 0 = sN (fun j => nums[j]?.getD 0 * facC root 0 j t) nums.length := by
  unfold expL
  rw [expTo_at root nums _ (Nat.le_refl _) t ht, Nat.sub_self]
  exact sN_congr fun s _ => by rw [Nat.zero_add]

/-- all numbers are at most B -/
def AllLe (B : Int) (p : List Int) : Prop := ∀ j : Nat, -B ≤ p[j]?.getD 0 ∧ p[j]?.getD 0 ≤ B
theorem mul_bd {r x R B : Int} (h0 : 0 ≤ r) (h1 : r ≤ R) (hx : -B ≤ x ∧ x ≤ B) : -(R * B) ≤ r * x ∧ r * x ≤ R * B := by
  have hB : 0 ≤ B := by omega
  have h2 : r * B ≤ R * B := Int.mul_le_mul_of_nonneg_right h1 hB
  have h3 : r * x ≤ r * B := Int.mul_le_mul_of_nonneg_left hx.2 h0
  have h4 : r * (-B) ≤ r * x := Int.mul_le_mul_of_nonneg_left hx.1 h0
  rw [Int.mul_neg] at h4
  omega
theorem stepE_bd {B r y : Int} {p : List Int} (h : AllLe B p) (h0 : 0 ≤ r) (h6 : r ≤ 6) (hy : -1000 ≤ y ∧ y ≤ 1000) (hB : 0 ≤ B) : AllLe (1000 + 7 * B) (stepE r y p) := fun j => by
  by_cases hj : j < p.length
  · rw [stepE_at _ _ _ _ hj]
    have h1 := mul_bd h0 h6 (h j)
    have h2 := h (j - 1)
    split <;> omega
  · rw [List.getElem?_eq_none (by rw [stepE_len]; omega)]
    simp only [Option.getD_none]; omega
def bdE : Nat → Int
  | 0 => 0
  | q + 1 => 1000 + 7 * bdE q
theorem bdE_nn (q : Nat) : 0 ≤ bdE q := by
  induction q with
  | zero => exact Int.le_refl _
  | succ q ih => rw [bdE]; omega
theorem bdE_le {q : Nat} (h : q ≤ 7) : bdE q ≤ 200000000 := by
  have : q = 0 ∨ q = 1 ∨ q = 2 ∨ q = 3 ∨ q = 4 ∨ q = 5 ∨ q = 6 ∨ q = 7 := by omega
  rcases this with rfl | rfl | rfl | rfl | rfl | rfl | rfl | rfl <;> decide
theorem expTo_bd {root : Nat → Int} {nums : List Int} (hn : AllLe 1000 nums) (hr : ∀ k, k ≤ 6 → 0 ≤ root k ∧ root k ≤ 6) (h7 : nums.length ≤ 7) (q : Nat) : AllLe (bdE q) (expTo root nums q) := by
  induction q with
  | zero =>
    intro j
    simp only [expTo, bdE, List.getElem?_replicate]
    split <;> simp
  | succ q ih => exact stepE_bd ih (hr _ (by omega)).1 (hr _ (by omega)).2 (hn _) (bdE_nn q)

/-- how many members of a list have each value below N -/
def hist (N : Nat) (l : List Nat) : List Int := (List.range N).map fun j => ((l.count j : Nat) : Int)
theorem hist_len (N : Nat) (l : List Nat) : (hist N l).length = N := by simp [hist]
theorem hist_at (N : Nat) (l : List Nat) (j : Nat) (h : j < N) : (hist N l)[j]? = some ((l.count j : Nat) : Int) := by simp [hist, h]
theorem hist_nil (N : Nat) : hist N [] = List.replicate N 0 := by
  apply List.ext_getElem? 
  intro j
  simp only [hist, List.getElem?_map, List.getElem?_replicate]
  by_cases h : j < N
  · rw [List.getElem?_eq_getElem (by simpa using h)]; simp [h]
  · rw [List.getElem?_eq_none (by simpa using h)]; simp [h]
theorem hist_snoc (N : Nat) (l : List Nat) (a : Nat) (h : a < N) : hist N (l ++ [a]) = (hist N l).set a ((hist N l)[a]?.getD 0 + 1) := by
  apply List.ext_getElem?
  intro j
  rw [List.getElem?_set]
  by_cases hj : j < N
  · rw [hist_at _ _ _ hj, hist_at _ _ _ h, List.count_append, hist_len]
    by_cases e : a = j
    · subst e; simp [h]
    · rw [if_neg e, hist_at _ _ _ hj, List.count_singleton]
      simp [e]
  · rw [List.getElem?_eq_none (by rw [hist_len]; omega)]
    rw [if_neg (by omega), List.getElem?_eq_none (by rw [hist_len]; omega)]
theorem hist_bd {N : Nat} {l : List Nat} (h : l.length ≤ 1000) : AllLe 1000 (hist N l) := fun j => by
  by_cases hj : j < N
  · rw [hist_at _ _ _ hj]
    have := List.count_le_length (a := j) (l := l)
    simp only [Option.getD_some]; omega
  · rw [List.getElem?_eq_none (by rw [hist_len]; omega)]; simp
/-- a sum over the values of a list -/
def lsum (g : Nat → Int) (l : List Nat) : Int := l.foldl (fun v c => v + g c) 0
theorem lsum_snoc (g : Nat → Int) (l : List Nat) (c : Nat) : lsum g (l ++ [c]) = lsum g l + g c := by unfold lsum; rw [List.foldl_append]; rfl
theorem sN_hist (N : Nat) (g : Nat → Int) (l : List Nat) : (∀ c ∈ l, c < N) → sN (fun j => (hist N l)[j]?.getD 0 * g j) N = lsum g l := by
  have key : ∀ l' : List Nat, (∀ c ∈ l', c < N) → sN (fun j => (hist N l'.reverse)[j]?.getD 0 * g j) N = lsum g l'.reverse := by
    intro l'
    induction l' with
    | nil =>
      intro _
      rw [List.reverse_nil, hist_nil, sN_congr (g := fun _ => 0) (fun i hi => by simp [hi]), sN_zero]; rfl
    | cons c l' ih =>
      intro h
      have hc := h c (by simp)
      rw [List.reverse_cons, lsum_snoc, ← ih (fun x hx => h x (by simp [hx])), ← sN_one g hc, ← sN_add]
      refine sN_congr fun j hj => ?_
      rw [hist_at _ _ _ hj, hist_at _ _ _ hj, List.count_append, List.count_singleton]
      by_cases e : j = c
      · subst e; simp [Int.add_mul]
      · rw [if_neg e]
        have e' : (c == j) = false := by simp; omega
        simp [e']
  intro h
  have := key l.reverse (fun c hc => h c (by simpa using hc))
  rwa [List.reverse_reverse] at this
/-- the expanded sum of products -/
theorem expL_hist (root : Nat → Int) (N : Nat) (l : List Nat) (h : ∀ c ∈ l, c < N) (t : Nat) (ht : t < N) : (expL root (hist N l))[t]?.getD 0 = lsum (fun c => facC root 0 c t) l := by
  rw [expL_at _ _ _ (by rw [hist_len]; exact ht), hist_len, sN_hist N (fun j => facC root 0 j t) l h]
end Go.Proofs.Ytacfiljclklkdaa
