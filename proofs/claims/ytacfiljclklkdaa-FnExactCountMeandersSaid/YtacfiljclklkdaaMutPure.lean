/- Plain facts for chapter 9: arcs and shares, words without crossings, curves, polygon numbers. -/
import Derived.Test.YtacfiljclklkdaaPure5
namespace Go.Proofs.Ytacfiljclklkdaa
set_option linter.unusedVariables false
set_option linter.unusedSimpArgs false
set_option maxRecDepth 100000

/-- whether a place is in the arcs p..q and r..s -/
def inArcs (p q r s t : Int) : Bool := (decide (p ≤ t) && decide (t < q)) || (decide (r ≤ t) && decide (t < s))
/-- the chord c has just one of its places in the arcs -/
def splitB (xs : List Int) (p q r s : Int) (c : Nat) : Bool := inArcs p q r s (place1 xs c) != inArcs p q r s (place2 xs c)
/-- none of the first k chords is split -/
def wholeTo (xs : List Int) (p q r s : Int) (k : Nat) : Bool := (List.range k).all fun c => !splitB xs p q r s c
theorem wholeTo_zero (xs : List Int) (p q r s : Int) : wholeTo xs p q r s 0 = true := rfl
theorem wholeTo_succ (xs : List Int) (p q r s : Int) (k : Nat) : wholeTo xs p q r s (k + 1) = (wholeTo xs p q r s k && !splitB xs p q r s k) := by
  simp [wholeTo, List.range_succ]
def shareB (xs : List Int) (p q r s : Int) : Bool := wholeTo xs p q r s (xs.length / 2)
theorem shareB_no {xs : List Int} {p q r s : Int} {k : Nat} (hk : k < xs.length / 2) (h : splitB xs p q r s k = true) : shareB xs p q r s = false := by
  unfold shareB wholeTo
  rw [List.all_eq_false]
  exact ⟨k, by simpa using hk, by simp [h]⟩
/-- the code of a word and the places of arcs -/
def arcCode (xs : List Int) (p q r s : Int) : Int := if isWord xs then (if 0 ≤ p ∧ p ≤ q ∧ q ≤ r ∧ r ≤ s ∧ s ≤ xs.length then 0 else 2) else 1
theorem arcCode_cases (xs : List Int) (p q r s : Int) :
    (isWord xs = false ∧ arcCode xs p q r s = 1) ∨ (isWord xs = true ∧ ¬ (0 ≤ p ∧ p ≤ q ∧ q ≤ r ∧ r ≤ s ∧ s ≤ xs.length) ∧ arcCode xs p q r s = 2) ∨ (isWord xs = true ∧ (0 ≤ p ∧ p ≤ q ∧ q ≤ r ∧ r ≤ s ∧ s ≤ xs.length) ∧ arcCode xs p q r s = 0) := by
  unfold arcCode
  by_cases h : (0 ≤ p ∧ p ≤ q ∧ q ≤ r ∧ r ≤ s ∧ s ≤ xs.length)
  · cases isWord xs <;> simp [h]
  · cases isWord xs
    · simp
    · right; left; exact ⟨rfl, h, by rw [if_pos rfl, if_neg h]⟩
def isShare (xs : List Int) (p q r s : Int) : Bool × Int := if arcCode xs p q r s = 0 then (shareB xs p q r s, 0) else (false, arcCode xs p q r s)

/-- no two chords cross -/
def plainB (xs : List Int) : Bool := (List.range (xs.length / 2)).all fun i => (List.range (xs.length / 2)).all fun k => !crossAt xs i k
theorem plainB_no {xs : List Int} {i k : Nat} (hi : i < xs.length / 2) (hk : k < xs.length / 2) (h : crossAt xs i k = true) : plainB xs = false := by
  unfold plainB
  rw [List.all_eq_false]
  refine ⟨i, by simpa using hi, ?_⟩
  rw [Bool.not_eq_true, List.all_eq_false]
  exact ⟨k, by simpa using hk, by simp [h]⟩
theorem plainB_yes {xs : List Int} (h : ∀ i k, i < xs.length / 2 → k < xs.length / 2 → crossAt xs i k = false) : plainB xs = true := by
  unfold plainB
  simp only [List.all_eq_true, List.mem_range, Bool.not_eq_true']
  exact fun i hi k hk => h i k hi hk
/-- the chords begun and not ended before the place k -/
def openN (xs : List Int) (k : Nat) : List Nat := (List.range (xs.length / 2)).filter fun c => decide (place1 xs c < k) && decide (k ≤ place2 xs c)
def openL (xs : List Int) (k : Nat) : List Int := (openN xs k).map fun c : Nat => (c : Int)
theorem openN_mem {xs : List Int} {k c : Nat} : c ∈ openN xs k ↔ c < xs.length / 2 ∧ place1 xs c < k ∧ k ≤ place2 xs c := by
  simp [openN, and_assoc]
theorem openN_len (xs : List Int) (k : Nat) : (openN xs k).length ≤ xs.length / 2 := by
  unfold openN; have := List.length_filter_le (fun c : Nat => decide (place1 xs c < k) && decide (k ≤ place2 xs c)) (List.range (xs.length / 2)); simpa using this
theorem openL_len (xs : List Int) (k : Nat) : (openL xs k).length ≤ xs.length / 2 := by unfold openL; rw [List.length_map]; exact openN_len xs k
theorem openL_zero (xs : List Int) : openL xs 0 = [] := by simp [openL, openN]
theorem openL_mem {xs : List Int} {k c : Nat} : (c : Int) ∈ openL xs k ↔ c < xs.length / 2 ∧ place1 xs c < k ∧ k ≤ place2 xs c := by
  unfold openL
  rw [← openN_mem, List.mem_map]
  exact ⟨fun ⟨a, h, e⟩ => by obtain rfl : a = c := by omega
                             exact h, fun h => ⟨c, h, rfl⟩⟩
theorem filter_grow (c : Nat) (P Q : Nat → Bool) : ∀ m, c < m → (∀ d, d < c → P d = Q d) → (∀ d, c < d → d < m → P d = false ∧ Q d = false) → P c = false → Q c = true → (List.range m).filter Q = (List.range m).filter P ++ [c] := by
  intro m
  induction m with
  | zero => intro h; omega
  | succ m ih =>
    intro hc h1 h2 hP hQ
    rw [List.range_succ, List.filter_append, List.filter_append]
    by_cases e : c = m
    · subst e
      have hcg : (List.range c).filter Q = (List.range c).filter P := List.filter_congr (fun d hd => (h1 d (by simpa using hd)).symm)
      rw [hcg]; simp [hP, hQ]
    · have := h2 m (by omega) (by omega)
      rw [ih (by omega) h1 (fun d a b => h2 d a (by omega)) hP hQ]
      simp [this.1, this.2]
theorem openN_sorted (xs : List Int) (k : Nat) : (openN xs k).Pairwise (· < ·) := List.Pairwise.filter _ List.pairwise_lt_range
/-- a place at which a chord begins -/
theorem open_first {xs : List Int} (h : isWord xs = true) {c : Nat} (hc : c < xs.length / 2) : openL xs (place1 xs c + 1) = openL xs (place1 xs c) ++ [(c : Int)] ∧ (c : Int) ∉ openL xs (place1 xs c) := by
  have hp := place_lt (word_count h hc)
  refine ⟨?_, fun hm => by have := (openL_mem.1 hm).2.1; omega⟩
  unfold openL openN
  rw [filter_grow c (fun d => decide (place1 xs d < place1 xs c) && decide (place1 xs c ≤ place2 xs d)) _ _ hc]
  · simp
  · intro d hd
    have h1 := place_order h hd hc
    have h2 := place_ne (word_count h hc) (word_count h (show d < xs.length / 2 by omega)) (by omega)
    have e1 : decide (place1 xs d < place1 xs c) = decide (place1 xs d < place1 xs c + 1) := by rw [decide_eq_decide]; omega
    have e2 : decide (place1 xs c ≤ place2 xs d) = decide (place1 xs c + 1 ≤ place2 xs d) := by rw [decide_eq_decide]; omega
    simp only [e1, e2]
  · intro d hd hm
    have h1 := place_order h hd hm
    simp; omega
  · simp
  · simp; omega
theorem filter_other (c : Int) (L : List Int) (d : Int) (hn : (L ++ [c]).Nodup) : (L ++ [c]).filter (fun x => x != c) = L := by
  rw [List.filter_append]
  have h1 := List.nodup_append.1 hn
  have : L.filter (fun x => x != c) = L := by
    rw [List.filter_eq_self]
    intro a ha
    have := h1.2.2 a ha c (by simp)
    simpa using this
  rw [this]; simp
theorem openL_nodup (xs : List Int) (k : Nat) : (openL xs k).Nodup := by
  unfold openL
  have h1 : (openN xs k).Nodup := (openN_sorted xs k).imp (fun h => by omega)
  rw [List.Nodup, List.pairwise_map]
  exact h1.imp (fun h e => h (by omega))
theorem openL_last {xs : List Int} {k : Nat} {L : List Int} {d : Int} (e : openL xs k = L ++ [d]) : ∃ dn : Nat, d = dn ∧ dn < xs.length / 2 ∧ ∀ c : Nat, (c : Int) ∈ openL xs k → c ≤ dn := by
  have hd : d ∈ openL xs k := by rw [e]; simp
  obtain ⟨dn, hdn, rfl⟩ := List.mem_map.1 hd
  refine ⟨dn, rfl, (openN_mem.1 hdn).1, fun c hc => ?_⟩
  have hs : (openL xs k).Pairwise (· < ·) := by
    unfold openL
    rw [List.pairwise_map]
    exact (openN_sorted xs k).imp (fun h => by omega)
  rw [e] at hc hs
  rcases List.mem_append.1 hc with hc | hc
  · have := (List.pairwise_append.1 hs).2.2 _ hc dn (by simp); omega
  · simp only [List.mem_singleton] at hc; omega
theorem openL_second {xs : List Int} (h : isWord xs = true) {c : Nat} (hc : c < xs.length / 2) : openL xs (place2 xs c + 1) = (openL xs (place2 xs c)).filter (fun x => x != (c : Int)) := by
  have hp := place_lt (word_count h hc)
  unfold openL openN
  rw [List.filter_map, List.filter_filter]
  congr 1
  refine List.filter_congr (fun d hd => ?_)
  simp only [Function.comp]
  by_cases e : d = c
  · subst e; simp
  · have h2 := place_ne (word_count h hc) (word_count h (show d < xs.length / 2 by simpa using hd)) (by omega)
    have e1 : decide (place1 xs d < place2 xs c) = decide (place1 xs d < place2 xs c + 1) := by rw [decide_eq_decide]; omega
    have e2 : decide (place2 xs c ≤ place2 xs d) = decide (place2 xs c + 1 ≤ place2 xs d) := by rw [decide_eq_decide]; omega
    have e3 : ((d : Int) != (c : Int)) = true := by rw [bne_iff_ne]; omega
    rw [e1, e2, e3]; simp
/-- a place at which a chord ends: it is the last one begun, or two chords cross -/
theorem open_second {xs : List Int} (h : isWord xs = true) {c : Nat} (hc : c < xs.length / 2) :
    (c : Int) ∈ openL xs (place2 xs c) ∧
    ((∃ L, openL xs (place2 xs c) = L ++ [(c : Int)] ∧ openL xs (place2 xs c + 1) = L) ∨
     (∃ L d, openL xs (place2 xs c) = L ++ [d] ∧ d ≠ (c : Int) ∧ plainB xs = false)) := by
  have hp := place_lt (word_count h hc)
  have hm : (c : Int) ∈ openL xs (place2 xs c) := openL_mem.2 ⟨hc, hp.1, Nat.le_refl _⟩
  refine ⟨hm, ?_⟩
  have hne : openL xs (place2 xs c) ≠ [] := fun e => by rw [e] at hm; cases hm
  have hs := (List.dropLast_concat_getLast hne).symm
  obtain ⟨L, hL⟩ : ∃ L, L = (openL xs (place2 xs c)).dropLast := ⟨_, rfl⟩
  obtain ⟨d, hd⟩ : ∃ d, d = (openL xs (place2 xs c)).getLast hne := ⟨_, rfl⟩
  rw [← hL, ← hd] at hs
  by_cases e : d = (c : Int)
  · left
    refine ⟨L, by rw [hs, e], ?_⟩
    rw [openL_second h hc, hs, e]
    exact filter_other _ L d (by have := openL_nodup xs (place2 xs c); rw [hs, e] at this; exact this)
  · right
    refine ⟨L, d, hs, e, ?_⟩
    obtain ⟨dn, rfl, hdm, hmax⟩ := openL_last hs
    have hcd := hmax c hm
    have hdin : (dn : Int) ∈ openL xs (place2 xs c) := by rw [hs]; simp
    have hdo := openL_mem.1 hdin
    have hlt : c < dn := by omega
    have h2 := place_ne (word_count h hc) (word_count h hdm) (by omega)
    rcases pair_kinds h hlt hdm with ⟨a, _⟩ | ⟨a, _, b, _⟩ | ⟨a, b, _⟩
    · exact plainB_no hc hdm a
    · unfold nestB at b; simp at b; omega
    · omega
theorem crossB_turn (a b c d : Int) (h1 : a < b) (h2 : c < d) (e1 : c ≠ a) (e2 : c ≠ b) (e3 : d ≠ a) (e4 : d ≠ b) : crossB a b c d = crossB c d a b := by
  have hh : ∀ (p q r s : Bool) (h1 : p = true → r = true) (h2 : s = true → q = true) (h3 : p = false → q = true) (h4 : s = false → r = true), ((p && q) != (r && s)) = ((!p && r) != (q && !s)) := by
    intro p q r s h1 h2 h3 h4
    cases p <;> cases q <;> cases r <;> cases s <;> simp_all
  unfold crossB betw
  rw [show decide (c < a) = !decide (a < c) from by by_cases h : a < c <;> simp [h] <;> omega,
    show decide (b < d) = !decide (d < b) from by by_cases h : d < b <;> simp [h] <;> omega]
  exact hh _ _ _ _ (by simp; omega) (by simp; omega) (by simp; omega) (by simp; omega)
theorem crossAt_turn {xs : List Int} (h : isWord xs = true) {i k : Nat} (hi : i < xs.length / 2) (hk : k < xs.length / 2) : crossAt xs i k = crossAt xs k i := by
  by_cases hne : k = i
  · subst hne; rfl
  have hy := word_count h hi
  have hz := word_count h hk
  have p1 := place_lt hy
  have p2 := place_lt hz
  obtain ⟨e1, e2, e3, e4⟩ := place_ne hy hz (by omega)
  exact crossB_turn _ _ _ _ (by omega) (by omega) (by omega) (by omega) (by omega) (by omega)
/-- where each chord that ends is the last one begun, no two chords cross -/
theorem plain_end {xs : List Int} (h : isWord xs = true) (hl : ∀ c : Nat, c < xs.length / 2 → ∃ L, openL xs (place2 xs c) = L ++ [(c : Int)]) : plainB xs = true := by
  have key : ∀ i k, i < k → k < xs.length / 2 → crossAt xs i k = false := by
    intro i k hik hk
    rcases pair_kinds h hik hk with ⟨a, b, c⟩ | ⟨a, _⟩ | ⟨a, _⟩
    · exfalso
      have hi : i < xs.length / 2 := by omega
      have ho := place_order h hik hk
      have h2 := place_ne (word_count h hi) (word_count h hk) (by omega)
      unfold nestB at b; unfold apartB at c
      simp at b c
      obtain ⟨L, e⟩ := hl i hi
      obtain ⟨dn, ed, _, hmax⟩ := openL_last e
      have := hmax k (openL_mem.2 ⟨hk, by omega, by omega⟩)
      omega
    · exact a
    · exact a
  refine plainB_yes (fun i k hi hk => ?_)
  rcases Nat.lt_trichotomy i k with e | e | e
  · exact key i k e hk
  · subst e; exact crossAt_self xs i
  · rw [crossAt_turn h hi hk]; exact key k i e hi

/-- the other place of the chord at t -/
def oth (xs : List Int) (t : Nat) : Nat := place1 xs (xs.getD t 0) + place2 xs (xs.getD t 0) - t
theorem oth_int {xs : List Int} (h : isWord xs = true) {k : Nat} (hk : k < xs.length) :
    ((place1 xs (xs.getD k 0) : Int) + (place2 xs (xs.getD k 0) : Int) - (k : Int)) = (oth xs k : Int) ∧ oth xs k < xs.length := by
  have h1 := word_place_at h hk
  have h2 := place_lt (word_count_at h hk)
  unfold oth
  omega
/-- following both words from p, marking what is met, until something met -/
def mark2 (na nb : Nat → Nat) : Nat → List Bool → Nat → List Bool
  | 0, met, _ => met
  | f + 1, met, p => if met[p]?.getD false = true then met else mark2 na nb f ((met.set p true).set (na p) true) (nb (na p))
theorem mark2_stop (na nb : Nat → Nat) (f : Nat) (met : List Bool) (p : Nat) (h : met[p]?.getD false = true) : mark2 na nb f met p = met := by
  cases f with
  | zero => rfl
  | succ f => unfold mark2; rw [if_pos h]
theorem mark2_go (na nb : Nat → Nat) (f : Nat) (met : List Bool) (p : Nat) (h : met[p]?.getD false = false) : mark2 na nb (f + 1) met p = mark2 na nb f ((met.set p true).set (na p) true) (nb (na p)) := by
  rw [mark2, if_neg (by rw [h]; decide)]
theorem mark2_length (na nb : Nat → Nat) (f : Nat) (met : List Bool) (p : Nat) : (mark2 na nb f met p).length = met.length := by
  induction f generalizing met p with
  | zero => rfl
  | succ f ih => unfold mark2; split
                 · rfl
                 · rw [ih]; simp
theorem count_set_le : ∀ (met : List Bool) (p : Nat), (met.set p true).count false ≤ met.count false := by
  intro met
  induction met with
  | nil => intro p; simp
  | cons b met ih =>
    intro p
    cases p with
    | zero => cases b <;> simp
    | succ p =>
      have := ih p
      simp only [List.set_cons_succ, List.count_cons]
      omega
/-- the marks and the curves after the starts below i -/
def curvTo (na nb : Nat → Nat) (n : Nat) : Nat → List Bool × Int
  | 0 => (List.replicate n false, 0)
  | i + 1 => if (curvTo na nb n i).1[i]?.getD false = true then curvTo na nb n i else (mark2 na nb n (curvTo na nb n i).1 i, (curvTo na nb n i).2 + 1)
theorem curvTo_len (na nb : Nat → Nat) (n i : Nat) : (curvTo na nb n i).1.length = n := by
  induction i with
  | zero => simp [curvTo]
  | succ i ih =>
    unfold curvTo
    split
    · exact ih
    · simp only; rw [mark2_length]; exact ih
theorem curvTo_bd (na nb : Nat → Nat) (n i : Nat) : 0 ≤ (curvTo na nb n i).2 ∧ (curvTo na nb n i).2 ≤ i := by
  induction i with
  | zero => simp [curvTo]
  | succ i ih =>
    unfold curvTo
    split
    · omega
    · simp only; omega
theorem curvTo_yes (na nb : Nat → Nat) (n i : Nat) (h : (curvTo na nb n i).1[i]?.getD false = true) : curvTo na nb n (i + 1) = curvTo na nb n i := by rw [curvTo, if_pos h]
theorem curvTo_no (na nb : Nat → Nat) (n i : Nat) (h : (curvTo na nb n i).1[i]?.getD false = false) : curvTo na nb n (i + 1) = (mark2 na nb n (curvTo na nb n i).1 i, (curvTo na nb n i).2 + 1) := by rw [curvTo, if_neg (by rw [h]; decide)]
def curves (xs ys : List Int) : Int := (curvTo (oth xs) (oth ys) xs.length xs.length).2
theorem curves_bd (xs ys : List Int) : 0 ≤ curves xs ys ∧ curves xs ys ≤ xs.length := curvTo_bd _ _ _ _
/-- the code of two words of equally many chords -/
def pairCode (xs ys : List Int) : Int := if isWord xs && isWord ys then (if xs.length = ys.length then 0 else 2) else 1
theorem pairCode_cases (xs ys : List Int) :
    ((isWord xs && isWord ys) = false ∧ pairCode xs ys = 1) ∨ (isWord xs = true ∧ isWord ys = true ∧ xs.length ≠ ys.length ∧ pairCode xs ys = 2) ∨ (isWord xs = true ∧ isWord ys = true ∧ xs.length = ys.length ∧ pairCode xs ys = 0) := by
  unfold pairCode
  by_cases h : xs.length = ys.length
  · cases isWord xs <;> cases isWord ys <;> simp [h]
  · cases isWord xs <;> cases isWord ys <;> simp [h]
def countCurves (xs ys : List Int) : Int × Int := if pairCode xs ys = 0 then (curves xs ys, 0) else (0, pairCode xs ys)
def isMeander (xs ys : List Int) : Bool × Int := if pairCode xs ys = 0 then ((plainB xs && plainB ys) && (curves xs ys == 1), 0) else (false, pairCode xs ys)
/-- the first c chords' places have their other places -/
def othTo (xs : List Int) (n c : Nat) : List Int := (List.range n).map fun k : Nat => if xs.getD k 0 < (c : Int) then (oth xs k : Int) else 0
@[simp] theorem othTo_length (xs : List Int) (n c : Nat) : (othTo xs n c).length = n := by simp [othTo]
theorem othTo_get (xs : List Int) (n c k : Nat) (hk : k < n) : (othTo xs n c)[k]? = some (if xs.getD k 0 < (c : Int) then (oth xs k : Int) else 0) := by simp [othTo, hk]
theorem othTo_zero {xs : List Int} (h : isWord xs = true) (n : Nat) (hn : n = xs.length) : othTo xs n 0 = List.replicate n 0 := by
  apply List.ext_getElem?
  intro j
  by_cases hj : j < n
  · rw [othTo_get _ _ _ _ hj, if_neg]
    · simp [hj]
    · have : xs.getD j 0 ∈ xs := by rw [List.getD, List.getElem?_eq_getElem (by omega)]; exact List.getElem_mem _
      have := (word_lt h this).1
      omega
  · simp [othTo, hj]
theorem othTo_all {xs : List Int} (h : isWord xs = true) (n k : Nat) (hn : n = xs.length) (hk : k < n) : (othTo xs n (n / 2))[k]? = some (oth xs k : Int) := by
  rw [othTo_get _ _ _ _ hk]
  have : xs.getD k 0 ∈ xs := by rw [List.getD, List.getElem?_eq_getElem (by omega)]; exact List.getElem_mem _
  have := (word_lt h this).2
  rw [if_pos (by omega)]
theorem othTo_step {xs : List Int} (h : isWord xs = true) (n c : Nat) (hn : n = xs.length) (hc : c < n / 2) :
    ((othTo xs n c).set (place1 xs c) (place2 xs c : Int)).set (place2 xs c) (place1 xs c : Int) = othTo xs n (c + 1) := by
  have hct := word_count h (i := c) (by omega)
  have hp := place_lt hct
  have h1 := place1_at hct
  have h2 := place2_at hct
  obtain ⟨_, _, _, _, _, h6⟩ := two_places hct
  apply List.ext_getElem?
  intro j
  by_cases hj : j < n
  · rw [List.getElem?_set, List.getElem?_set, othTo_get _ _ _ _ hj, othTo_get _ _ _ _ hj]
    by_cases e2 : place2 xs c = j
    · subst e2
      rw [if_pos rfl, if_pos (by simp; omega)]
      have ex : xs.getD (place2 xs c) 0 = (c : Int) := by rw [List.getD, h2]; rfl
      rw [ex, if_pos (by omega)]
      congr 1
      unfold oth
      rw [ex]
      omega
    · rw [if_neg e2]
      by_cases e1 : place1 xs c = j
      · subst e1
        rw [if_pos rfl, if_pos (by simp; omega)]
        have ex : xs.getD (place1 xs c) 0 = (c : Int) := by rw [List.getD, h1]; rfl
        rw [ex, if_pos (by omega)]
        congr 1
        unfold oth
        rw [ex]
        omega
      · rw [if_neg e1]
        have hne : xs.getD j 0 ≠ (c : Int) := by
          intro e
          have := h6 j (by rw [List.getD, List.getElem?_eq_getElem (by omega)] at e; rw [List.getElem?_eq_getElem (by omega)]; simpa using e)
          omega
        by_cases hl : xs.getD j 0 < (c : Int)
        · rw [if_pos hl, if_pos (by omega)]
        · rw [if_neg hl, if_neg (by omega)]
  · rw [List.getElem?_eq_none (by simp; omega), List.getElem?_eq_none (by simp; omega)]

/-- polygon numbers -/
def ePoly : Nat → Int → Int
  | 0, g => if g = 0 then 1 else 0
  | 1, g => if g = 0 then 1 else 0
  | n + 2, g => if g < 0 then 0 else (2 * (2 * ((n : Int) + 2) - 1) * ePoly (n + 1) g + (2 * ((n : Int) + 2) - 1) * ((n : Int) + 1) * (2 * ((n : Int) + 2) - 3) * ePoly n (g - 1)) / ((n : Int) + 3)
theorem ePoly_neg (n : Nat) (g : Int) (h : g < 0) : ePoly n g = 0 := by
  match n with
  | 0 => rw [ePoly, if_neg (by omega)]
  | 1 => rw [ePoly, if_neg (by omega)]
  | n + 2 => rw [ePoly, if_pos h]
theorem ePoly_high : ∀ (n : Nat) (g : Int), (n : Int) < 2 * g → ePoly n g = 0
  | 0, g, h => by rw [ePoly, if_neg (by omega)]
  | 1, g, h => by rw [ePoly, if_neg (by omega)]
  | n + 2, g, h => by
    rw [ePoly, if_neg (by omega), ePoly_high (n + 1) g (by omega), ePoly_high n (g - 1) (by omega)]; simp
theorem ePoly_bd (n : Nat) (hn : n ≤ 12) (g : Int) : 0 ≤ ePoly n g ∧ ePoly n g ≤ 316234143225 := by
  by_cases h0 : g < 0
  · rw [ePoly_neg n g h0]; omega
  by_cases h1 : (n : Int) < 2 * g
  · rw [ePoly_high n g h1]; omega
  obtain ⟨k, rfl⟩ := Int.eq_ofNat_of_zero_le (show 0 ≤ g by omega)
  have key : ∀ a : Fin 13, ∀ b : Fin 7, 0 ≤ ePoly a.val (b.val : Int) ∧ ePoly a.val (b.val : Int) ≤ 316234143225 := by decide +kernel
  exact key ⟨n, by omega⟩ ⟨k, by omega⟩
/-- the same, with whole numbers for n -/
def iPoly (n g : Int) : Int := if n < 0 then 0 else ePoly n.toNat g
theorem iPoly_bd (n g : Int) (hn : n ≤ 12) : 0 ≤ iPoly n g ∧ iPoly n g ≤ 316234143225 := by
  unfold iPoly
  split
  · omega
  · exact ePoly_bd _ (by omega) _
theorem iPoly_cut (n g : Int) (h : g < 0 ∨ n < 2 * g) : iPoly n g = 0 := by
  unfold iPoly
  split
  · rfl
  · rcases h with h | h
    · exact ePoly_neg _ _ h
    · exact ePoly_high _ _ (by omega)
theorem iPoly_zero : iPoly 0 0 = 1 := by decide
theorem iPoly_step (n g : Int) (hn : 1 ≤ n) (hg : 0 ≤ g) : iPoly n g = (2 * (2 * n - 1) * iPoly (n - 1) g + (2 * n - 1) * (n - 1) * (2 * n - 3) * iPoly (n - 2) (g - 1)) / (n + 1) := by
  obtain ⟨k, rfl⟩ : ∃ k : Nat, n = k + 1 := ⟨(n - 1).toNat, by omega⟩
  unfold iPoly
  rw [if_neg (by omega), if_neg (by omega)]
  rcases k with _ | k
  · rw [show (((0 : Nat) : Int) + 1).toNat = 1 from rfl, show ((((0 : Nat) : Int) + 1) - 1).toNat = 0 from rfl, ePoly, ePoly]
    split <;> simp
  · rw [if_neg (by omega), show (((k + 1 : Nat) : Int) + 1).toNat = k + 2 from by omega, show ((((k + 1 : Nat) : Int) + 1) - 1).toNat = k + 1 from by omega, show ((((k + 1 : Nat) : Int) + 1) - 2).toNat = k from by omega, ePoly, if_neg (by omega)]
    rw [show (((k + 1 : Nat) : Int) + 1) = (k : Int) + 2 from by omega, show (k : Int) + 2 - 1 = (k : Int) + 1 from by omega, show (k : Int) + 2 + 1 = (k : Int) + 3 from by omega]
def polyList (n : Int) : List Int := (List.range ((n / 2).toNat + 1)).map fun g : Nat => iPoly n g
def polyNumbers (n : Int) : List Int × Int := if 0 ≤ n ∧ n ≤ 12 then (polyList n, 0) else ([], 2)

/-- the numbers from a on, below b -/
def rng (a b : Nat) : List Nat := List.range' a (b - a)
theorem rng_none (a : Nat) : rng a a = [] := by simp [rng]
theorem rng_over (a b : Nat) (h : b ≤ a) : rng a b = [] := by simp [rng, show b - a = 0 from by omega]
theorem rng_succ (a b : Nat) (h : a ≤ b) : rng a (b + 1) = rng a b ++ [b] := by
  unfold rng
  rw [show b + 1 - a = (b - a) + 1 from by omega, List.range'_concat]
  simp; omega
theorem rng_len (a b : Nat) : (rng a b).length = b - a := by simp [rng]
abbrev Four := Nat → Nat → Nat → Nat → Bool
def row4 (p q r s : Nat) : List Int := [(p : Int), q, r, s]
/-- the arcs that P tells: with s below t, with r below t, with q below t, with p below t -/
def lS (P : Four) (p q r t : Nat) : List (List Int) := ((rng (r + 1) t).filter (P p q r)).map (row4 p q r)
def lR (P : Four) (m p q t : Nat) : List (List Int) := (rng q t).flatMap fun r => lS P p q r (m + 1)
def lQ (P : Four) (m p t : Nat) : List (List Int) := (rng (p + 1) t).flatMap fun q => lR P m p q m
def lP (P : Four) (m t : Nat) : List (List Int) := (rng 0 t).flatMap fun p => lQ P m p m
theorem lS_none (P : Four) (p q r : Nat) : lS P p q r (r + 1) = [] := by simp [lS, rng_none]
theorem lR_none (P : Four) (m p q : Nat) : lR P m p q q = [] := by simp [lR, rng_none]
theorem lQ_none (P : Four) (m p : Nat) : lQ P m p (p + 1) = [] := by simp [lQ, rng_none]
theorem lP_none (P : Four) (m : Nat) : lP P m 0 = [] := by simp [lP, rng_none]
theorem lS_yes (P : Four) (p q r t : Nat) (h : r + 1 ≤ t) (hp : P p q r t = true) : lS P p q r (t + 1) = lS P p q r t ++ [row4 p q r t] := by
  unfold lS; rw [rng_succ _ _ h, List.filter_append, List.map_append]; simp [hp]
theorem lS_no (P : Four) (p q r t : Nat) (h : r + 1 ≤ t) (hp : P p q r t = false) : lS P p q r (t + 1) = lS P p q r t := by
  unfold lS; rw [rng_succ _ _ h, List.filter_append, List.map_append]; simp [hp]
theorem lR_succ (P : Four) (m p q t : Nat) (h : q ≤ t) : lR P m p q (t + 1) = lR P m p q t ++ lS P p q t (m + 1) := by
  unfold lR; rw [rng_succ _ _ h, List.flatMap_append]; simp
theorem lQ_succ (P : Four) (m p t : Nat) (h : p + 1 ≤ t) : lQ P m p (t + 1) = lQ P m p t ++ lR P m p t m := by
  unfold lQ; rw [rng_succ _ _ h, List.flatMap_append]; simp
theorem lP_succ (P : Four) (m t : Nat) : lP P m (t + 1) = lP P m t ++ lQ P m t m := by
  unfold lP; rw [rng_succ _ _ (by omega), List.flatMap_append]; simp
/-- with q up to m there is none more -/
theorem lQ_more (P : Four) (m p : Nat) (h : p < m) : lQ P m p (m + 1) = lQ P m p m := by
  rw [lQ_succ P m p m h, lR_none]; simp
theorem lS_filter (P : Four) (f : List Int → Bool) (p q r t : Nat) : (lS P p q r t).filter f = lS (fun p q r s => f (row4 p q r s) && P p q r s) p q r t := by
  unfold lS; rw [List.filter_map, List.filter_filter]; rfl
theorem filter_flat {α β : Type} (f : β → Bool) (g : α → List β) (l : List α) : (l.flatMap g).filter f = l.flatMap fun a => (g a).filter f := by
  induction l with
  | nil => rfl
  | cons a l ih => simp [ih]
theorem lP_filter (P : Four) (f : List Int → Bool) (m t : Nat) : (lP P m t).filter f = lP (fun p q r s => f (row4 p q r s) && P p q r s) m t := by
  unfold lP; rw [filter_flat]; congr 1; funext p
  unfold lQ; rw [filter_flat]; congr 1; funext q
  unfold lR; rw [filter_flat]; congr 1; funext r
  exact lS_filter P f p q r _
theorem flat_len {α β : Type} (g : α → List β) (c : Nat) : ∀ (l : List α), (∀ a ∈ l, (g a).length ≤ c) → (l.flatMap g).length ≤ l.length * c := by
  intro l
  induction l with
  | nil => intro _; simp
  | cons a l ih =>
    intro h
    have h1 := h a (by simp)
    have h2 := ih (fun b hb => h b (by simp [hb]))
    simp only [List.flatMap_cons, List.length_append, List.length_cons, Nat.add_mul, Nat.one_mul]; omega
theorem lS_len (P : Four) (p q r t : Nat) : (lS P p q r t).length ≤ t := by
  unfold lS; rw [List.length_map]
  have := List.length_filter_le (P p q r) (rng (r + 1) t)
  rw [rng_len] at this; omega
theorem lR_len (P : Four) (m p q t : Nat) : (lR P m p q t).length ≤ t * (m + 1) := by
  refine Nat.le_trans (flat_len _ (m + 1) _ (fun r _ => lS_len P p q r (m + 1))) (Nat.mul_le_mul_right _ ?_)
  rw [rng_len]; omega
theorem lQ_len (P : Four) (m p t : Nat) : (lQ P m p t).length ≤ t * (m * (m + 1)) := by
  refine Nat.le_trans (flat_len _ (m * (m + 1)) _ (fun q _ => lR_len P m p q m)) (Nat.mul_le_mul_right _ ?_)
  rw [rng_len]; omega
theorem lP_len (P : Four) (m t : Nat) : (lP P m t).length ≤ t * (m * (m * (m + 1))) := by
  refine Nat.le_trans (flat_len _ (m * (m * (m + 1))) _ (fun p _ => lQ_len P m p m)) (Nat.mul_le_mul_right _ ?_)
  rw [rng_len]; omega
theorem lP_rows (P : Four) (m t : Nat) : ∀ r ∈ lP P m t, r.length = 4 := by
  intro row hr
  simp only [lP, lQ, lR, lS, List.mem_flatMap, List.mem_map] at hr
  obtain ⟨p, _, q, _, r, _, s, _, rfl⟩ := hr
  rfl
/-- the arcs that have places, but not all · the shares of a word -/
def filledF (m : Nat) : Four := fun p q r s => decide (q - p + (s - r) < m)
def filled (m : Nat) : List (List Int) := lP (filledF m) m m
def shareRow (xs : List Int) (row : List Int) : Bool := shareB xs (row[0]?.getD 0) (row[1]?.getD 0) (row[2]?.getD 0) (row[3]?.getD 0)
def shareF (xs : List Int) : Four := fun p q r s => shareB xs p q r s && filledF xs.length p q r s
def shares (xs : List Int) : List (List Int) := lP (shareF xs) xs.length xs.length
theorem shares_filled (xs : List Int) : (filled xs.length).filter (shareRow xs) = shares xs := by
  unfold filled shares; rw [lP_filter]; rfl
end Go.Proofs.Ytacfiljclklkdaa
