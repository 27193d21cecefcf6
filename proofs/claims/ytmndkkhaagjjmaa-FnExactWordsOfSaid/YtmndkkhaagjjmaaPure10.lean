/- Plain facts on the parts of a word's chords. -/
import Derived.Test.YtmndkkhaagjjmaaPure5
import Derived.Test.YtmndkkhaagjjmaaSort
namespace Go.Proofs.Ytmndkkhaagjjmaa
set_option linter.unusedVariables false
set_option linter.unusedSimpArgs false
set_option maxRecDepth 100000

theorem cross_bool (p q r s : Bool) (h1 : p = true → r = true) (h2 : s = true → q = true) (h3 : p = false → q = true) (h4 : s = false → r = true) :
    ((p && q) != (r && s)) = ((!p && r) != (q && !s)) := by
  cases p <;> cases q <;> cases r <;> cases s <;> simp_all
theorem crossB_symm (a b c d : Int) (h1 : a < b) (h2 : c < d) (e1 : c ≠ a) (e2 : c ≠ b) (e3 : d ≠ a) (e4 : d ≠ b) : crossB a b c d = crossB c d a b := by
  unfold crossB betw
  rw [show decide (c < a) = !decide (a < c) from by by_cases h : a < c <;> simp [h] <;> omega,
    show decide (b < d) = !decide (d < b) from by by_cases h : d < b <;> simp [h] <;> omega]
  exact cross_bool _ _ _ _ (by simp; omega) (by simp; omega) (by simp; omega) (by simp; omega)
theorem crossAt_symm {xs : List Int} (h : isWord xs = true) {i k : Nat} (hi : i < xs.length / 2) (hk : k < xs.length / 2) : crossAt xs i k = crossAt xs k i := by
  by_cases hne : k = i
  · subst hne; rfl
  have hy := word_count h hi
  have hz := word_count h hk
  have p1 := place_lt hy
  have p2 := place_lt hz
  obtain ⟨e1, e2, e3, e4⟩ := place_ne hy hz (by omega)
  exact crossB_symm _ _ _ _ (by omega) (by omega) (by omega) (by omega) (by omega) (by omega)

/-- the chords a and b cross -/
def Edge (xs : List Int) (a b : Nat) : Prop := a < xs.length / 2 ∧ b < xs.length / 2 ∧ crossAt xs a b = true
theorem Edge.symm {xs : List Int} (h : isWord xs = true) {a b : Nat} (e : Edge xs a b) : Edge xs b a := ⟨e.2.1, e.1, by rw [crossAt_symm h e.2.1 e.1]; exact e.2.2⟩
inductive Reach (xs : List Int) (i : Nat) : Nat → Prop
  | self : Reach xs i i
  | step {a b : Nat} : Reach xs i a → Edge xs a b → Reach xs i b
theorem Reach.trans {xs : List Int} {i j k : Nat} (h : Reach xs i j) (h2 : Reach xs j k) : Reach xs i k := by
  induction h2 with
  | self => exact h
  | step _ e ih => exact .step ih e
theorem Reach.symm {xs : List Int} (hw : isWord xs = true) {i j : Nat} (h : Reach xs i j) : Reach xs j i := by
  induction h with
  | self => exact .self
  | step _ e ih => exact Reach.trans (.step .self (e.symm hw)) ih
theorem Reach.lt {xs : List Int} {i j : Nat} (h : Reach xs i j) (hi : i < xs.length / 2) : j < xs.length / 2 := by
  cases h with
  | self => exact hi
  | step _ e => exact e.2.1

open Classical in
noncomputable def inC (xs : List Int) (i b : Nat) : Bool := decide (Reach xs i b)
theorem inC_iff (xs : List Int) (i b : Nat) : inC xs i b = true ↔ Reach xs i b := by unfold inC; simp
noncomputable def compB (xs : List Int) (i : Nat) : List Bool := (List.range (xs.length / 2)).map (inC xs i)
noncomputable def compL (xs : List Int) (i : Nat) : List Int := ((List.range (xs.length / 2)).filter (inC xs i)).map fun a : Nat => (a : Int)
noncomputable def seenB (xs : List Int) (k b : Nat) : Bool := (List.range k).any fun i => inC xs i b
noncomputable def seenL (xs : List Int) (k : Nat) : List Bool := (List.range (xs.length / 2)).map (seenB xs k)
noncomputable def partsTo (xs : List Int) : Nat → List (List Int)
  | 0 => []
  | k + 1 => if seenB xs k k = true then partsTo xs k else partsTo xs k ++ [compL xs k]
noncomputable def parts (xs : List Int) : List (List Int) := partsTo xs (xs.length / 2)
@[simp] theorem compB_length (xs : List Int) (i : Nat) : (compB xs i).length = xs.length / 2 := by simp [compB]
@[simp] theorem seenL_length (xs : List Int) (k : Nat) : (seenL xs k).length = xs.length / 2 := by simp [seenL]
theorem seenL_get (xs : List Int) (k b : Nat) (h : b < xs.length / 2) : (seenL xs k)[b]? = some (seenB xs k b) := by simp [seenL, h]
theorem compB_get (xs : List Int) (k b : Nat) (h : b < xs.length / 2) : (compB xs k)[b]? = some (inC xs k b) := by simp [compB, h]
theorem seenB_iff (xs : List Int) (k b : Nat) : seenB xs k b = true ↔ ∃ i, i < k ∧ Reach xs i b := by
  unfold seenB; simp [List.any_eq_true, inC_iff]
theorem seenB_succ (xs : List Int) (k b : Nat) : seenB xs (k + 1) b = (seenB xs k b || inC xs k b) := by
  unfold seenB; rw [List.range_succ, List.any_append]; simp
theorem seenL_zero (xs : List Int) : seenL xs 0 = List.replicate (xs.length / 2) false := by
  apply List.ext_getElem?
  intro j
  by_cases hj : j < xs.length / 2
  · rw [seenL_get xs 0 j hj, List.getElem?_replicate, if_pos hj]; rfl
  · rw [List.getElem?_eq_none (by simp; omega), List.getElem?_eq_none (by simp; omega)]
theorem seen_same (xs : List Int) (k : Nat) (h : seenB xs k k = true) : seenL xs (k + 1) = seenL xs k := by
  unfold seenL
  apply List.map_congr_left
  intro b _
  rw [seenB_succ]
  rcases hc : inC xs k b with _ | _
  · simp
  · obtain ⟨i, hi, hr⟩ := (seenB_iff xs k k).1 h
    have := (seenB_iff xs k b).2 ⟨i, hi, hr.trans ((inC_iff _ _ _).1 hc)⟩
    simp [this]
theorem seen_apart {xs : List Int} (hw : isWord xs = true) (k b : Nat) (h : seenB xs k k = false) (hr : Reach xs k b) : seenB xs k b = false := by
  rw [← Bool.not_eq_true]
  intro e
  obtain ⟨i, hi, hi2⟩ := (seenB_iff xs k b).1 e
  have := (seenB_iff xs k k).2 ⟨i, hi, hi2.trans (hr.symm hw)⟩
  rw [h] at this; cases this
theorem partsTo_yes (xs : List Int) (k : Nat) (h : seenB xs k k = true) : partsTo xs (k + 1) = partsTo xs k := by rw [partsTo, if_pos h]
theorem partsTo_no (xs : List Int) (k : Nat) (h : seenB xs k k = false) : partsTo xs (k + 1) = partsTo xs k ++ [compL xs k] := by rw [partsTo, if_neg (by rw [h]; simp)]
theorem partsTo_len (xs : List Int) (k : Nat) : (partsTo xs k).length ≤ k := by
  induction k with
  | zero => simp [partsTo]
  | succ k ih =>
    rcases h : seenB xs k k with _ | _
    · rw [partsTo_no xs k h]; simp; exact ih
    · rw [partsTo_yes xs k h]; omega
theorem compL_len (xs : List Int) (i : Nat) : (compL xs i).length ≤ xs.length / 2 := by
  unfold compL
  rw [List.length_map]
  have := List.length_filter_le (inC xs i) (List.range (xs.length / 2))
  simpa using this
theorem partsTo_row (xs : List Int) (k : Nat) : ∀ r ∈ partsTo xs k, r.length ≤ xs.length / 2 := by
  induction k with
  | zero => intro r hr; cases hr
  | succ k ih =>
    rcases h : seenB xs k k with _ | _
    · rw [partsTo_no xs k h]
      intro r hr
      rcases List.mem_append.1 hr with h1 | h1
      · exact ih r h1
      · simp only [List.mem_singleton] at h1; subst h1; exact compL_len xs k
    · rw [partsTo_yes xs k h]; exact ih

/-- marks of what is reached from i, so far -/
structure Sound (xs : List Int) (i : Nat) (own : List Bool) : Prop where
  len : own.length = xs.length / 2
  first : own[i]? = some true
  sound : ∀ b : Nat, own[b]? = some true → Reach xs i b
/-- what is marked below a has its neighbours marked -/
def Shut (xs : List Int) (own : List Bool) (a : Nat) : Prop := ∀ a' b, a' < a → own[a']? = some true → Edge xs a' b → own[b]? = some true
def ShutR (xs : List Int) (own : List Bool) (a q : Nat) : Prop := ∀ b, b < q → own[a]? = some true → Edge xs a b → own[b]? = some true
theorem Sound.start (xs : List Int) (i : Nat) (h : i < xs.length / 2) : Sound xs i ((List.replicate (xs.length / 2) false).set i true) := by
  refine ⟨by simp, by rw [List.getElem?_set_self (by simp; exact h)], fun b hb => ?_⟩
  by_cases e : i = b
  · subst e; exact .self
  · rw [List.getElem?_set_ne e, List.getElem?_replicate] at hb
    split at hb <;> simp at hb
theorem Sound.mark {xs : List Int} {i a q : Nat} {own : List Bool} (h : Sound xs i own) (ha : own[a]? = some true) (he : Edge xs a q) : Sound xs i (own.set q true) := by
  refine ⟨by rw [List.length_set]; exact h.len, ?_, fun b hb => ?_⟩
  · by_cases e : q = i
    · subst e; rw [List.getElem?_set_self (by rw [h.len]; exact he.2.1)]
    · rw [List.getElem?_set_ne e]; exact h.first
  · by_cases e : q = b
    · subst e; exact .step (h.sound a ha) he
    · rw [List.getElem?_set_ne e] at hb; exact h.sound b hb
theorem Sound.done {xs : List Int} {i : Nat} {own : List Bool} (h : Sound xs i own) (hs : Shut xs own (xs.length / 2)) : own = compB xs i := by
  have hR : ∀ b, Reach xs i b → own[b]? = some true := by
    intro b hb
    induction hb with
    | self => exact h.first
    | step _ e ih => exact hs _ _ e.1 ih e
  apply List.ext_getElem?
  intro j
  by_cases hj : j < xs.length / 2
  · rw [compB_get xs i j hj]
    rcases hc : inC xs i j with _ | _
    · rcases ho : own[j]? with _ | b
      · rw [List.getElem?_eq_none_iff, h.len] at ho; omega
      · cases b with
        | false => rfl
        | true => have := (inC_iff xs i j).2 (h.sound j ho); rw [hc] at this; cases this
    · exact hR j ((inC_iff _ _ _).1 hc)
  · rw [List.getElem?_eq_none (by rw [h.len]; omega), List.getElem?_eq_none (by simp; omega)]
theorem Shut.row {xs : List Int} {own : List Bool} {a : Nat} (h : Shut xs own a) (hr : ShutR xs own a (xs.length / 2)) : Shut xs own (a + 1) := fun a' b h1 h2 h3 => by
  by_cases e : a' = a
  · subst e; exact hr b h3.2.1 h2 h3
  · exact h a' b (by omega) h2 h3
theorem Shut.row0 {xs : List Int} {own : List Bool} {a : Nat} (h : Shut xs own a) (hr : own[a]? = some false) : Shut xs own (a + 1) := fun a' b h1 h2 h3 => by
  by_cases e : a' = a
  · subst e; rw [hr] at h2; simp at h2
  · exact h a' b (by omega) h2 h3
theorem ShutR.next {xs : List Int} {own : List Bool} {a q : Nat} (h : ShutR xs own a q) (hq : crossAt xs a q = true → own[q]? = some true) : ShutR xs own a (q + 1) := fun b h1 h2 h3 => by
  by_cases e : b = q
  · subst e; exact hq h3.2.2
  · exact h b (by omega) h2 h3

/-- the part in the making: the chords below a that are reached; the marks with it -/
noncomputable def compTo (xs : List Int) (i a : Nat) : List Int := ((List.range a).filter (inC xs i)).map fun a : Nat => (a : Int)
noncomputable def seenTo (xs : List Int) (k a : Nat) : List Bool := (List.range (xs.length / 2)).map fun b => seenB xs k b || (decide (b < a) && inC xs k b)
@[simp] theorem seenTo_length (xs : List Int) (k a : Nat) : (seenTo xs k a).length = xs.length / 2 := by simp [seenTo]
theorem seenTo_zero (xs : List Int) (k : Nat) : seenTo xs k 0 = seenL xs k := by unfold seenTo seenL; simp
theorem seenTo_end (xs : List Int) (k : Nat) : seenTo xs k (xs.length / 2) = seenL xs (k + 1) := by
  unfold seenTo seenL
  apply List.map_congr_left
  intro b hb
  rw [seenB_succ]
  simp [List.mem_range.1 hb]
theorem seenTo_yes (xs : List Int) (k a : Nat) (ha : a < xs.length / 2) (h : inC xs k a = true) : (seenTo xs k a).set a true = seenTo xs k (a + 1) := by
  apply List.ext_getElem?
  intro j
  by_cases hj : j < xs.length / 2
  · by_cases e : a = j
    · subst e
      rw [List.getElem?_set_self (by simp; exact ha)]
      simp [seenTo, hj, h]
    · rw [List.getElem?_set_ne e]
      simp only [seenTo, List.getElem?_map, List.getElem?_range hj, Option.map_some]
      congr 3
      rw [decide_eq_decide]; omega
  · rw [List.getElem?_eq_none (by simp; omega), List.getElem?_eq_none (by simp; omega)]
theorem seenTo_no (xs : List Int) (k a : Nat) (h : inC xs k a = false) : seenTo xs k a = seenTo xs k (a + 1) := by
  unfold seenTo
  apply List.map_congr_left
  intro b _
  by_cases e : b = a
  · subst e; simp [h]
  · congr 2
    rw [decide_eq_decide]; omega
theorem compTo_yes (xs : List Int) (k a : Nat) (h : inC xs k a = true) : compTo xs k (a + 1) = compTo xs k a ++ [(a : Int)] := by
  unfold compTo; rw [List.range_succ, List.filter_append, List.map_append]; simp [h]
theorem compTo_no (xs : List Int) (k a : Nat) (h : inC xs k a = false) : compTo xs k (a + 1) = compTo xs k a := by
  unfold compTo; rw [List.range_succ, List.filter_append, List.map_append]; simp [h]
theorem compTo_len (xs : List Int) (k a : Nat) : (compTo xs k a).length ≤ a := by
  unfold compTo
  rw [List.length_map]
  have := List.length_filter_le (inC xs k) (List.range a)
  simpa using this

/-- the search's own state: what is seen before, what is listed -/
def asN (ns : List Nat) : List Int := ns.map fun a : Nat => (a : Int)
structure Found (xs : List Int) (k : Nat) (met : List Bool) (ns : List Nat) : Prop where
  len : met.length = xs.length / 2
  nodup : ns.Nodup
  sound : ∀ b ∈ ns, Reach xs k b
  first : k ∈ ns
  met_ : ∀ b, b < xs.length / 2 → met[b]? = some (seenB xs k b || decide (b ∈ ns))
def Near (xs : List Int) (ns : List Nat) (a : Nat) : Prop := ∀ j b, j < a → ∀ c, ns[j]? = some c → Edge xs c b → b ∈ ns
def NearR (xs : List Int) (ns : List Nat) (c q : Nat) : Prop := ∀ b, b < q → Edge xs c b → b ∈ ns
theorem Found.start {xs : List Int} {k : Nat} (h : k < xs.length / 2) : Found xs k ((seenL xs k).set k true) [k] := by
  refine ⟨by simp, by simp, fun b hb => ?_, by simp, fun b hb => ?_⟩
  · simp only [List.mem_singleton] at hb; subst hb; exact .self
  · by_cases e : k = b
    · subst e; rw [List.getElem?_set_self (by simp; exact hb)]; simp
    · rw [List.getElem?_set_ne e, seenL_get xs k b hb]; simp; intro e2; exact absurd e2.symm e
theorem Found.add {xs : List Int} {k c q : Nat} {met : List Bool} {ns : List Nat} (h : Found xs k met ns) (hc : c ∈ ns) (he : Edge xs c q) (hn : met[q]? = some false) : Found xs k (met.set q true) (ns ++ [q]) := by
  have hq : q ∉ ns := fun e => by
    have := h.met_ q he.2.1
    rw [hn] at this
    simp [e] at this
  refine ⟨by rw [List.length_set]; exact h.len, ?_, fun b hb => ?_, by simp [h.first], fun b hb => ?_⟩
  · rw [List.nodup_append]
    refine ⟨h.nodup, by simp, fun a ha b hb e => ?_⟩
    simp only [List.mem_singleton] at hb
    subst hb; subst e; exact hq ha
  · rcases List.mem_append.1 hb with h1 | h1
    · exact h.sound b h1
    · simp only [List.mem_singleton] at h1; subst h1; exact .step (h.sound c hc) he
  · by_cases e : q = b
    · subst e; rw [List.getElem?_set_self (by rw [h.len]; exact hb)]; simp
    · rw [List.getElem?_set_ne e, h.met_ b hb]
      have : (b ∈ ns ++ [q]) ↔ b ∈ ns := by simp; intro e2; exact absurd e2.symm e
      simp [this]
theorem Near.grow {xs : List Int} {ns : List Nat} {a : Nat} (h : Near xs ns a) (ha : a ≤ ns.length) (q : Nat) : Near xs (ns ++ [q]) a := fun j b hj c hc he => by
  rw [List.getElem?_append_left (by omega)] at hc
  exact List.mem_append_left _ (h j b hj c hc he)
theorem NearR.grow {xs : List Int} {ns : List Nat} {c q : Nat} (h : NearR xs ns c q) : NearR xs (ns ++ [q]) c (q + 1) := fun b hb he => by
  by_cases e : b = q
  · subst e; simp
  · exact List.mem_append_left _ (h b (by omega) he)
theorem NearR.next {xs : List Int} {ns : List Nat} {c q : Nat} (h : NearR xs ns c q) (hq : crossAt xs c q = true → q ∈ ns) : NearR xs ns c (q + 1) := fun b hb he => by
  by_cases e : b = q
  · subst e; exact hq he.2.2
  · exact h b (by omega) he
theorem Near.next {xs : List Int} {ns : List Nat} {a c : Nat} (h : Near xs ns a) (hc : ns[a]? = some c) (hr : NearR xs ns c (xs.length / 2)) : Near xs ns (a + 1) := fun j b hj c' hc' he => by
  by_cases e : j = a
  · subst e; rw [hc] at hc'; injection hc' with hc'; subst hc'; exact hr b he.2.1 he
  · exact h j b (by omega) c' hc' he
theorem Found.lt {xs : List Int} {k : Nat} {met : List Bool} {ns : List Nat} (h : Found xs k met ns) (hk : k < xs.length / 2) : ∀ b ∈ ns, b < xs.length / 2 := fun b hb => (h.sound b hb).lt hk
theorem Found.few {xs : List Int} {k : Nat} {met : List Bool} {ns : List Nat} (h : Found xs k met ns) (hk : k < xs.length / 2) : ns.length ≤ xs.length / 2 := by
  have hp : ns.Perm ((List.range (xs.length / 2)).filter fun b => decide (b ∈ ns)) := by
    rw [List.perm_ext_iff_of_nodup h.nodup (List.nodup_range.filter _)]
    intro b
    rw [List.mem_filter, List.mem_range, decide_eq_true_eq]
    exact ⟨fun hb => ⟨h.lt hk b hb, hb⟩, fun hb => hb.2⟩
  have h1 := List.length_filter_le (fun b => decide (b ∈ ns)) (List.range (xs.length / 2))
  rw [hp.length_eq]
  simpa using h1
theorem Found.all {xs : List Int} {k : Nat} {met : List Bool} {ns : List Nat} (h : Found xs k met ns) (hn : Near xs ns ns.length) : ∀ b, Reach xs k b → b ∈ ns := by
  intro b hb
  induction hb with
  | self => exact h.first
  | step _ e ih =>
    obtain ⟨j, hj, hj2⟩ := List.getElem_of_mem ih
    exact hn j _ hj _ (by rw [List.getElem?_eq_getElem hj, hj2]) e
theorem Found.sorted {xs : List Int} {k : Nat} {met : List Bool} {ns : List Nat} (h : Found xs k met ns) (hk : k < xs.length / 2) (hn : Near xs ns ns.length) : sortedOf (asN ns) = compL xs k := by
  have hp : ns.Perm ((List.range (xs.length / 2)).filter (inC xs k)) := by
    rw [List.perm_ext_iff_of_nodup h.nodup (List.nodup_range.filter _)]
    intro b
    rw [List.mem_filter, List.mem_range, inC_iff]
    exact ⟨fun hb => ⟨h.lt hk b hb, h.sound b hb⟩, fun hb => h.all hn b hb.2⟩
  obtain ⟨s1, s2⟩ := sortedOf_is (asN ns)
  have hp2 : (asN ns).Perm (compL xs k) := hp.map _
  refine List.Perm.eq_of_pairwise (le := fun x y : Int => x ≤ y) (fun a b _ _ h1 h2 => by omega) s2 ?_ (s1.trans hp2)
  unfold compL
  rw [List.pairwise_map]
  refine List.Pairwise.imp (R := fun a b : Nat => a < b) (fun {a b} hab => by omega) ?_
  exact List.Pairwise.filter _ List.pairwise_lt_range
theorem Found.marks {xs : List Int} {k : Nat} {met : List Bool} {ns : List Nat} (h : Found xs k met ns) (hn : Near xs ns ns.length) : met = seenL xs (k + 1) := by
  apply List.ext_getElem?
  intro j
  by_cases hj : j < xs.length / 2
  · rw [h.met_ j hj, seenL_get xs _ j hj, seenB_succ]
    congr 2
    rcases hc : inC xs k j with _ | _
    · simp only [decide_eq_false_iff_not]
      intro e
      have := (inC_iff xs k j).2 (h.sound j e)
      rw [hc] at this; cases this
    · simp only [decide_eq_true_eq]
      exact h.all hn j ((inC_iff _ _ _).1 hc)
  · rw [List.getElem?_eq_none (by rw [h.len]; omega), List.getElem?_eq_none (by simp; omega)]
end Go.Proofs.Ytmndkkhaagjjmaa
