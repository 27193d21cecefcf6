/- Plain facts on webs: items that meet, parts by leaders and parts by edges. -/
import Derived.Test.YthpddknpiiiccaaDoorWebRow
namespace Go.Proofs.YthpddknpiiiccaaDoor
set_option linter.unusedVariables false
set_option linter.unusedSimpArgs false

/-- the edges of a leg or of a fork -/
def edgesOf (xs : List Int) (rs : List (List Int)) (i : Nat) : List Int := if i < xs.length then [xs[i]?.getD 0] else rAt rs (i - xs.length)
def meets (a b : List Int) : Bool := a.any fun x => b.contains x
theorem meets_iff {a b : List Int} : meets a b = true ↔ ∃ x, x ∈ a ∧ x ∈ b := by simp [meets]
theorem meets_symm {a b : List Int} (h : meets a b = true) : meets b a = true := by
  obtain ⟨x, h1, h2⟩ := meets_iff.1 h
  exact meets_iff.2 ⟨x, h2, h1⟩
def items (xs : List Int) (rs : List (List Int)) : Nat := xs.length + rs.length
/-- items joined by a chain of common edges -/
inductive Con (xs : List Int) (rs : List (List Int)) (i : Nat) : Nat → Prop
  | base : Con xs rs i i
  | step {j k : Nat} : Con xs rs i j → j < items xs rs → k < items xs rs → meets (edgesOf xs rs j) (edgesOf xs rs k) = true → Con xs rs i k
theorem Con.trans {xs : List Int} {rs : List (List Int)} {i j k : Nat} (h : Con xs rs i j) (h2 : Con xs rs j k) : Con xs rs i k := by
  induction h2 with
  | base => exact h
  | step _ h3 h4 h5 ih => exact .step ih h3 h4 h5
theorem Con.symm {xs : List Int} {rs : List (List Int)} {i j : Nat} (h : Con xs rs i j) : Con xs rs j i := by
  induction h with
  | base => exact .base
  | step _ h3 h4 h5 ih => exact (Con.step .base h4 h3 (meets_symm h5)).trans ih
/-- every item is joined with a leg -/
def Linked (xs : List Int) (rs : List (List Int)) : Prop := ∀ i, i < items xs rs → ∃ j, j < xs.length ∧ Con xs rs i j
/-- leaders: none behind its item, each joined with it -/
structure LeadsW (xs : List Int) (rs : List (List Int)) (os : List Int) : Prop where
  len : os.length = items xs rs
  low : ∀ i, i < items xs rs → 0 ≤ os[i]?.getD 0 ∧ os[i]?.getD 0 ≤ i
  con : ∀ i, i < items xs rs → Con xs rs i (os[i]?.getD 0).toNat
def Same (xs : List Int) (rs : List (List Int)) (os : List Int) : Prop := ∀ i k, i < items xs rs → k < i → meets (edgesOf xs rs i) (edgesOf xs rs k) = true → os[i]?.getD 0 = os[k]?.getD 0
theorem same_con {xs : List Int} {rs : List (List Int)} {os : List Int} (h : Same xs rs os) {i j : Nat} (hi : i < items xs rs) (hc : Con xs rs i j) : os[i]?.getD 0 = os[j]?.getD 0 := by
  induction hc with
  | base => rfl
  | step h1 h3 h4 h5 ih =>
    rename_i j k
    rw [ih]
    rcases Nat.lt_trichotomy j k with g | g | g
    · exact (h k j h4 g (meets_symm h5)).symm
    · rw [g]
    · exact h j k h3 g h5
theorem leads_linked {xs : List Int} {rs : List (List Int)} {os : List Int} (h : LeadsW xs rs os) (hs : Same xs rs os) : (∀ i, i < items xs rs → os[i]?.getD 0 < xs.length) ↔ Linked xs rs := by
  constructor
  · intro h1 i hi
    have h2 := h1 i hi
    have h3 := h.low i hi
    exact ⟨(os[i]?.getD 0).toNat, by omega, h.con i hi⟩
  · intro h1 i hi
    obtain ⟨j, hj, hc⟩ := h1 i hi
    have h2 := same_con hs hi hc
    have h3 := h.low j (by unfold items; omega)
    omega
/-- one step: the lower leader for both -/
theorem LeadsW.join {xs : List Int} {rs : List (List Int)} {os : List Int} (h : LeadsW xs rs os) {i k : Nat} (hi : i < items xs rs) (hk : k < i) (hm : meets (edgesOf xs rs i) (edgesOf xs rs k) = true) {z : Int} (hz : z = min (os[i]?.getD 0) (os[k]?.getD 0)) :
    LeadsW xs rs ((os.set i z).set k z) := by
  have hik : Con xs rs i k := .step .base hi (by omega) hm
  have h1 := h.low i hi
  have h2 := h.low k (by omega)
  have c1 := h.con i hi
  have c2 := h.con k (by omega)
  have hg : ∀ q, q < items xs rs → ((os.set i z).set k z)[q]?.getD 0 = if q = k then z else if q = i then z else os[q]?.getD 0 := fun q hq => by
    have hl := h.len
    by_cases e1 : q = k
    · rw [if_pos e1, e1, List.getElem?_set, if_pos rfl, if_pos (by rw [List.length_set]; omega)]; rfl
    · rw [if_neg e1, List.getElem?_set, if_neg (fun x => e1 x.symm)]
      by_cases e2 : q = i
      · rw [if_pos e2, e2, List.getElem?_set, if_pos rfl, if_pos (by omega)]; rfl
      · rw [if_neg e2, List.getElem?_set, if_neg (fun x => e2 x.symm)]
  have hzc : ∀ q, (q = i ∨ q = k) → Con xs rs q z.toNat := fun q hq => by
    have hqi : Con xs rs q i := by rcases hq with rfl | rfl; exact .base; exact hik.symm
    rcases Int.le_total (os[i]?.getD 0) (os[k]?.getD 0) with hle | hle
    · rw [hz, Int.min_eq_left hle]; exact hqi.trans c1
    · rw [hz, Int.min_eq_right hle]; exact (hqi.trans hik).trans c2
  refine ⟨by simp [h.len], fun q hq => ?_, fun q hq => ?_⟩
  · rw [hg q hq]
    split
    · rename_i e; subst e; omega
    · split
      · rename_i e; subst e; omega
      · exact h.low q hq
  · rw [hg q hq]
    split
    · rename_i e; exact hzc q (.inr e)
    · split
      · rename_i e; exact hzc q (.inl e)
      · exact h.con q hq
theorem leads_start (xs : List Int) (rs : List (List Int)) : LeadsW xs rs ((List.range (items xs rs)).map fun i : Nat => (i : Int)) := by
  have hg : ∀ i, i < items xs rs → ((List.range (items xs rs)).map fun i : Nat => (i : Int))[i]?.getD 0 = i := fun i hi => by simp [hi]
  exact ⟨by simp, fun i hi => by rw [hg i hi]; omega, fun i hi => by rw [hg i hi]; exact .base⟩
/-- the sum falls -/
def totalW (os : List Int) : Int := os.foldr (· + ·) 0
theorem totalW_set (os : List Int) (i : Nat) (z : Int) (hi : i < os.length) : totalW (os.set i z) = totalW os - os[i]?.getD 0 + z := by
  induction os generalizing i with
  | nil => simp at hi
  | cons a os ih =>
    cases i with
    | zero => simp [totalW]; omega
    | succ i =>
      have := ih i (by simpa using hi)
      simp only [totalW, List.set_cons_succ, List.foldr_cons, List.getElem?_cons_succ] at this ⊢
      omega
theorem totalW_nonneg {os : List Int} (h : ∀ i, i < os.length → 0 ≤ os[i]?.getD 0) : 0 ≤ totalW os := by
  induction os with
  | nil => simp [totalW]
  | cons a os ih =>
    have h1 := h 0 (by simp)
    have h2 := ih (fun i hi => by have := h (i + 1) (by simpa using hi); simpa using this)
    simp only [totalW, List.foldr_cons] at h2 ⊢
    simp at h1
    omega
theorem joinW_total {xs : List Int} {rs : List (List Int)} {os : List Int} (h : LeadsW xs rs os) {i k : Nat} (hi : i < items xs rs) (hk : k < i) {z : Int} (hz : z = min (os[i]?.getD 0) (os[k]?.getD 0)) (hne : os[i]?.getD 0 ≠ os[k]?.getD 0) :
    totalW ((os.set i z).set k z) < totalW os := by
  have hl := h.len
  rw [totalW_set _ _ _ (by rw [List.length_set]; omega), totalW_set _ _ _ (by omega), List.getElem?_set, if_neg (by omega)]
  omega

/-- a pass over all pairs, begun at os0: behind the pair (i, k) -/
structure PassW (xs : List Int) (rs : List (List Int)) (os0 : List Int) (i k : Nat) (os : List Int) (b : Bool) : Prop where
  leads : LeadsW xs rs os
  st : (b = false ∧ os = os0 ∧ ∀ p q, p < items xs rs → q < p → (p < i ∨ (p = i ∧ q < k)) → meets (edgesOf xs rs p) (edgesOf xs rs q) = true → os[p]?.getD 0 = os[q]?.getD 0) ∨ (b = true ∧ totalW os < totalW os0)
theorem PassW.start {xs : List Int} {rs : List (List Int)} {os : List Int} (h : LeadsW xs rs os) : PassW xs rs os 0 0 os false :=
  ⟨h, .inl ⟨rfl, rfl, fun p q _ _ h => by omega⟩⟩
theorem PassW.next {xs : List Int} {rs : List (List Int)} {os0 os : List Int} {i k : Nat} {b : Bool} (h : PassW xs rs os0 i k os b) (he : meets (edgesOf xs rs i) (edgesOf xs rs k) = true → os[i]?.getD 0 = os[k]?.getD 0) : PassW xs rs os0 i (k + 1) os b := by
  refine ⟨h.leads, ?_⟩
  rcases h.st with ⟨h1, h2, h3⟩ | h1
  · refine .inl ⟨h1, h2, fun p q hp hq hor hm => ?_⟩
    by_cases e : p = i ∧ q = k
    · obtain ⟨rfl, rfl⟩ := e; exact he hm
    · exact h3 p q hp hq (by omega) hm
  · exact .inr h1
theorem PassW.row {xs : List Int} {rs : List (List Int)} {os0 os : List Int} {i : Nat} {b : Bool} (h : PassW xs rs os0 i i os b) : PassW xs rs os0 (i + 1) 0 os b := by
  refine ⟨h.leads, ?_⟩
  rcases h.st with ⟨h1, h2, h3⟩ | h1
  · exact .inl ⟨h1, h2, fun p q hp hq hor hm => h3 p q hp hq (by omega) hm⟩
  · exact .inr h1
theorem PassW.join {xs : List Int} {rs : List (List Int)} {os0 os : List Int} {i k : Nat} {b : Bool} (h : PassW xs rs os0 i k os b) (hi : i < items xs rs) (hk : k < i) (hm : meets (edgesOf xs rs i) (edgesOf xs rs k) = true) (hne : os[i]?.getD 0 ≠ os[k]?.getD 0) {z : Int} (hz : z = min (os[i]?.getD 0) (os[k]?.getD 0)) :
    PassW xs rs os0 i (k + 1) ((os.set i z).set k z) true := by
  have h1 := joinW_total h.leads hi hk hz hne
  refine ⟨h.leads.join hi hk hm hz, .inr ⟨rfl, ?_⟩⟩
  rcases h.st with ⟨_, h2, _⟩ | ⟨_, h2⟩
  · rw [h2] at h1 ⊢; exact h1
  · omega
theorem PassW.done {xs : List Int} {rs : List (List Int)} {os0 os : List Int} {b : Bool} (h : PassW xs rs os0 (items xs rs) 0 os b) : (b = false ∧ Same xs rs os) ∨ (b = true ∧ totalW os < totalW os0) := by
  rcases h.st with ⟨h1, _, h3⟩ | h1
  · exact .inl ⟨h1, fun p q hp hq hm => h3 p q hp hq (by omega) hm⟩
  · exact .inr h1
/-- edges joined by a chain of forks -/
inductive Rch (rs : List (List Int)) (l : Int) : Int → Prop
  | base : Rch rs l l
  | step {a b : Int} {f : List Int} : Rch rs l a → f ∈ rs → a ∈ f → b ∈ f → Rch rs l b
theorem Rch.trans {rs : List (List Int)} {a b c : Int} (h : Rch rs a b) (h2 : Rch rs b c) : Rch rs a c := by
  induction h2 with
  | base => exact h
  | step _ h3 h4 h5 ih => exact .step ih h3 h4 h5
theorem Rch.symm {rs : List (List Int)} {a b : Int} (h : Rch rs a b) : Rch rs b a := by
  induction h with
  | base => exact .base
  | step _ h3 h4 h5 ih => exact (Rch.step .base h3 h5 h4).trans ih
theorem rAt_mem {rs : List (List Int)} {j : Nat} (h : j < rs.length) : rAt rs j ∈ rs := by
  unfold rAt; rw [List.getElem?_eq_getElem h]; exact List.getElem_mem h
theorem mem_rAt {rs : List (List Int)} {f : List Int} (h : f ∈ rs) : ∃ j, j < rs.length ∧ rAt rs j = f := by
  obtain ⟨j, hj, rfl⟩ := List.getElem_of_mem h
  exact ⟨j, hj, by unfold rAt; rw [List.getElem?_eq_getElem hj]; rfl⟩
theorem edges_fork (xs : List Int) (rs : List (List Int)) (j : Nat) : edgesOf xs rs (xs.length + j) = rAt rs j := by
  unfold edgesOf; rw [if_neg (by omega), show xs.length + j - xs.length = j from by omega]
theorem edges_leg {xs : List Int} (rs : List (List Int)) {i : Nat} (h : i < xs.length) : edgesOf xs rs i = [xs[i]?.getD 0] := by
  unfold edgesOf; rw [if_pos h]
/-- two edges of one item -/
theorem item_rch {xs : List Int} {rs : List (List Int)} {i : Nat} (hi : i < items xs rs) {a b : Int} (ha : a ∈ edgesOf xs rs i) (hb : b ∈ edgesOf xs rs i) : Rch rs a b := by
  by_cases h : i < xs.length
  · rw [edges_leg rs h] at ha hb
    simp only [List.mem_singleton] at ha hb
    rw [ha, hb]; exact .base
  · obtain ⟨j, rfl⟩ : ∃ j, i = xs.length + j := ⟨i - xs.length, by omega⟩
    rw [edges_fork] at ha hb
    exact .step .base (rAt_mem (by unfold items at hi; omega)) ha hb
theorem con_rch {xs : List Int} {rs : List (List Int)} {i j : Nat} (hi : i < items xs rs) (h : Con xs rs i j) {a b : Int} (ha : a ∈ edgesOf xs rs i) (hb : b ∈ edgesOf xs rs j) : Rch rs a b := by
  induction h generalizing b with
  | base => exact item_rch hi ha hb
  | step h1 h3 h4 h5 ih =>
    obtain ⟨x, hx1, hx2⟩ := meets_iff.1 h5
    exact (ih hx1).trans (item_rch h4 hx2 hb)
theorem rch_con {xs : List Int} {rs : List (List Int)} {i : Nat} (hi : i < items xs rs) {a b : Int} (ha : a ∈ edgesOf xs rs i) (h : Rch rs a b) : ∃ j, j < items xs rs ∧ b ∈ edgesOf xs rs j ∧ Con xs rs i j := by
  induction h with
  | base => exact ⟨i, hi, ha, .base⟩
  | step h1 h3 h4 h5 ih =>
    obtain ⟨j, hj, hjb, hc⟩ := ih
    obtain ⟨q, hq, rfl⟩ := mem_rAt h3
    have hqi : xs.length + q < items xs rs := by unfold items; omega
    exact ⟨xs.length + q, hqi, by rw [edges_fork]; exact h5, .step hc hj hqi (meets_iff.2 ⟨_, hjb, by rw [edges_fork]; exact h4⟩)⟩
/-- the edges at all places -/
def places (xs : List Int) (rs : List (List Int)) : List Int := xs ++ rs.flatten
theorem places_item {xs : List Int} {rs : List (List Int)} {e : Int} : e ∈ places xs rs ↔ ∃ i, i < items xs rs ∧ e ∈ edgesOf xs rs i := by
  unfold places
  rw [List.mem_append, List.mem_flatten]
  constructor
  · rintro (h | ⟨f, hf, he⟩)
    · obtain ⟨i, hi, rfl⟩ := List.getElem_of_mem h
      exact ⟨i, by unfold items; omega, by rw [edges_leg rs hi, List.getElem?_eq_getElem hi]; simp⟩
    · obtain ⟨j, hj, rfl⟩ := mem_rAt hf
      exact ⟨xs.length + j, by unfold items; omega, by rw [edges_fork]; exact he⟩
  · rintro ⟨i, hi, he⟩
    by_cases h : i < xs.length
    · rw [edges_leg rs h, List.getElem?_eq_getElem h] at he
      simp only [Option.getD_some, List.mem_singleton] at he
      exact .inl (he ▸ List.getElem_mem h)
    · obtain ⟨j, rfl⟩ : ∃ j, i = xs.length + j := ⟨i - xs.length, by omega⟩
      rw [edges_fork] at he
      exact .inr ⟨_, rAt_mem (by unfold items at hi; omega), he⟩
theorem linked_rch {xs : List Int} {rs : List (List Int)} (h3 : ∀ f ∈ rs, f ≠ []) : Linked xs rs ↔ ∀ e ∈ places xs rs, ∃ l ∈ xs, Rch rs l e := by
  constructor
  · intro h e he
    obtain ⟨i, hi, hei⟩ := places_item.1 he
    obtain ⟨j, hj, hc⟩ := h i hi
    refine ⟨xs[j]?.getD 0, by rw [List.getElem?_eq_getElem hj]; exact List.getElem_mem hj, ?_⟩
    exact (con_rch hi hc hei (by rw [edges_leg rs hj]; simp)).symm
  · intro h i hi
    obtain ⟨e, he⟩ : ∃ e, e ∈ edgesOf xs rs i := by
      by_cases hx : i < xs.length
      · exact ⟨_, by rw [edges_leg rs hx]; exact List.mem_singleton.2 rfl⟩
      · obtain ⟨j, rfl⟩ : ∃ j, i = xs.length + j := ⟨i - xs.length, by omega⟩
        rw [edges_fork]
        exact List.exists_mem_of_ne_nil _ (h3 _ (rAt_mem (by unfold items at hi; omega)))
    obtain ⟨l, hl, hr⟩ := h e (places_item.2 ⟨i, hi, he⟩)
    obtain ⟨j, hj, rfl⟩ := List.getElem_of_mem hl
    have hji : j < items xs rs := by unfold items; omega
    obtain ⟨q, hq, heq, hc⟩ := rch_con hji (by rw [edges_leg rs hj, List.getElem?_eq_getElem hj]; simp) hr
    exact ⟨j, hj, ((hc.step hq hi (meets_iff.2 ⟨e, heq, he⟩))).symm⟩

/-- a part of edges: those that are reached from one, each once -/
structure PartOf (rs : List (List Int)) (l : Int) (p : List Int) : Prop where
  nodup : p.Nodup
  mem : ∀ e, e ∈ p ↔ Rch rs l e
/-- the parts of the legs so far -/
structure PartsOf (xs : List Int) (rs : List (List Int)) (k : Nat) (ps : List (List Int)) : Prop where
  part : ∀ p ∈ ps, ∃ l ∈ xs, PartOf rs l p
  cover : ∀ l ∈ xs.take k, ∃ p ∈ ps, l ∈ p
  apart : ps.Pairwise (fun p q => ∀ e, e ∈ p → e ∉ q)
theorem PartsOf.start (xs : List Int) (rs : List (List Int)) : PartsOf xs rs 0 [] := ⟨by simp, by simp, by simp⟩
theorem PartsOf.old {xs : List Int} {rs : List (List Int)} {k : Nat} {ps : List (List Int)} (h : PartsOf xs rs k ps) (hk : k < xs.length) {p : List Int} (hp : p ∈ ps) (hl : xs[k]?.getD 0 ∈ p) : PartsOf xs rs (k + 1) ps :=
  ⟨h.part, fun l hl' => by
    rw [take_next xs k hk, List.mem_append, List.mem_singleton] at hl'
    rcases hl' with hl' | rfl
    · exact h.cover l hl'
    · exact ⟨p, hp, hl⟩, h.apart⟩
theorem PartsOf.new {xs : List Int} {rs : List (List Int)} {k : Nat} {ps : List (List Int)} (h : PartsOf xs rs k ps) (hk : k < xs.length) {p : List Int} (hp : PartOf rs (xs[k]?.getD 0) p) (hn : ∀ q ∈ ps, xs[k]?.getD 0 ∉ q) : PartsOf xs rs (k + 1) (ps ++ [p]) := by
  have hmem : xs[k]?.getD 0 ∈ xs := by rw [List.getElem?_eq_getElem hk]; exact List.getElem_mem hk
  refine ⟨fun q hq => ?_, fun l hl' => ?_, ?_⟩
  · rcases List.mem_append.1 hq with hq | hq
    · exact h.part q hq
    · rw [List.mem_singleton] at hq; subst hq; exact ⟨_, hmem, hp⟩
  · rw [take_next xs k hk, List.mem_append, List.mem_singleton] at hl'
    rcases hl' with hl' | rfl
    · obtain ⟨q, hq, hlq⟩ := h.cover l hl'; exact ⟨q, List.mem_append_left _ hq, hlq⟩
    · exact ⟨p, List.mem_append_right _ (List.mem_singleton.2 rfl), (hp.mem _).2 .base⟩
  · rw [List.pairwise_append]
    refine ⟨h.apart, by simp, fun q hq r hr e heq her => ?_⟩
    rw [List.mem_singleton] at hr; subst hr
    obtain ⟨l, hl, hP⟩ := h.part q hq
    exact hn q hq ((hP.mem _).2 (((hP.mem e).1 heq).trans ((hp.mem e).1 her).symm))
theorem flatten_nodup {ps : List (List Int)} (h1 : ∀ p ∈ ps, p.Nodup) (h2 : ps.Pairwise (fun p q => ∀ e, e ∈ p → e ∉ q)) : ps.flatten.Nodup := by
  induction ps with
  | nil => simp
  | cons p ps ih =>
    rw [List.pairwise_cons] at h2
    rw [List.flatten_cons, List.nodup_append]
    refine ⟨h1 p (List.mem_cons_self ..), ih (fun q hq => h1 q (List.mem_cons_of_mem _ hq)) h2.2, fun a ha b hb e => ?_⟩
    subst e
    obtain ⟨q, hq, haq⟩ := List.mem_flatten.1 hb
    exact h2.1 q hq a ha haq
/-- each number of a list stands twice: half as many different ones -/
theorem half_met {l : List Int} (h : ∀ x ∈ l, l.count x = 2) {d : List Int} (hd : d.Nodup) (hm : ∀ x, x ∈ d ↔ x ∈ l) : l.length = 2 * d.length := by
  have key : ∀ (d : List Int) (l : List Int), d.Nodup → (∀ x ∈ l, x ∈ d) → (∀ x ∈ d, l.count x = 2) → l.length = 2 * d.length := by
    intro d
    induction d with
    | nil =>
      intro l _ h1 _
      have : l = [] := List.eq_nil_iff_forall_not_mem.2 (fun x hx => by simpa using h1 x hx)
      subst this; rfl
    | cons a d ih =>
      intro l hn h1 h2
      rw [List.nodup_cons] at hn
      have h3 := ih (l.filter (fun x => x != a)) hn.2 (fun x hx => by
        rw [List.mem_filter] at hx
        rcases List.mem_cons.1 (h1 x hx.1) with e | e
        · simp [e] at hx
        · exact e) (fun x hx => by
        have hxa : x ≠ a := fun e => hn.1 (e ▸ hx)
        rw [List.count_filter (by simpa using hxa)]
        exact h2 x (List.mem_cons_of_mem _ hx))
      have h4 := h2 a (List.mem_cons_self ..)
      have h5 : l.length = l.count a + (l.filter (fun x => x != a)).length := by
        have h6 := List.length_eq_countP_add_countP (l := l) (p := fun x => x == a)
        rw [← List.countP_eq_length_filter, h6]
        show List.countP (fun x => x == a) l + _ = List.countP (fun x => x == a) l + _
        congr 1
        apply List.countP_congr
        intro x _
        simp
      rw [List.length_cons]; omega
  exact key d l hd (fun x hx => (hm x).2 hx) (fun x hx => h x ((hm x).1 hx))
theorem nodup_le : ∀ (a d : List Int), a.Nodup → (∀ e ∈ a, e ∈ d) → a.length ≤ d.length := by
  intro a
  induction a with
  | nil => intro d _ _; simp
  | cons x a ih =>
    intro d hn hs
    rw [List.nodup_cons] at hn
    have hx : x ∈ d := hs x (List.mem_cons_self ..)
    have h1 := ih (d.erase x) hn.2 (fun e he => (List.mem_erase_of_ne (fun h => hn.1 (by rw [← h]; exact he))).2 (hs e (List.mem_cons_of_mem _ he)))
    rw [List.length_erase_of_mem hx] at h1
    have h2 := List.length_pos_of_mem hx
    rw [List.length_cons]; omega
theorem nodup_all {a d : List Int} (ha : a.Nodup) (hs : ∀ e ∈ a, e ∈ d) (hl : d.length ≤ a.length) : ∀ e ∈ d, e ∈ a := by
  intro e he
  apply Classical.byContradiction
  intro hn
  have h := nodup_le (e :: a) d (List.nodup_cons.2 ⟨hn, ha⟩) (fun x hx => by
    rcases List.mem_cons.1 hx with rfl | hx
    · exact he
    · exact hs x hx)
  rw [List.length_cons] at h; omega
/-- the parts of the legs have as many edges as there are just if every part has a leg -/
theorem parts_linked {xs : List Int} {rs : List (List Int)} {ps : List (List Int)} (h : PartsOf xs rs xs.length ps) (h3 : ∀ f ∈ rs, f ≠ []) (h2 : ∀ x ∈ places xs rs, (places xs rs).count x = 2) : ps.flatten.length = (places xs rs).length / 2 ↔ Linked xs rs := by
  have hnd : ps.flatten.Nodup := flatten_nodup (fun p hp => by obtain ⟨l, _, hP⟩ := h.part p hp; exact hP.nodup) h.apart
  have hin : ∀ e, e ∈ ps.flatten ↔ ∃ l ∈ xs, Rch rs l e := fun e => by
    rw [List.mem_flatten]
    constructor
    · rintro ⟨p, hp, he⟩
      obtain ⟨l, hl, hP⟩ := h.part p hp
      exact ⟨l, hl, (hP.mem e).1 he⟩
    · rintro ⟨l, hl, hr⟩
      obtain ⟨p, hp, hlp⟩ := h.cover l (by rw [List.take_length]; exact hl)
      obtain ⟨l', _, hP⟩ := h.part p hp
      exact ⟨p, hp, (hP.mem e).2 (((hP.mem l).1 hlp).trans hr)⟩
  have hsub : ∀ e ∈ ps.flatten, e ∈ places xs rs := fun e he => by
    obtain ⟨l, hl, hr⟩ := (hin e).1 he
    obtain ⟨i, hi, rfl⟩ := List.getElem_of_mem hl
    have hii : i < items xs rs := by unfold items; omega
    obtain ⟨j, hj, hej, _⟩ := rch_con hii (by rw [edges_leg rs hi, List.getElem?_eq_getElem hi]; simp) hr
    exact places_item.2 ⟨j, hj, hej⟩
  -- the different edges
  obtain ⟨d, hd, hdm⟩ : ∃ d : List Int, d.Nodup ∧ ∀ x, x ∈ d ↔ x ∈ places xs rs := ⟨met (places xs rs), met_nodup _, met_mem _⟩
  have hdl := half_met h2 hd hdm
  rw [linked_rch h3]
  have hle := nodup_le _ _ hnd (fun e he => (hdm e).2 (hsub e he))
  constructor
  · intro hl e he
    exact (hin e).1 (nodup_all hnd (fun e he => (hdm e).2 (hsub e he)) (by omega) e ((hdm e).2 he))
  · intro hl
    have hle2 := nodup_le _ _ hd (fun e he => (hin e).2 (hl e ((hdm e).1 he)))
    omega
end Go.Proofs.YthpddknpiiiccaaDoor
