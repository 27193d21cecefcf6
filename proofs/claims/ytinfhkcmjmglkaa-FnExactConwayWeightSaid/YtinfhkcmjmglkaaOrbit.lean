/- Circles along two involutions without fixed points: the walk from a point is back at it before it meets any other point that has been met. -/
import Derived.Test.YtinfhkcmjmglkaaPure5
namespace Go.Proofs.Ytinfhkcmjmglkaa
set_option linter.unusedVariables false
set_option linter.unusedSimpArgs false
set_option maxRecDepth 100000

structure Two (β ν : Nat → Nat) (m : Nat) : Prop where
  bl : ∀ p, p < m → β p < m
  nl : ∀ p, p < m → ν p < m
  bb : ∀ p, p < m → β (β p) = p
  nn : ∀ p, p < m → ν (ν p) = p
  bf : ∀ p, p < m → β p ≠ p
  nf : ∀ p, p < m → ν p ≠ p
/-- j steps from t -/
def orb (β ν : Nat → Nat) : Nat → Nat → Nat
  | 0, t => t
  | j + 1, t => ν (β (orb β ν j t))
theorem orb_add (β ν : Nat → Nat) (i j t : Nat) : orb β ν (i + j) t = orb β ν i (orb β ν j t) := by
  induction i with
  | zero => rw [Nat.zero_add]; rfl
  | succ i ih => rw [Nat.succ_add]; show ν (β (orb β ν (i + j) t)) = ν (β (orb β ν i (orb β ν j t))); rw [ih]
theorem orb_lt {β ν : Nat → Nat} {m : Nat} (h : Two β ν m) {t : Nat} (ht : t < m) (j : Nat) : orb β ν j t < m := by
  induction j with
  | zero => exact ht
  | succ j ih => exact h.nl _ (h.bl _ ih)
theorem step_inj {β ν : Nat → Nat} {m : Nat} (h : Two β ν m) {p q : Nat} (hp : p < m) (hq : q < m) (e : ν (β p) = ν (β q)) : p = q := by
  have e1 : β p = β q := by rw [← h.nn _ (h.bl _ hp), e, h.nn _ (h.bl _ hq)]
  rw [← h.bb _ hp, e1, h.bb _ hq]
theorem orb_inj {β ν : Nat → Nat} {m : Nat} (h : Two β ν m) {s t : Nat} (hs : s < m) (ht : t < m) (j : Nat) (e : orb β ν j s = orb β ν j t) : s = t := by
  induction j with
  | zero => exact e
  | succ j ih => exact ih (step_inj h (orb_lt h hs j) (orb_lt h ht j) e)
theorem orb_flip {β ν : Nat → Nat} {m : Nat} (h : Two β ν m) {t : Nat} (ht : t < m) (j : Nat) : orb β ν j (β (orb β ν j t)) = β t := by
  induction j with
  | zero => rfl
  | succ j ih =>
    have hy := orb_lt h ht j
    rw [orb_add β ν j 1 (β (orb β ν (j + 1) t))]
    show orb β ν j (ν (β (β (ν (β (orb β ν j t)))))) = β t
    rw [h.bb _ (h.nl _ (h.bl _ hy)), h.nn _ (h.bl _ hy)]
    exact ih
theorem orb_never {β ν : Nat → Nat} {m : Nat} (h : Two β ν m) {t : Nat} (ht : t < m) (i j : Nat) : orb β ν j t ≠ β (orb β ν i t) := by
  intro e
  have e1 : orb β ν (i + j) t = β t := by rw [orb_add, e, orb_flip h ht i]
  obtain ⟨s, hs⟩ : ∃ s, i + j = s + s ∨ i + j = s + (s + 1) := ⟨(i + j) / 2, by omega⟩
  have hl := orb_lt h ht s
  rcases hs with hs | hs
  · rw [hs, orb_add, ← orb_flip h ht s] at e1
    exact h.bf _ hl (orb_inj h hl (h.bl _ hl) s e1).symm
  · rw [hs, orb_add, ← orb_flip h ht s] at e1
    have e2 := orb_inj h (orb_lt h ht (s + 1)) (h.bl _ hl) s e1
    exact h.nf _ (h.bl _ hl) e2

/-- the marks after j steps from t -/
def markL (β ν : Nat → Nat) (met0 : List Bool) (t : Nat) : Nat → List Bool
  | 0 => met0
  | j + 1 => ((markL β ν met0 t j).set (orb β ν j t) true).set (β (orb β ν j t)) true
@[simp] theorem markL_length (β ν : Nat → Nat) (met0 : List Bool) (t j : Nat) : (markL β ν met0 t j).length = met0.length := by
  induction j with
  | zero => rfl
  | succ j ih => simp [markL, ih]
theorem set_get (l : List Bool) (q p : Nat) (hp : p < l.length) : (l.set q true)[p]?.getD false = true ↔ (p = q ∨ l[p]?.getD false = true) := by
  rw [List.getElem?_set]
  by_cases e : q = p
  · subst e; simp [hp]
  · rw [if_neg e]; constructor
    · exact Or.inr
    · rintro (h | h)
      · exact absurd h.symm e
      · exact h
theorem markL_get {β ν : Nat → Nat} {met0 : List Bool} {t : Nat} (j : Nat) {p : Nat} (hp : p < met0.length) :
    (markL β ν met0 t j)[p]?.getD false = true ↔ (met0[p]?.getD false = true ∨ ∃ i, i < j ∧ (p = orb β ν i t ∨ p = β (orb β ν i t))) := by
  induction j with
  | zero => simp [markL]
  | succ j ih =>
    show (((markL β ν met0 t j).set (orb β ν j t) true).set (β (orb β ν j t)) true)[p]?.getD false = true ↔ _
    rw [set_get _ _ _ (by simpa using hp), set_get _ _ _ (by simpa using hp), ih]
    constructor
    · rintro (h | h | h | ⟨i, hi, h⟩)
      · exact .inr ⟨j, by omega, .inr h⟩
      · exact .inr ⟨j, by omega, .inl h⟩
      · exact .inl h
      · exact .inr ⟨i, by omega, h⟩
    · rintro (h | ⟨i, hi, h⟩)
      · exact .inr (.inr (.inl h))
      · by_cases e : i = j
        · subst e
          rcases h with h | h
          · exact .inr (.inl h)
          · exact .inl h
        · exact .inr (.inr (.inr ⟨i, by omega, h⟩))
/-- marks that hold of whole circles -/
def Whole (β ν : Nat → Nat) (m : Nat) (met : List Bool) : Prop := ∀ p, p < m → met[β p]?.getD false = met[p]?.getD false ∧ met[ν p]?.getD false = met[p]?.getD false
theorem whole_orb {β ν : Nat → Nat} {m : Nat} (h : Two β ν m) {met : List Bool} (hc : Whole β ν m met) {t : Nat} (ht : t < m) (j : Nat) : met[orb β ν j t]?.getD false = met[t]?.getD false := by
  induction j with
  | zero => rfl
  | succ j ih =>
    have hl := orb_lt h ht j
    show met[ν (β (orb β ν j t))]?.getD false = _
    rw [(hc _ (h.bl _ hl)).2, (hc _ hl).1, ih]
theorem back {β ν : Nat → Nat} {m : Nat} (h : Two β ν m) {met0 : List Bool} (hl : met0.length = m) (hc : Whole β ν m met0) {t : Nat} (ht : t < m) (h0 : met0[t]?.getD false = false) {j : Nat} (hj : 0 < j) (hn : ∀ i, 0 < i → i < j → orb β ν i t ≠ t) :
    (markL β ν met0 t j)[orb β ν j t]?.getD false = true ↔ orb β ν j t = t := by
  rw [markL_get j (by rw [hl]; exact orb_lt h ht j)]
  constructor
  · rintro (h1 | ⟨i, hi, h1 | h1⟩)
    · rw [whole_orb h hc ht j, h0] at h1; cases h1
    · have e : j = i + (j - i) := by omega
      rw [e, orb_add] at h1
      have h2 := orb_inj h (orb_lt h ht (j - i)) ht i h1
      by_cases hi0 : i = 0
      · subst hi0; simpa using h2
      · exact absurd h2 (hn (j - i) (by omega) (by omega))
    · exact absurd h1 (orb_never h ht i j)
  · intro e
    exact .inr ⟨0, hj, .inl e⟩
theorem whole_of {β ν : Nat → Nat} {m : Nat} (h : Two β ν m) {met : List Bool} (hb : ∀ p, p < m → met[p]?.getD false = true → met[β p]?.getD false = true) (hv : ∀ p, p < m → met[p]?.getD false = true → met[ν p]?.getD false = true) : Whole β ν m met := by
  intro p hp
  constructor
  · rcases e : met[p]?.getD false with _ | _
    · rcases e2 : met[β p]?.getD false with _ | _
      · rfl
      · have := hb _ (h.bl _ hp) e2
        rw [h.bb _ hp, e] at this; cases this
    · exact hb _ hp e
  · rcases e : met[p]?.getD false with _ | _
    · rcases e2 : met[ν p]?.getD false with _ | _
      · rfl
      · have := hv _ (h.nl _ hp) e2
        rw [h.nn _ hp, e] at this; cases this
    · exact hv _ hp e
theorem whole_markL {β ν : Nat → Nat} {m : Nat} (h : Two β ν m) {met0 : List Bool} (hl : met0.length = m) (hc : Whole β ν m met0) {t : Nat} (ht : t < m) {j : Nat} (hj : 0 < j) (e : orb β ν j t = t) : Whole β ν m (markL β ν met0 t j) := by
  obtain ⟨r, rfl⟩ : ∃ r, j = r + 1 := ⟨j - 1, by omega⟩
  have hr := orb_lt h ht r
  have e2 : ν t = β (orb β ν r t) := by
    have e3 : ν (ν (β (orb β ν r t))) = ν t := by rw [show ν (β (orb β ν r t)) = t from e]
    rw [h.nn _ (h.bl _ hr)] at e3
    exact e3.symm
  refine whole_of h (fun p hp hm => ?_) (fun p hp hm => ?_)
  · rw [markL_get _ (by rw [hl]; exact hp)] at hm
    rw [markL_get _ (by rw [hl]; exact h.bl _ hp)]
    rcases hm with hm | ⟨i, hi, hm | hm⟩
    · exact .inl (by rw [(hc p hp).1]; exact hm)
    · exact .inr ⟨i, hi, .inr (by rw [hm])⟩
    · exact .inr ⟨i, hi, .inl (by rw [hm, h.bb _ (orb_lt h ht i)])⟩
  · rw [markL_get _ (by rw [hl]; exact hp)] at hm
    rw [markL_get _ (by rw [hl]; exact h.nl _ hp)]
    rcases hm with hm | ⟨i, hi, hm | hm⟩
    · exact .inl (by rw [(hc p hp).2]; exact hm)
    · cases i with
      | zero => exact .inr ⟨r, by omega, .inr (by rw [hm]; exact e2)⟩
      | succ i => exact .inr ⟨i, by omega, .inr (by rw [hm]; exact h.nn _ (h.bl _ (orb_lt h ht i)))⟩
    · by_cases hi2 : i = r
      · subst hi2; exact .inr ⟨0, by omega, .inl (by rw [hm]; exact e)⟩
      · exact .inr ⟨i + 1, by omega, .inl (by rw [hm]; rfl)⟩
theorem count_set_le (met : List Bool) (p : Nat) : (met.set p true).count false ≤ met.count false := by
  induction met generalizing p with
  | nil => simp
  | cons b met ih =>
    cases p with
    | zero => cases b <;> simp
    | succ p => have := ih p; simp only [List.set_cons_succ, List.count_cons]; omega
/-- the walk of both programs -/
def goL (β ν : Nat → Nat) : Nat → List Bool → Nat → List Bool
  | 0, met, _ => met
  | f + 1, met, p => if met[p]?.getD false = true then met else goL β ν f ((met.set p true).set (β p) true) (ν (β p))
theorem goL_stop (β ν : Nat → Nat) (f : Nat) (met : List Bool) (p : Nat) (h : met[p]?.getD false = true) : goL β ν f met p = met := by
  cases f with
  | zero => rfl
  | succ f => unfold goL; rw [if_pos h]
theorem goL_go (β ν : Nat → Nat) (f : Nat) (met : List Bool) (p : Nat) (h : met[p]?.getD false = false) : goL β ν (f + 1) met p = goL β ν f ((met.set p true).set (β p) true) (ν (β p)) := by
  rw [goL, if_neg (by rw [h]; decide)]
/-- on the way: j steps from t, not yet back at t -/
structure Way (β ν : Nat → Nat) (m : Nat) (met0 : List Bool) (t f : Nat) (met : List Bool) (p : Nat) : Prop where
  lt : p < m
  len : met.length = m
  few : met.count false ≤ f
  fin : goL β ν m met0 t = goL β ν f met p
  way : ∃ j, met = markL β ν met0 t j ∧ p = orb β ν j t ∧ (∀ i, 0 < i → i < j → orb β ν i t ≠ t)
theorem way_new {β ν : Nat → Nat} {m : Nat} {met0 : List Bool} {t : Nat} (hl : met0.length = m) (ht : t < m) : Way β ν m met0 t m met0 t :=
  ⟨ht, hl, by have := List.count_le_length (a := false) (l := met0); omega, rfl, 0, rfl, rfl, fun i h1 h2 => by omega⟩
/-- one step on -/
theorem way_step {β ν : Nat → Nat} {m : Nat} (h : Two β ν m) {met0 : List Bool} (hl : met0.length = m) (hc : Whole β ν m met0) {t : Nat} (ht : t < m) (h0 : met0[t]?.getD false = false) {f : Nat} {met : List Bool} {p : Nat} (hw : Way β ν m met0 t f met p) (hp : met[p]?.getD false = false) :
    ∃ f', f = f' + 1 ∧ Way β ν m met0 t f' ((met.set p true).set (β p) true) (ν (β p)) ∧ (((met.set p true).set (β p) true)[ν (β p)]?.getD false = true ↔ ν (β p) = t) := by
  have hpos := count_pos_of met p (by rw [hw.len]; exact hw.lt) hp
  have hfew := hw.few
  obtain ⟨f', rfl⟩ : ∃ f', f = f' + 1 := ⟨f - 1, by omega⟩
  have hct := count_set_true met p (by rw [hw.len]; exact hw.lt) hp
  have hct2 := count_set_le (met.set p true) (β p)
  have hfin := hw.fin
  rw [goL_go _ _ _ _ _ hp] at hfin
  obtain ⟨j, hm, hpj, hno⟩ := hw.way
  have hno2 : ∀ i, 0 < i → i < j + 1 → orb β ν i t ≠ t := by
    intro i h1 h2 e
    by_cases ej : i = j
    · subst ej
      have h3 := (back h hl hc ht h0 h1 hno).2 e
      rw [← hm, ← hpj, hp] at h3
      cases h3
    · exact hno i h1 (by omega) e
  have hm2 : (met.set p true).set (β p) true = markL β ν met0 t (j + 1) := by rw [hm, hpj]; rfl
  have hp2 : ν (β p) = orb β ν (j + 1) t := by rw [hpj]; rfl
  refine ⟨f', rfl, ⟨h.nl _ (h.bl _ hw.lt), by simp [hw.len], by omega, hfin, j + 1, hm2, hp2, hno2⟩, ?_⟩
  rw [hm2, hp2]
  exact back h hl hc ht h0 (by omega) hno2
theorem way_end {β ν : Nat → Nat} {m : Nat} {met0 : List Bool} {t f : Nat} {met : List Bool} {p : Nat} (hw : Way β ν m met0 t f met p) (hp : met[p]?.getD false = true) : goL β ν m met0 t = met := by
  rw [hw.fin, goL_stop _ _ _ _ _ hp]
theorem whole_goL {β ν : Nat → Nat} {m : Nat} (h : Two β ν m) {met0 : List Bool} (hl : met0.length = m) (hc : Whole β ν m met0) {t : Nat} (ht : t < m) (h0 : met0[t]?.getD false = false) :
    ∀ f met p, Way β ν m met0 t f met p → Whole β ν m (goL β ν m met0 t) ∧ (goL β ν m met0 t).length = m := by
  intro f
  induction f with
  | zero =>
    intro met p hw
    have hf := hw.few
    rcases hp : met[p]?.getD false with _ | _
    · have := count_pos_of met p (by rw [hw.len]; exact hw.lt) hp; omega
    · rw [way_end hw hp]
      obtain ⟨j, hm, hpj, hno⟩ := hw.way
      have hj : 0 < j := by
        rcases Nat.eq_zero_or_pos j with e | e
        · subst e; rw [hpj, hm] at hp; rw [show (markL β ν met0 t 0) = met0 from rfl, show orb β ν 0 t = t from rfl, h0] at hp; cases hp
        · exact e
      have e := (back h hl hc ht h0 hj hno).1 (by rw [← hm, ← hpj]; exact hp)
      exact ⟨by rw [hm]; exact whole_markL h hl hc ht hj e, hw.len⟩
  | succ f ih =>
    intro met p hw
    rcases hp : met[p]?.getD false with _ | _
    · obtain ⟨f', e, hw2, _⟩ := way_step h hl hc ht h0 hw hp
      obtain rfl : f = f' := by omega
      exact ih _ _ hw2
    · rw [way_end hw hp]
      obtain ⟨j, hm, hpj, hno⟩ := hw.way
      have hj : 0 < j := by
        rcases Nat.eq_zero_or_pos j with e | e
        · subst e; rw [hpj, hm] at hp; rw [show (markL β ν met0 t 0) = met0 from rfl, show orb β ν 0 t = t from rfl, h0] at hp; cases hp
        · exact e
      have e := (back h hl hc ht h0 hj hno).1 (by rw [← hm, ← hpj]; exact hp)
      exact ⟨by rw [hm]; exact whole_markL h hl hc ht hj e, hw.len⟩
/-- the marks and the circles after the starts below t -/
def cirTo (β ν : Nat → Nat) (m : Nat) : Nat → List Bool × Int
  | 0 => (List.replicate m false, 0)
  | t + 1 => if (cirTo β ν m t).1[t]?.getD false = true then cirTo β ν m t else (goL β ν m (cirTo β ν m t).1 t, (cirTo β ν m t).2 + 1)
theorem cirTo_yes (β ν : Nat → Nat) (m t : Nat) (h : (cirTo β ν m t).1[t]?.getD false = true) : cirTo β ν m (t + 1) = cirTo β ν m t := by rw [cirTo, if_pos h]
theorem cirTo_no (β ν : Nat → Nat) (m t : Nat) (h : (cirTo β ν m t).1[t]?.getD false = false) : cirTo β ν m (t + 1) = (goL β ν m (cirTo β ν m t).1 t, (cirTo β ν m t).2 + 1) := by rw [cirTo, if_neg (by rw [h]; decide)]
theorem cirTo_whole {β ν : Nat → Nat} {m : Nat} (h : Two β ν m) : ∀ t, t ≤ m → Whole β ν m (cirTo β ν m t).1 ∧ (cirTo β ν m t).1.length = m := by
  intro t
  induction t with
  | zero =>
    intro _
    refine ⟨fun p hp => ?_, by simp [cirTo]⟩
    have h1 := h.bl p hp; have h2 := h.nl p hp
    simp [cirTo, hp, h1, h2]
  | succ t ih =>
    intro ht
    obtain ⟨h1, h2⟩ := ih (by omega)
    rcases e : (cirTo β ν m t).1[t]?.getD false with _ | _
    · rw [cirTo_no _ _ _ _ e]
      exact whole_goL h h2 h1 (by omega) e m _ t (way_new h2 (by omega))
    · rw [cirTo_yes _ _ _ _ e]; exact ⟨h1, h2⟩
theorem cirTo_bd (β ν : Nat → Nat) (m t : Nat) : 0 ≤ (cirTo β ν m t).2 ∧ (cirTo β ν m t).2 ≤ t := by
  induction t with
  | zero => simp [cirTo]
  | succ t ih =>
    rw [cirTo]
    split
    · omega
    · simp only; omega
end Go.Proofs.Ytinfhkcmjmglkaa
