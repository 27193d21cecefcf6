/- Plain: a term put into a sum; tidy sums are told by their coefficients. -/
/- Plain: terms put into a sum one after the other, and their coefficients. -/
import Derived.Test.YtofcldplgkejiaaSumOrd
import Derived.Test.YtofcldplgkejiaaSumMap
namespace Go.Proofs.Ytofcldplgkejiaa
set_option linter.unusedVariables false
set_option linter.unusedSimpArgs false

/-- in strictly ascending order of words, no coefficient 0 -/
def Tidy (ts : List (List Int × Int)) : Prop := ts.Pairwise (fun a b => wless a.1 b.1 = true) ∧ ∀ t ∈ ts, isWord t.1 = true ∧ t.2 ≠ 0
/-- a term with value z in the place of that with word w; d: it is there already -/
def put0 (w : List Int) (z : Int) : List (List Int × Int) → Bool → List (List Int × Int)
  | [], d => if d then [] else [(w, z)]
  | t :: ts, d => (if !d && wless w t.1 then [(w, z)] else []) ++ ((if t.1 = w then [] else [t]) ++ put0 w z ts (d || wless w t.1))
/-- a value added at a word -/
def putT (p : Int) (ts : List (List Int × Int)) (w : List Int) (v : Int) : List (List Int × Int) := put0 w ((v + coeff ts w) % p) ts (decide ((v + coeff ts w) % p = 0))

theorem put0_eq (w : List Int) (z : Int) (t : List Int × Int) (ts : List (List Int × Int)) (d : Bool) : put0 w z (t :: ts) d = (if !d && wless w t.1 then [(w, z)] else []) ++ ((if t.1 = w then [] else [t]) ++ put0 w z ts (d || wless w t.1)) := rfl
theorem put0_done (w : List Int) (z : Int) (ts : List (List Int × Int)) (h : ∀ t ∈ ts, wless w t.1 = true) : put0 w z ts true = ts := by
  induction ts with
  | nil => rfl
  | cons t ts ih =>
    have h1 := h t (List.mem_cons_self ..)
    have h2 : t.1 ≠ w := fun e => by rw [e, wless_irrefl] at h1; cases h1
    show (if (false && wless w t.1) = true then _ else _) ++ ((if t.1 = w then [] else [t]) ++ put0 w z ts (true || wless w t.1)) = _
    rw [if_neg h2, Bool.true_or, ih (fun u hu => h u (List.mem_cons_of_mem _ hu))]
    simp
theorem put0_mem (w : List Int) (z : Int) (ts : List (List Int × Int)) : ∀ d, ∀ t ∈ put0 w z ts d, (t = (w, z) ∧ d = false) ∨ t ∈ ts := by
  induction ts with
  | nil => intro d t ht; cases d <;> simp [put0] at ht; exact .inl ⟨ht, rfl⟩
  | cons u ts ih =>
    intro d t ht
    unfold put0 at ht
    rcases List.mem_append.1 ht with ht | ht
    · by_cases e : (!d && wless w u.1) = true
      · rw [if_pos e] at ht
        simp at ht
        exact .inl ⟨ht, by cases d <;> simp at e ⊢⟩
      · rw [if_neg e] at ht; cases ht
    · rcases List.mem_append.1 ht with ht | ht
      · by_cases e : u.1 = w
        · rw [if_pos e] at ht; cases ht
        · rw [if_neg e] at ht; simp at ht; exact .inr (by rw [ht]; exact List.mem_cons_self ..)
      · rcases ih _ t ht with ⟨h1, h2⟩ | h1
        · exact .inl ⟨h1, by cases d <;> simp at h2 ⊢⟩
        · exact .inr (List.mem_cons_of_mem _ h1)
theorem put0_cons (w : List Int) (z : Int) (t : List Int × Int) (ts : List (List Int × Int)) (hp : (t :: ts).Pairwise (fun a b => wless a.1 b.1 = true)) :
    (wless w t.1 = true ∧ put0 w z (t :: ts) false = (w, z) :: t :: ts) ∨ (t.1 = w ∧ put0 w z (t :: ts) false = put0 w z ts false) ∨ (wless t.1 w = true ∧ t.1 ≠ w ∧ put0 w z (t :: ts) false = t :: put0 w z ts false) := by
  have hc := List.pairwise_cons.1 hp
  have E := put0_eq w z t ts false
  by_cases h1 : wless w t.1 = true
  · refine .inl ⟨h1, ?_⟩
    have h2 : t.1 ≠ w := fun e => by rw [e, wless_irrefl] at h1; cases h1
    rw [E, if_neg h2, h1, Bool.false_or, put0_done w z ts (fun u hu => wless_trans h1 (hc.1 u hu))]
    rfl
  · have h1f : wless w t.1 = false := by simpa using h1
    by_cases h2 : t.1 = w
    · refine .inr (.inl ⟨h2, ?_⟩)
      rw [E, if_pos h2, h1f]; rfl
    · refine .inr (.inr ⟨?_, h2, ?_⟩)
      · cases h3 : wless t.1 w with
        | true => rfl
        | false => exact absurd (wless_tri _ _ h3 h1f) h2
      · rw [E, if_neg h2, h1f]; rfl
theorem put0_coeff (w : List Int) (z : Int) (ts : List (List Int × Int)) (hp : ts.Pairwise (fun a b => wless a.1 b.1 = true)) (y : List Int) : coeff (put0 w z ts false) y = if y = w then z else coeff ts y := by
  induction ts with
  | nil =>
    show coeff [(w, z)] y = if y = w then z else 0
    simp only [coeff]
    by_cases h : y = w
    · rw [if_pos h.symm, if_pos h]
    · rw [if_neg (fun e => h e.symm), if_neg h]
  | cons t ts ih =>
    have ih := ih (List.pairwise_cons.1 hp).2
    rcases put0_cons w z t ts hp with ⟨h1, e⟩ | ⟨h1, e⟩ | ⟨h1, h2, e⟩
    · rw [e]
      by_cases h : y = w
      · simp [coeff, h]
      · rw [if_neg h]; simp only [coeff]; rw [if_neg (fun e => h e.symm)]
    · rw [e, ih]
      by_cases h : y = w
      · simp [h]
      · rw [if_neg h, if_neg h]; simp only [coeff]; rw [if_neg (by rw [h1]; exact fun e => h e.symm)]
    · rw [e]
      simp only [coeff]
      by_cases h : t.1 = y
      · rw [if_pos h, if_pos h, if_neg (by rw [← h]; exact h2)]
      · rw [if_neg h, if_neg h]; exact ih
theorem put0_gone (w : List Int) (z : Int) (ts : List (List Int × Int)) (y : List Int) : coeff (put0 w z ts true) y = if y = w then 0 else coeff ts y := by
  induction ts with
  | nil => simp [put0, coeff]
  | cons t ts ih =>
    unfold put0
    rw [Bool.true_or, show (!true && wless w t.1) = false from rfl]
    by_cases h1 : t.1 = w
    · rw [if_pos h1]
      show coeff (put0 w z ts true) y = _
      rw [ih]
      by_cases h : y = w
      · simp [h]
      · rw [if_neg h, if_neg h]; simp only [coeff]; rw [if_neg (by rw [h1]; exact fun e => h e.symm)]
    · rw [if_neg h1]
      show coeff (t :: put0 w z ts true) y = _
      simp only [coeff]
      by_cases h : t.1 = y
      · rw [if_pos h, if_pos h, if_neg (by rw [← h]; exact h1)]
      · rw [if_neg h, if_neg h]; exact ih
theorem put0_sorted (w : List Int) (z : Int) (ts : List (List Int × Int)) (hp : ts.Pairwise (fun a b => wless a.1 b.1 = true)) : (put0 w z ts false).Pairwise (fun a b => wless a.1 b.1 = true) := by
  induction ts with
  | nil => simp [put0]
  | cons t ts ih =>
    have hc := List.pairwise_cons.1 hp
    rcases put0_cons w z t ts hp with ⟨h1, e⟩ | ⟨h1, e⟩ | ⟨h1, h2, e⟩
    · rw [e]
      refine List.pairwise_cons.2 ⟨fun u hu => ?_, hp⟩
      rcases List.mem_cons.1 hu with rfl | hu
      · exact h1
      · exact wless_trans h1 (hc.1 u hu)
    · rw [e]; exact ih hc.2
    · rw [e]
      refine List.pairwise_cons.2 ⟨fun u hu => ?_, ih hc.2⟩
      rcases put0_mem w z ts false u hu with ⟨rfl, _⟩ | hu
      · exact h1
      · exact hc.1 u hu
theorem put0_gone_sorted (w : List Int) (z : Int) (ts : List (List Int × Int)) (hp : ts.Pairwise (fun a b => wless a.1 b.1 = true)) : (put0 w z ts true).Pairwise (fun a b => wless a.1 b.1 = true) := by
  induction ts with
  | nil => simp [put0]
  | cons t ts ih =>
    have hc := List.pairwise_cons.1 hp
    unfold put0
    rw [Bool.true_or, show (!true && wless w t.1) = false from rfl]
    by_cases h1 : t.1 = w
    · rw [if_pos h1]; exact ih hc.2
    · rw [if_neg h1]
      refine List.pairwise_cons.2 ⟨fun u hu => ?_, ih hc.2⟩
      rcases put0_mem w z ts true u hu with ⟨_, h⟩ | hu
      · cases h
      · exact hc.1 u hu
/-- a value put into a tidy sum: it is tidy, and its coefficients are those of the map -/
theorem putT_tidy (p : Int) (ts : List (List Int × Int)) (w : List Int) (v : Int) (h : Tidy ts) (hw : isWord w = true) : Tidy (putT p ts w v) := by
  unfold putT
  by_cases hz : (v + coeff ts w) % p = 0
  · rw [decide_eq_true hz]
    exact ⟨put0_gone_sorted _ _ _ h.1, fun t ht => by
      rcases put0_mem _ _ _ _ t ht with ⟨_, e⟩ | ht
      · cases e
      · exact h.2 t ht⟩
  · rw [decide_eq_false hz]
    exact ⟨put0_sorted _ _ _ h.1, fun t ht => by
      rcases put0_mem _ _ _ _ t ht with ⟨rfl, _⟩ | ht
      · exact ⟨hw, hz⟩
      · exact h.2 t ht⟩
theorem putT_coeff (p : Int) (ts : List (List Int × Int)) (w : List Int) (v : Int) (h : Tidy ts) (y : List Int) : coeff (putT p ts w v) y = if y = w then (v + coeff ts w) % p else coeff ts y := by
  unfold putT
  by_cases hz : (v + coeff ts w) % p = 0
  · rw [decide_eq_true hz, put0_gone, hz]
  · rw [decide_eq_false hz, put0_coeff _ _ _ h.1]

theorem coeff_of {ts : List (List Int × Int)} (hp : ts.Pairwise (fun a b => wless a.1 b.1 = true)) {t : List Int × Int} (ht : t ∈ ts) : coeff ts t.1 = t.2 := by
  induction ts with
  | nil => cases ht
  | cons u ts ih =>
    have hc := List.pairwise_cons.1 hp
    simp only [coeff]
    rcases List.mem_cons.1 ht with rfl | ht
    · rw [if_pos rfl]
    · have h1 := hc.1 t ht
      rw [if_neg (fun e => by rw [e, wless_irrefl] at h1; cases h1)]
      exact ih hc.2 ht
theorem coeff_zero {ts : List (List Int × Int)} {y : List Int} (h : ∀ t ∈ ts, t.1 ≠ y) : coeff ts y = 0 := by
  induction ts with
  | nil => rfl
  | cons u ts ih => simp only [coeff]; rw [if_neg (h u (List.mem_cons_self ..))]; exact ih fun t ht => h t (List.mem_cons_of_mem _ ht)
theorem strict_eq {l l' : List (List Int)} (h : l.Pairwise (fun a b => wless a b = true)) (h' : l'.Pairwise (fun a b => wless a b = true)) (hm : ∀ x, x ∈ l ↔ x ∈ l') : l = l' := by
  have nd : ∀ {m : List (List Int)}, m.Pairwise (fun a b => wless a b = true) → m.Nodup := fun hm => hm.imp fun {a b} hab e => by rw [e, wless_irrefl] at hab; cases hab
  exact List.Perm.eq_of_pairwise (le := fun a b => wless a b = true) (fun a b _ _ h1 h2 => by rw [wless_asymm h1] at h2; cases h2) h h' ((List.perm_ext_iff_of_nodup (nd h) (nd h')).2 hm)
/-- the keys of a map, sorted, with their coefficients: the tidy sum with these coefficients -/
theorem tidy_eq {ts : List (List Int × Int)} {f : List Int → Int} {ks : List KW} (h : Tidy ts) (hk : ks.Nodup) (hm : ∀ x : KW, x ∈ ks ↔ f x.1 ≠ 0) (hf : ∀ xs, isWord xs = true → coeff ts xs = f xs) :
    ((ks.mergeSort fun x y => !wless y.1 x.1).map fun x => (x.1, f x.1)) = ts := by
  have hso : (ks.mergeSort fun x y => !wless y.1 x.1).Pairwise (fun x y => wless x.1 y.1 = true) := by
    have h1 := List.pairwise_mergeSort (le := fun x y : KW => !wless y.1 x.1) (fun a b c h1 h2 => by simp only [Bool.not_eq_true'] at *; exact wless_ntrans h2 h1)
      (fun a b => by
        cases e : wless b.1 a.1 with
        | false => rfl
        | true => simp [wless_asymm e]) ks
    have h2 : (ks.mergeSort fun x y => !wless y.1 x.1).Nodup := (List.mergeSort_perm ks _).nodup_iff.2 hk
    refine (h1.and h2).imp fun {a b} hab => ?_
    cases e : wless a.1 b.1 with
    | true => rfl
    | false =>
      have h3 : wless b.1 a.1 = false := by simpa using hab.1
      exact absurd (Subtype.ext (wless_tri _ _ e h3)) hab.2
  have hw : (ks.mergeSort fun x y => !wless y.1 x.1).map (·.1) = ts.map (·.1) := by
    refine strict_eq (List.pairwise_map.2 hso) (List.pairwise_map.2 h.1) fun x => ?_
    constructor
    · intro hx
      obtain ⟨k, hk1, rfl⟩ := List.mem_map.1 hx
      have hk2 : f k.1 ≠ 0 := (hm k).1 ((List.mergeSort_perm ks _).mem_iff.1 hk1)
      by_cases e : ∃ t ∈ ts, t.1 = k.1
      · obtain ⟨t, ht, e⟩ := e; exact List.mem_map.2 ⟨t, ht, e⟩
      · exact absurd ((hf k.1 k.2).symm.trans (coeff_zero fun t ht e2 => e ⟨t, ht, e2⟩)) hk2
    · intro hx
      obtain ⟨t, ht, rfl⟩ := List.mem_map.1 hx
      obtain ⟨h1, h2⟩ := h.2 t ht
      have h3 : f t.1 ≠ 0 := by rw [← hf t.1 h1, coeff_of h.1 ht]; exact h2
      exact List.mem_map.2 ⟨⟨t.1, h1⟩, (List.mergeSort_perm ks _).mem_iff.2 ((hm ⟨t.1, h1⟩).2 h3), rfl⟩
  have e1 : ((ks.mergeSort fun x y => !wless y.1 x.1).map fun x => (x.1, f x.1)) = ((ks.mergeSort fun x y => !wless y.1 x.1).map (·.1)).map fun w => (w, f w) := by rw [List.map_map]; rfl
  rw [e1, hw, List.map_map]
  conv => rhs; rw [← List.map_id ts]
  refine List.map_congr_left fun t ht => ?_
  have h1 := h.2 t ht
  show (t.1, f t.1) = t
  rw [← hf t.1 h1.1, coeff_of h.1 ht]
end Go.Proofs.Ytofcldplgkejiaa

namespace Go.Proofs.Ytofcldplgkejiaa
set_option linter.unusedVariables false
set_option linter.unusedSimpArgs false

/-- terms put into a sum one after the other -/
def putAll (p : Int) (ts l : Tms) : Tms := l.foldl (fun ts t => putT p ts t.1 t.2) ts
/-- the same for coefficients alone -/
def addAll (p : Int) (f : List Int → Int) (l : Tms) : List Int → Int := l.foldl (fun f t => upd f t.1 ((f t.1 + t.2) % p)) f
theorem putAll_nil (p : Int) (ts : Tms) : putAll p ts [] = ts := rfl
theorem putAll_snoc (p : Int) (ts l : Tms) (t : List Int × Int) : putAll p ts (l ++ [t]) = putT p (putAll p ts l) t.1 t.2 := by unfold putAll; rw [List.foldl_append]; rfl
theorem addAll_snoc (p : Int) (f : List Int → Int) (l : Tms) (t : List Int × Int) : addAll p f (l ++ [t]) = upd (addAll p f l) t.1 ((addAll p f l t.1 + t.2) % p) := by unfold addAll; rw [List.foldl_append]; rfl
theorem coeff_nil_ (y : List Int) : coeff [] y = 0 := rfl
theorem tidy_nil : Tidy [] := ⟨List.Pairwise.nil, fun t ht => by cases ht⟩
theorem putAll_tidy (p : Int) (l : Tms) : ∀ ts, Tidy ts → (∀ t ∈ l, isWord t.1 = true) → Tidy (putAll p ts l) := by
  induction l with
  | nil => intro ts h _; exact h
  | cons t l ih => intro ts h hl; exact ih _ (putT_tidy p ts t.1 t.2 h (hl t (List.mem_cons_self ..))) (fun u hu => hl u (List.mem_cons_of_mem _ hu))
theorem putT_coeff_upd (p : Int) (ts : Tms) (w : List Int) (v : Int) (h : Tidy ts) : coeff (putT p ts w v) = upd (coeff ts) w ((coeff ts w + v) % p) := by
  funext y; rw [putT_coeff p ts w v h y, Int.add_comm]; rfl
theorem putAll_coeff (p : Int) (l : Tms) : ∀ ts, Tidy ts → (∀ t ∈ l, isWord t.1 = true) → coeff (putAll p ts l) = addAll p (coeff ts) l := by
  induction l with
  | nil => intro ts _ _; rfl
  | cons t l ih =>
    intro ts h hl
    have h1 := ih _ (putT_tidy p ts t.1 t.2 h (hl t (List.mem_cons_self ..))) (fun u hu => hl u (List.mem_cons_of_mem _ hu))
    show coeff (putAll p (putT p ts t.1 t.2) l) = addAll p (upd (coeff ts) t.1 ((coeff ts t.1 + t.2) % p)) l
    rw [h1, putT_coeff_upd p ts t.1 t.2 h]
theorem put0_length (w : List Int) (z : Int) (ts : Tms) : ∀ d, (put0 w z ts d).length ≤ ts.length + (if d then 0 else 1) := by
  induction ts with
  | nil => intro d; cases d <;> simp [put0]
  | cons t ts ih =>
    intro d
    rw [put0_eq]
    have h := ih (d || wless w t.1)
    cases d <;> cases e : wless w t.1 <;> rw [e] at h <;> (by_cases e2 : t.1 = w <;> simp [e2] at h ⊢ <;> omega)
theorem putT_length (p : Int) (ts : Tms) (w : List Int) (v : Int) : (putT p ts w v).length ≤ ts.length + 1 := by
  unfold putT
  refine Nat.le_trans (put0_length _ _ _ _) ?_
  split <;> omega
theorem putAll_length (p : Int) (l : Tms) : ∀ ts, (putAll p ts l).length ≤ ts.length + l.length := by
  induction l with
  | nil => intro ts; simp [putAll]
  | cons t l ih => intro ts; have h1 := ih (putT p ts t.1 t.2); have h2 := putT_length p ts t.1 t.2; have h3 : putAll p ts (t :: l) = putAll p (putT p ts t.1 t.2) l := rfl; rw [h3, List.length_cons]; omega
theorem tidy_need {ts : Tms} (h : Tidy ts) : need ts ≤ 13 * ts.length := by
  have h2 := h.2
  clear h
  induction ts with
  | nil => simp [need]
  | cons t ts ih =>
    have h1 := isWord_len (h2 t (List.mem_cons_self ..)).1
    have := ih (fun u hu => h2 u (List.mem_cons_of_mem _ hu))
    simp only [need, List.length_cons]; omega
/-- all coefficients are residues modulo p -/
def Resid (p : Int) (f : List Int → Int) : Prop := ∀ y, 0 ≤ f y ∧ f y < p
theorem resid_zero {p : Int} (hp : 0 < p) : Resid p (fun _ => 0) := fun y => ⟨Int.le_refl _, hp⟩
theorem resid_upd {p : Int} {f : List Int → Int} (hp : 0 < p) (h : Resid p f) (w : List Int) (x : Int) : Resid p (upd f w (x % p)) := by
  intro y
  unfold upd
  split
  · exact ⟨Int.emod_nonneg _ (by omega), Int.emod_lt_of_pos _ hp⟩
  · exact h y
theorem resid_addAll {p : Int} (hp : 0 < p) (l : Tms) : ∀ f, Resid p f → Resid p (addAll p f l) := by
  induction l with
  | nil => intro f h; exact h
  | cons t l ih => intro f h; exact ih _ (resid_upd hp h _ _)
theorem resid_putAll {p : Int} (hp : 0 < p) (l : Tms) {ts : Tms} (ht : Tidy ts) (hl : ∀ t ∈ l, isWord t.1 = true) (h : Resid p (coeff ts)) : Resid p (coeff (putAll p ts l)) := by
  rw [putAll_coeff p l ts ht hl]; exact resid_addAll hp l _ h
/-- a sum, and the code of whether it has not too many terms -/
def toldT (p : Int) (ts : Tms) : (Int × Tms) × Int := if 200 < ts.length then ((0, []), 3) else ((p, ts), 0)
end Go.Proofs.Ytofcldplgkejiaa
