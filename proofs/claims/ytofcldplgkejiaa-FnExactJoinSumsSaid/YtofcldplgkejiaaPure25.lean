/- Plain: what the functions of sums make: the terms that they put into a sum. -/
import Derived.Test.YtofcldplgkejiaaPure16
import Derived.Test.YtofcldplgkejiaaPure18
namespace Go.Proofs.Ytofcldplgkejiaa
set_option linter.unusedVariables false
set_option linter.unusedSimpArgs false

/-- a sum's terms: words, values in 1..p - 1, in order -/
theorem isSum_mem {p : Int} {ts : Tms} (h : isSum p ts = true) {t : List Int × Int} (ht : t ∈ ts) : isWord t.1 = true ∧ 1 ≤ t.2 ∧ t.2 ≤ p - 1 := by
  obtain ⟨j, hj, rfl⟩ := List.getElem_of_mem ht
  have h1 := isSum_at h hj
  rw [tm_at ts j hj]
  exact ⟨termOk_word h1, termOk_val h1⟩
theorem isSum_less {p : Int} {ts : Tms} (h : isSum p ts = true) (j : Nat) (hj : j + 1 < ts.length) : wless (wd ts j) (wd ts (j + 1)) = true := by
  have h1 := isSum_at h hj
  simp only [termOk, Bool.and_eq_true, Bool.or_eq_true, decide_eq_true_eq] at h1
  rcases h1.2.2 with e | e
  · omega
  · simpa using e
theorem isSum_less2 {p : Int} {ts : Tms} (h : isSum p ts = true) (i : Nat) : ∀ d, i + d + 1 < ts.length → wless (wd ts i) (wd ts (i + d + 1)) = true := by
  intro d
  induction d with
  | zero => intro hd; exact isSum_less h i hd
  | succ d ih => intro hd; exact wless_trans (ih (by omega)) (isSum_less h (i + d + 1) hd)
theorem isSum_tidy {p : Int} {ts : Tms} (h : isSum p ts = true) : Tidy ts := by
  refine ⟨List.pairwise_iff_getElem.2 fun i j hi hj hij => ?_, fun t ht => ?_⟩
  · have h1 := isSum_less2 h i (j - i - 1) (by omega)
    rw [show i + (j - i - 1) + 1 = j by omega] at h1
    rw [tm_at ts i hi, tm_at ts j hj]
    exact h1
  · have h1 := isSum_mem h ht
    exact ⟨h1.1, by omega⟩
theorem isSum_need {p : Int} {ts : Tms} (h : isSum p ts = true) : need ts ≤ 2600 := by
  have h1 := tidy_need (isSum_tidy h)
  have h2 := isSum_len h
  omega

/-- each word turned -/
def mapL (f : List Int → List Int) (ts : Tms) : Tms := ts.map fun t => (f t.1, t.2)
theorem mapL_take (f : List Int → List Int) (ts : Tms) (k : Nat) (h : k < ts.length) : mapL f (ts.take (k + 1)) = mapL f (ts.take k) ++ [(f (wd ts k), vl ts k)] := by
  unfold mapL; rw [tm_take ts k h, List.map_append]; rfl
theorem mapL_length (f : List Int → List Int) (ts : Tms) : (mapL f ts).length = ts.length := by simp [mapL]
/-- some words alone -/
def partL (n : Int) (ts : Tms) : Tms := ts.filter fun t => decide ((t.1.length : Int) = 2 * n)
theorem partL_take (n : Int) (ts : Tms) (k : Nat) (h : k < ts.length) :
    partL n (ts.take (k + 1)) = partL n (ts.take k) ++ (if ((wd ts k).length : Int) = 2 * n then [(wd ts k, vl ts k)] else []) := by
  unfold partL
  rw [tm_take ts k h, List.filter_append]
  by_cases e : ((wd ts k).length : Int) = 2 * n
  · rw [if_pos e]; simp [e]
  · rw [if_neg e]; simp [e]
theorem partL_length (n : Int) (ts : Tms) : (partL n ts).length ≤ ts.length := List.length_filter_le _ _
/-- each chord deleted -/
def derW (w : List Int) (v : Int) (k : Nat) : Tms := (List.range k).map fun i : Nat => (without w (i : Int), v)
theorem derW_succ (w : List Int) (v : Int) (k : Nat) : derW w v (k + 1) = derW w v k ++ [(without w (k : Int), v)] := by
  unfold derW; rw [List.range_succ, List.map_append]; rfl
def derL (ts : Tms) : Tms := ts.flatMap fun t => derW t.1 t.2 (t.1.length / 2)
theorem derL_take (ts : Tms) (k : Nat) (h : k < ts.length) : derL (ts.take (k + 1)) = derL (ts.take k) ++ derW (wd ts k) (vl ts k) ((wd ts k).length / 2) := by
  unfold derL; rw [tm_take ts k h, List.flatMap_append]; simp
/-- a sum times a number -/
def timesL (c : Int) (ts : Tms) : Tms := ts.map fun t => (t.1, c * t.2)
theorem timesL_take (c : Int) (ts : Tms) (k : Nat) (h : k < ts.length) : timesL c (ts.take (k + 1)) = timesL c (ts.take k) ++ [(wd ts k, c * vl ts k)] := by
  unfold timesL; rw [tm_take ts k h, List.map_append]; rfl
theorem timesL_length (c : Int) (ts : Tms) : (timesL c ts).length = ts.length := by simp [timesL]
/-- a word joined with all words of a sum -/
def joinW (w : List Int) (v : Int) (us : Tms) : Tms := us.map fun u => (joined w u.1, v * u.2)
theorem joinW_take (w : List Int) (v : Int) (us : Tms) (k : Nat) (h : k < us.length) : joinW w v (us.take (k + 1)) = joinW w v (us.take k) ++ [(joined w (wd us k), v * vl us k)] := by
  unfold joinW; rw [tm_take us k h, List.map_append]; rfl
def joinL (ts us : Tms) : Tms := ts.flatMap fun t => joinW t.1 t.2 us
theorem joinL_take (ts us : Tms) (k : Nat) (h : k < ts.length) : joinL (ts.take (k + 1)) us = joinL (ts.take k) us ++ joinW (wd ts k) (vl ts k) us := by
  unfold joinL; rw [tm_take ts k h, List.flatMap_append]; simp

/-- words whose values are no less than 0 and not large -/
def Plain (l : Tms) : Prop := ∀ t ∈ l, isWord t.1 = true ∧ 0 ≤ t.2 ∧ t.2 ≤ 1024
theorem Plain.words {l : Tms} (h : Plain l) : ∀ t ∈ l, isWord t.1 = true := fun t ht => (h t ht).1
theorem plain_nil : Plain [] := fun t ht => by cases ht
theorem Plain.snoc {l : Tms} (h : Plain l) {w : List Int} {v : Int} (hw : isWord w = true) (hv : 0 ≤ v ∧ v ≤ 1024) : Plain (l ++ [(w, v)]) := by
  intro t ht
  rcases List.mem_append.1 ht with ht | ht
  · exact h t ht
  · rw [List.mem_singleton] at ht; subst ht; exact ⟨hw, hv⟩
theorem Plain.app {l l' : Tms} (h : Plain l) (h' : Plain l') : Plain (l ++ l') := fun t ht => (List.mem_append.1 ht).elim (h t) (h' t)
theorem isSum_plain {p : Int} {ts : Tms} (h : isSum p ts = true) : Plain ts := fun t ht => by
  have h1 := isSum_mem h ht
  have h2 := prime_bd (isSum_prime h)
  exact ⟨h1.1, by omega, by omega⟩
theorem Plain.take {l : Tms} (h : Plain l) (k : Nat) : Plain (l.take k) := fun t ht => h t (List.mem_of_mem_take ht)
theorem plain_mapL {f : List Int → List Int} {ts : Tms} (h : Plain ts) (hf : ∀ w, isWord w = true → isWord (f w) = true) : Plain (mapL f ts) := by
  intro t ht
  unfold mapL at ht
  obtain ⟨u, hu, rfl⟩ := List.mem_map.1 ht
  exact ⟨hf _ (h u hu).1, (h u hu).2⟩
theorem plain_partL {n : Int} {ts : Tms} (h : Plain ts) : Plain (partL n ts) := fun t ht => h t (List.mem_filter.1 ht).1
theorem plain_derW {w : List Int} {v : Int} {k : Nat} (hw : isWord w = true) (hv : 0 ≤ v ∧ v ≤ 1024) : Plain (derW w v k) := by
  intro t ht
  unfold derW at ht
  obtain ⟨i, _, rfl⟩ := List.mem_map.1 ht
  exact ⟨without_word hw _, hv⟩
theorem plain_derL {ts : Tms} (h : Plain ts) : Plain (derL ts) := by
  intro t ht
  unfold derL at ht
  obtain ⟨u, hu, ht⟩ := List.mem_flatMap.1 ht
  exact plain_derW (h u hu).1 (h u hu).2 t ht
theorem plain_timesL {c : Int} {ts : Tms} (h : Plain ts) (hc : ∀ t ∈ ts, 0 ≤ c * t.2 ∧ c * t.2 ≤ 1024) : Plain (timesL c ts) := by
  intro t ht
  unfold timesL at ht
  obtain ⟨u, hu, rfl⟩ := List.mem_map.1 ht
  exact ⟨(h u hu).1, hc u hu⟩
/-- what a plain list makes: a tidy sum, its coefficients, residues -/
theorem putAll_facts {p : Int} (hp : 0 < p) {l : Tms} (h : Plain l) : Tidy (putAll p [] l) ∧ (∀ xs, coeff (putAll p [] l) xs = addAll p (fun _ => 0) l xs) ∧ Resid p (addAll p (fun _ => 0) l) ∧ need (putAll p [] l) ≤ 13 * l.length := by
  have h1 := putAll_tidy p l [] tidy_nil h.words
  refine ⟨h1, fun xs => by rw [putAll_coeff p l [] tidy_nil h.words]; rfl, resid_addAll hp l _ (resid_zero hp), ?_⟩
  have h2 := tidy_need h1
  have h3 := putAll_length p l []
  simp only [List.length_nil] at h3
  omega
/-- a tidy sum of residues, put into nothing, is itself -/
theorem coeff_ext {p : Int} {ts us : Tms} (h : Tidy ts) (h' : Tidy us) (he : ∀ xs, coeff ts xs = coeff us xs) : ts = us := by
  have hmem : ∀ {a b : Tms}, Tidy a → Tidy b → (∀ xs, coeff a xs = coeff b xs) → ∀ t ∈ a, t ∈ b := by
    intro a b ha hb hab t ht
    have h1 := coeff_of ha.1 ht
    rw [hab] at h1
    by_cases e : ∃ u ∈ b, u.1 = t.1
    · obtain ⟨u, hu, e⟩ := e
      have h2 := coeff_of hb.1 hu
      rw [e, h1] at h2
      have : u = t := Prod.ext e h2.symm
      rw [← this]; exact hu
    · have h2 := coeff_zero (ts := b) (y := t.1) (fun u hu e2 => e ⟨u, hu, e2⟩)
      exact absurd (h1.symm.trans h2) (ha.2 t ht).2
  have nd : ∀ {m : Tms}, m.Pairwise (fun a b => wless a.1 b.1 = true) → m.Nodup := fun hm => hm.imp fun {a b} hab e => by rw [e, wless_irrefl] at hab; cases hab
  exact List.Perm.eq_of_pairwise (le := fun a b : List Int × Int => wless a.1 b.1 = true) (fun a b _ _ h1 h2 => by rw [wless_asymm h1] at h2; cases h2) h.1 h'.1 ((List.perm_ext_iff_of_nodup (nd h.1) (nd h'.1)).2 fun t => ⟨hmem h h' he t, hmem h' h (fun xs => (he xs).symm) t⟩)
theorem addAll_other (p : Int) (l : Tms) (y : List Int) : ∀ f : List Int → Int, (∀ t ∈ l, t.1 ≠ y) → addAll p f l y = f y := by
  induction l with
  | nil => intro f _; rfl
  | cons t l ih =>
    intro f h
    have h1 := ih (upd f t.1 ((f t.1 + t.2) % p)) (fun u hu => h u (List.mem_cons_of_mem _ hu))
    refine h1.trans ?_
    unfold upd
    rw [if_neg (fun e => h t (List.mem_cons_self ..) e.symm)]
theorem addAll_self {p : Int} {ts : Tms} (h : Tidy ts) (hv : ∀ t ∈ ts, 0 ≤ t.2 ∧ t.2 < p) (y : List Int) : ∀ f : List Int → Int, (∀ t ∈ ts, f t.1 = 0) → addAll p f ts y = if y ∈ ts.map (·.1) then coeff ts y else f y := by
  induction ts with
  | nil => intro f _; simp [addAll]
  | cons t ts ih =>
    intro f hf
    have hc := List.pairwise_cons.1 h.1
    have hne : ∀ u ∈ ts, u.1 ≠ t.1 := fun u hu e => by have := hc.1 u hu; rw [e, wless_irrefl] at this; cases this
    have h2 : Tidy ts := ⟨hc.2, fun u hu => h.2 u (List.mem_cons_of_mem _ hu)⟩
    have h1 := ih h2 (fun u hu => hv u (List.mem_cons_of_mem _ hu)) (upd f t.1 ((f t.1 + t.2) % p)) (fun u hu => by
      unfold upd; rw [if_neg (hne u hu)]; exact hf u (List.mem_cons_of_mem _ hu))
    have h3 : addAll p f (t :: ts) y = addAll p (upd f t.1 ((f t.1 + t.2) % p)) ts y := rfl
    rw [h3, h1]
    have hv0 := hv t (List.mem_cons_self ..)
    by_cases e : y = t.1
    · have hno : ¬ y ∈ ts.map (·.1) := fun hm => by obtain ⟨u, hu, e2⟩ := List.mem_map.1 hm; exact hne u hu (e2.trans e)
      rw [if_neg hno, if_pos (by rw [e]; simp)]
      unfold upd
      rw [if_pos e, hf t (List.mem_cons_self ..), Int.zero_add, Int.emod_eq_of_lt hv0.1 hv0.2]
      simp only [coeff]; rw [if_pos e.symm]
    · by_cases hm : y ∈ ts.map (·.1)
      · rw [if_pos hm, if_pos (by simp only [List.map_cons]; exact List.mem_cons_of_mem _ hm)]
        simp only [coeff]; rw [if_neg (fun e2 => e e2.symm)]
      · rw [if_neg hm, if_neg (by
          intro hm2
          simp only [List.map_cons] at hm2
          rcases List.mem_cons.1 hm2 with e2 | e2
          · exact e e2
          · exact hm e2)]
        unfold upd; rw [if_neg e]
theorem putAll_self {p : Int} {ts : Tms} (h : isSum p ts = true) : putAll p [] ts = ts := by
  have ht := isSum_tidy h
  refine coeff_ext (p := p) (putAll_tidy p ts [] tidy_nil fun t hm => (ht.2 t hm).1) ht fun xs => ?_
  rw [putAll_coeff p ts [] tidy_nil fun t hm => (ht.2 t hm).1]
  have h1 := addAll_self (p := p) ht (fun t hm => by have := isSum_mem h hm; omega) xs (coeff []) (fun t _ => rfl)
  rw [h1]
  split
  · rfl
  · rename_i hno
    exact (coeff_zero (ts := ts) (y := xs) fun t hm e => hno (List.mem_map.2 ⟨t, hm, e⟩)).symm
theorem putAll_app (p : Int) (ts a b : Tms) : putAll p ts (a ++ b) = putAll p (putAll p ts a) b := by unfold putAll; rw [List.foldl_append]
theorem putAll_of_sum {p : Int} {ts : Tms} (h : isSum p ts = true) (l : Tms) : putAll p [] (ts ++ l) = putAll p ts l := by rw [putAll_app, putAll_self h]

/-- the answers -/
def sumRes (p : Int) (ts l : Tms) : (Int × Tms) × Int := if isSum p ts then toldT p (putAll p [] l) else ((0, []), 1)
theorem sumRes_no {p : Int} {ts : Tms} (l : Tms) (h : isSum p ts = false) : sumRes p ts l = ((0, []), 1) := by unfold sumRes; rw [if_neg (by rw [h]; decide)]
theorem sumRes_yes {p : Int} {ts : Tms} (l : Tms) (h : isSum p ts = true) : sumRes p ts l = toldT p (putAll p [] l) := by unfold sumRes; rw [if_pos h]
theorem toldT_few {p : Int} {l : Tms} (h : l.length ≤ 200) : toldT p (putAll p [] l) = ((p, putAll p [] l), 0) := by
  have h1 := putAll_length p l []
  simp only [List.length_nil] at h1
  unfold toldT; rw [if_neg (by omega)]
def sumOfWord (p : Int) (w : List Int) (v : Int) : (Int × Tms) × Int := if isWord w then (if prime p && inB v 0 (p - 1) then toldT p (putAll p [] [(w, v)]) else ((0, []), 2)) else ((0, []), 1)
def partOfSum (p : Int) (ts : Tms) (n : Int) : (Int × Tms) × Int := if isSum p ts then (if inB n 0 6 then toldT p (putAll p [] (partL n ts)) else ((0, []), 2)) else ((0, []), 1)
def rotW (k : Int) (w : List Int) : List Int := if w.length = 0 then w else rot w (k.toNat % w.length)
theorem rotW_word {k : Int} {w : List Int} (h : isWord w = true) : isWord (rotW k w) = true := by
  unfold rotW; split
  · exact h
  · exact rot_word h _
def rotateSum (p : Int) (ts : Tms) (k : Int) : (Int × Tms) × Int := if isSum p ts then (if inB k 0 1000 then toldT p (putAll p [] (mapL (rotW k) ts)) else ((0, []), 2)) else ((0, []), 1)
/-- two sums with the same prime -/
def likeC (p : Int) (ts : Tms) (q : Int) (us : Tms) : Int := if isSum p ts && isSum q us then (if p = q then 0 else 2) else 1
def addSums (p : Int) (ts : Tms) (q : Int) (us : Tms) (k : Int) : (Int × Tms) × Int :=
  if likeC p ts q us = 0 then (if inB k 0 (p - 1) then toldT p (putAll p [] (ts ++ timesL k us)) else ((0, []), 2)) else ((0, []), likeC p ts q us)
/-- no word of the product is too long -/
def fits (ts us : Tms) : Bool := ts.all fun t => us.all fun u => decide (t.1.length + u.1.length ≤ 12)
def joinSums (p : Int) (ts : Tms) (q : Int) (us : Tms) : (Int × Tms) × Int :=
  if likeC p ts q us = 0 then (if fits ts us then toldT p (putAll p [] (joinL ts us)) else ((0, []), 3)) else ((0, []), likeC p ts q us)
end Go.Proofs.Ytofcldplgkejiaa
