/- Plain facts on transforms of lists: the numbers as they are, and as they are told up to a greatest one. -/
import Derived.Test.YtbbhdghjmofooaaPure3
namespace Go.Proofs.Ytbbhdghjmofooaa
set_option linter.unusedVariables false
set_option linter.unusedSimpArgs false

/-- the number at a place -/
def at0 (xs : List Int) (i : Nat) : Int := xs[i]?.getD 0
theorem at0_set (xs : List Int) (i j : Nat) (y : Int) (h : i < xs.length) : at0 (xs.set i y) j = if j = i then y else at0 xs j := by
  unfold at0
  rw [List.getElem?_set]
  by_cases e : i = j
  · subst e; simp [h]
  · rw [if_neg e, if_neg (Ne.symm e)]
theorem at0_out {xs : List Int} {i : Nat} (h : xs.length ≤ i) : at0 xs i = 0 := by unfold at0; rw [List.getElem?_eq_none h]; rfl
theorem ext0 {xs ys : List Int} (hl : xs.length = ys.length) (h : ∀ i, i < xs.length → at0 xs i = at0 ys i) : xs = ys := by
  apply List.ext_getElem hl
  intro i h1 h2
  have := h i h1
  unfold at0 at this
  rw [List.getElem?_eq_getElem h1, List.getElem?_eq_getElem h2] at this
  exact this
theorem mem_at0 {xs : List Int} {x : Int} (h : x ∈ xs) : ∃ i, i < xs.length ∧ at0 xs i = x := by
  obtain ⟨i, hi, rfl⟩ := List.mem_iff_getElem.1 h
  exact ⟨i, hi, by unfold at0; rw [List.getElem?_eq_getElem hi]; rfl⟩
theorem at0_mem {xs : List Int} {i : Nat} (h : i < xs.length) : at0 xs i ∈ xs := by
  unfold at0; rw [List.getElem?_eq_getElem h]; exact List.getElem_mem h

/-- one number more of the product with 1 / (1 - t^k) -/
def stepU (k i : Nat) (xs : List Int) : List Int := xs.set i (at0 xs i + at0 xs (i - k))
/-- the numbers from the place i on, f of them -/
def mulU (k : Nat) : Nat → Nat → List Int → List Int
  | _, 0, xs => xs
  | i, f + 1, xs => mulU k (i + 1) f (stepU k i xs)
/-- the whole product -/
def facU (k : Nat) (xs : List Int) : List Int := mulU k k (xs.length - k) xs
/-- some times -/
def powU (k : Nat) : Nat → List Int → List Int
  | 0, xs => xs
  | m + 1, xs => powU k m (facU k xs)
/-- for all numbers of a list, from k on -/
def allU : Nat → List Int → List Int → List Int
  | _, [], xs => xs
  | k, c :: cs, xs => allU (k + 1) cs (powU k c.toNat xs)
def oneU (m : Nat) : List Int := 1 :: List.replicate m 0

theorem stepU_len (k i : Nat) (xs : List Int) : (stepU k i xs).length = xs.length := by simp [stepU]
theorem mulU_len (k f : Nat) : ∀ (i : Nat) (xs : List Int), (mulU k i f xs).length = xs.length := by
  induction f with
  | zero => intro i xs; rfl
  | succ f ih => intro i xs; rw [mulU, ih, stepU_len]
theorem facU_len (k : Nat) (xs : List Int) : (facU k xs).length = xs.length := mulU_len _ _ _ _
theorem powU_len (k m : Nat) : ∀ xs : List Int, (powU k m xs).length = xs.length := by
  induction m with
  | zero => intro xs; rfl
  | succ m ih => intro xs; rw [powU, ih, facU_len]
theorem allU_len (cs : List Int) : ∀ (k : Nat) (xs : List Int), (allU k cs xs).length = xs.length := by
  induction cs with
  | nil => intro k xs; rfl
  | cons c cs ih => intro k xs; rw [allU, ih, powU_len]
theorem oneU_len (m : Nat) : (oneU m).length = m + 1 := by simp [oneU]

/-- no number is negative -/
def Nn (xs : List Int) : Prop := ∀ i, 0 ≤ at0 xs i
/-- no number has become less -/
def Up (xs ys : List Int) : Prop := ∀ i, at0 xs i ≤ at0 ys i
theorem Up.refl (xs : List Int) : Up xs xs := fun _ => Int.le_refl _
theorem Up.trans {xs ys zs : List Int} (h : Up xs ys) (h' : Up ys zs) : Up xs zs := fun i => Int.le_trans (h i) (h' i)
theorem Nn.up {xs ys : List Int} (h : Nn xs) (h' : Up xs ys) : Nn ys := fun i => Int.le_trans (h i) (h' i)
theorem stepU_up {k i : Nat} {xs : List Int} (h : Nn xs) : Up xs (stepU k i xs) := fun j => by
  by_cases hi : i < xs.length
  · unfold stepU
    rw [at0_set _ _ _ _ hi]
    split
    · rename_i e; subst e; have := h (j - k); omega
    · exact Int.le_refl _
  · unfold stepU; rw [List.set_eq_of_length_le (by omega)]; exact Int.le_refl _
theorem mulU_up {k : Nat} (f : Nat) : ∀ {i : Nat} {xs : List Int}, Nn xs → Up xs (mulU k i f xs) := by
  induction f with
  | zero => intro i xs h; exact Up.refl _
  | succ f ih => intro i xs h; exact (stepU_up h).trans (ih (h.up (stepU_up h)))
theorem facU_up {k : Nat} {xs : List Int} (h : Nn xs) : Up xs (facU k xs) := mulU_up _ h
theorem powU_up {k : Nat} (m : Nat) : ∀ {xs : List Int}, Nn xs → Up xs (powU k m xs) := by
  induction m with
  | zero => intro xs h; exact Up.refl _
  | succ m ih => intro xs h; exact (facU_up h).trans (ih (h.up (facU_up h)))
theorem allU_up (cs : List Int) : ∀ {k : Nat} {xs : List Int}, Nn xs → Up xs (allU k cs xs) := by
  induction cs with
  | nil => intro k xs h; exact Up.refl _
  | cons c cs ih => intro k xs h; exact (powU_up _ h).trans (ih (h.up (powU_up _ h)))
theorem oneU_nn (m : Nat) : Nn (oneU m) := fun i => by
  unfold at0 oneU
  cases i with
  | zero => simp
  | succ i =>
    simp only [List.getElem?_cons_succ, List.getElem?_replicate]
    split <;> simp
theorem oneU_0 (m : Nat) : at0 (oneU m) 0 = 1 := rfl

/-- a number as it is told: not above C -/
def cp (C x : Int) : Int := if x ≤ C then x else C
def capL (C : Int) (xs : List Int) : List Int := xs.map (cp C)
theorem capL_len (C : Int) (xs : List Int) : (capL C xs).length = xs.length := by simp [capL]
theorem cp_0 {C : Int} (h : 0 ≤ C) : cp C 0 = 0 := by unfold cp; rw [if_pos h]
theorem capL_at {C : Int} (h : 0 ≤ C) (xs : List Int) (i : Nat) : at0 (capL C xs) i = cp C (at0 xs i) := by
  unfold at0 capL
  rw [List.getElem?_map]
  cases xs[i]? with
  | none => exact (cp_0 h).symm
  | some x => rfl
theorem cp_bd {C x : Int} (h : 0 ≤ x) (hC : 0 ≤ C) : 0 ≤ cp C x ∧ cp C x ≤ C := by unfold cp; split <;> omega
theorem cp_le {C x : Int} : cp C x ≤ x := by unfold cp; split <;> omega
theorem cp_add {C a b : Int} (ha : 0 ≤ a) (hb : 0 ≤ b) (hC : 0 ≤ C) : cp C (cp C a + cp C b) = cp C (a + b) := by
  unfold cp
  split <;> split <;> split <;> (try split) <;> omega
theorem cp_min (C x : Int) : cp C x = min x C := by unfold cp; split <;> omega
theorem capL_step {C : Int} (hC : 0 ≤ C) {xs : List Int} (h : Nn xs) (k i : Nat) (hi : i < xs.length) :
    (capL C xs).set i (cp C (at0 (capL C xs) i + at0 (capL C xs) (i - k))) = capL C (stepU k i xs) := by
  apply ext0 (by simp [capL_len, stepU_len])
  intro j hj
  rw [at0_set _ _ _ _ (by rw [capL_len]; exact hi), capL_at hC, capL_at hC, capL_at hC, capL_at hC]
  unfold stepU
  rw [at0_set _ _ _ _ hi]
  split
  · exact cp_add (h i) (h (i - k)) hC
  · rfl
theorem capL_self {C : Int} {xs : List Int} (h : ∀ i, at0 xs i ≤ C) : capL C xs = xs := by
  apply ext0 (capL_len _ _)
  intro j hj
  have hj' : j < xs.length := by rwa [capL_len] at hj
  unfold at0 capL
  rw [List.getElem?_map, List.getElem?_eq_getElem hj']
  have := h j
  unfold at0 at this
  rw [List.getElem?_eq_getElem hj'] at this
  show cp C xs[j] = xs[j]
  unfold cp
  exact if_pos this
theorem capL_over {C : Int} (hC : 0 ≤ C) {xs : List Int} {D : Int} (hD : D < C) (i : Nat) : at0 (capL C xs) i ≤ D ↔ at0 xs i ≤ D := by
  rw [capL_at hC]; unfold cp; split <;> omega
theorem oneU_cap {C : Int} (h : 1 ≤ C) (m : Nat) : capL C (oneU m) = oneU m := capL_self (fun i => by
  unfold at0 oneU
  cases i with
  | zero => simpa using h
  | succ i =>
    simp only [List.getElem?_cons_succ, List.getElem?_replicate]
    split <;> simp <;> omega)

/-- all numbers are in 0..m -/
def upTo0 (m x : Int) : Bool := decide (0 ≤ x) && decide (x ≤ m)
def within0 (m : Int) (xs : List Int) : Bool := xs.all (upTo0 m)
theorem upTo0_iff {m x : Int} : upTo0 m x = true ↔ 0 ≤ x ∧ x ≤ m := by simp [upTo0]
theorem within0_at {m : Int} {xs : List Int} (h : within0 m xs = true) {i : Nat} (hi : i < xs.length) : 0 ≤ at0 xs i ∧ at0 xs i ≤ m := by
  unfold within0 at h
  exact upTo0_iff.1 (List.all_eq_true.1 h _ (at0_mem hi))
theorem within0_of {m : Int} {xs : List Int} (h : ∀ i, i < xs.length → 0 ≤ at0 xs i ∧ at0 xs i ≤ m) : within0 m xs = true := by
  unfold within0
  rw [List.all_eq_true]
  intro x hx
  obtain ⟨i, hi, rfl⟩ := mem_at0 hx
  exact upTo0_iff.2 (h i hi)
theorem within0_cap {C m : Int} (hC : 0 ≤ C) (hm : m < C) {xs : List Int} (h : Nn xs) : within0 m (capL C xs) = within0 m xs := by
  rw [Bool.eq_iff_iff]
  constructor
  · intro hw
    refine within0_of (fun i hi => ⟨h i, ?_⟩)
    have := (within0_at hw (i := i) (by rwa [capL_len])).2
    exact (capL_over hC hm i).1 this
  · intro hw
    refine within0_of (fun i hi => ?_)
    rw [capL_len] at hi
    have := within0_at hw hi
    rw [capL_at hC]
    exact ⟨(cp_bd this.1 hC).1, Int.le_trans cp_le this.2⟩
theorem cap_within {m C : Int} (hC : m ≤ C) (hm : 0 ≤ m) {xs : List Int} (h : within0 m xs = true) : capL C xs = xs := capL_self (fun i => by
  by_cases hi : i < xs.length
  · have := within0_at h hi; omega
  · rw [at0_out (by omega)]; omega)

/-- the numbers of the transform, as they are -/
def tcNum (cs : List Int) : List Int := allU 1 cs (oneU cs.length)
def tcOf (cs : List Int) : List Int × Int :=
  if decide (cs.length ≤ 20) && within0 1000 cs then (if within0 1000000000 (tcNum cs) then (tcNum cs, 0) else ([], 3)) else ([], 2)
theorem tcNum_len (cs : List Int) : (tcNum cs).length = cs.length + 1 := by unfold tcNum; rw [allU_len, oneU_len]
theorem tcNum_nn (cs : List Int) : Nn (tcNum cs) := (oneU_nn _).up (allU_up _ (oneU_nn _))

/-- the list whose transform is told from k on: series xs, numbers that are left -/
def unt (ls : List Int) : Nat → Nat → List Int → Option (List Int)
  | _, 0, _ => some []
  | k, f + 1, xs => if upTo0 1000 (at0 ls k - at0 xs k) then (unt ls (k + 1) f (powU k (at0 ls k - at0 xs k).toNat xs)).map (fun r => (at0 ls k - at0 xs k) :: r) else none
def utOf (ls : List Int) : List Int × Int :=
  if decide (1 ≤ ls.length) && decide (ls.length ≤ 21) && (at0 ls 0 == 1) && within0 1000000000 ls then
    (match unt ls 1 (ls.length - 1) (oneU (ls.length - 1)) with | some r => (r, 0) | none => ([], 5)) else ([], 2)
theorem unt_len (ls : List Int) (f : Nat) : ∀ (k : Nat) (xs r : List Int), unt ls k f xs = some r → r.length = f := by
  induction f with
  | zero => intro k xs r h; rw [unt] at h; cases h; rfl
  | succ f ih =>
    intro k xs r h
    rw [unt] at h
    split at h
    · cases hu : unt ls (k + 1) f (powU k (at0 ls k - at0 xs k).toNat xs) with
      | none => rw [hu] at h; cases h
      | some r' =>
        rw [hu] at h
        cases h
        rw [List.length_cons, ih _ _ _ hu]
    · cases h
theorem unt_go {ls : List Int} {k f : Nat} {xs : List Int} (h : upTo0 1000 (at0 ls k - at0 xs k) = true) :
    unt ls k (f + 1) xs = (unt ls (k + 1) f (powU k (at0 ls k - at0 xs k).toNat xs)).map (fun r => (at0 ls k - at0 xs k) :: r) := by rw [unt, if_pos h]
theorem unt_stop {ls : List Int} {k f : Nat} {xs : List Int} (h : upTo0 1000 (at0 ls k - at0 xs k) = false) : unt ls k (f + 1) xs = none := by rw [unt, if_neg (by rw [h]; decide)]
theorem cap_own {l x C : Int} (hC : 1000000001 ≤ C) (hl : 0 ≤ l ∧ l ≤ 1000000000) (hx : 0 ≤ x) : upTo0 1000 (l - cp C x) = upTo0 1000 (l - x) ∧ (upTo0 1000 (l - x) = true → cp C x = x) := by
  unfold cp
  split
  · exact ⟨rfl, fun _ => rfl⟩
  · have h1 : upTo0 1000 (l - C) = false := by simp [upTo0]; omega
    have h2 : upTo0 1000 (l - x) = false := by simp [upTo0]; omega
    exact ⟨by rw [h1, h2], fun h => by rw [h2] at h; cases h⟩
end Go.Proofs.Ytbbhdghjmofooaa
