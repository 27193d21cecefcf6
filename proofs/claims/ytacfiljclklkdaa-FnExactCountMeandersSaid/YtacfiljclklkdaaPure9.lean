/- Plain facts on the elimination modulo 2: what holds after each of its steps. -/
import Derived.Test.YtacfiljclklkdaaPure8
namespace Go.Proofs.Ytacfiljclklkdaa
set_option linter.unusedVariables false
set_option linter.unusedSimpArgs false
set_option maxRecDepth 100000

def Row01 (r : List Int) : Prop := ∀ y ∈ r, y = 0 ∨ y = 1
theorem Row01.at_ {r : List Int} (h : Row01 r) (k : Nat) : r[k]?.getD 0 = 0 ∨ r[k]?.getD 0 = 1 := by
  by_cases hk : k < r.length
  · rw [List.getElem?_eq_getElem hk]; exact h _ (List.getElem_mem hk)
  · rw [List.getElem?_eq_none (by omega)]; exact .inl rfl
theorem rowOf_01' (xs : List Int) (i : Nat) : Row01 (rowOf xs i) := fun y hy => by have := rowOf_01 xs i y hy; omega
/-- the first k numbers of a row as bits -/
def bitsUp (r : List Int) : Nat → Nat
  | 0 => 0
  | k + 1 => 2 ^ k * (r[k]?.getD 0).toNat + bitsUp r k
theorem bitsUp_lt {r : List Int} (h : Row01 r) (k : Nat) : bitsUp r k < 2 ^ k := by
  induction k with
  | zero => simp [bitsUp]
  | succ k ih =>
    unfold bitsUp
    rw [Nat.pow_succ]
    rcases h.at_ k with e | e <;> rw [e] <;> simp <;> omega
theorem bitsUp_bit {r : List Int} (h : Row01 r) (k j : Nat) : (bitsUp r k).testBit j = (decide (j < k) && decide (r[j]?.getD 0 = 1)) := by
  induction k with
  | zero => simp [bitsUp]
  | succ k ih =>
    unfold bitsUp
    rw [Nat.testBit_two_pow_mul_add _ (bitsUp_lt h k)]
    by_cases hj : j < k
    · rw [if_pos hj, ih]
      have h1 : j < k + 1 := by omega
      simp [hj, h1]
    · rw [if_neg hj]
      by_cases e : j = k
      · subst e
        rcases h.at_ j with e | e <;> rw [e] <;> simp
      · have h1 : ¬ j < k + 1 := by omega
        obtain ⟨d, hd⟩ : ∃ d, j - k = d + 1 := ⟨j - k - 1, by omega⟩
        rw [hd]
        rcases h.at_ k with e | e
        · rw [e]; simp [h1]
        · rw [e]; simp [h1]; exact Nat.testBit_lt_two_pow (Nat.one_lt_two_pow (by omega))
/-- one row and another one modulo 2, in the first k places -/
def addTo (m : Nat) (r s : List Int) (k : Nat) : List Int := (List.range m).map fun j => if j < k then (r[j]?.getD 0 + s[j]?.getD 0) % 2 else r[j]?.getD 0
@[simp] theorem addTo_length (m : Nat) (r s : List Int) (k : Nat) : (addTo m r s k).length = m := by simp [addTo]
theorem addTo_get (m : Nat) (r s : List Int) (k j : Nat) (h : j < m) : (addTo m r s k)[j]? = some (if j < k then (r[j]?.getD 0 + s[j]?.getD 0) % 2 else r[j]?.getD 0) := by simp [addTo, h]
theorem addTo_zero (m : Nat) (r s : List Int) (h : r.length = m) : addTo m r s 0 = r := by
  apply List.ext_getElem?
  intro j
  by_cases hj : j < m
  · rw [addTo_get _ _ _ _ _ hj, List.getElem?_eq_getElem (by omega)]; rfl
  · rw [List.getElem?_eq_none (by simp; omega), List.getElem?_eq_none (by omega)]
theorem addTo_step (m : Nat) (r s : List Int) (k : Nat) (hk : k < m) : (addTo m r s k).set k ((r[k]?.getD 0 + s[k]?.getD 0) % 2) = addTo m r s (k + 1) := by
  apply List.ext_getElem?
  intro j
  by_cases hj : j < m
  · rw [List.getElem?_set, addTo_get _ _ _ _ _ hj, addTo_get _ _ _ _ _ hj]
    by_cases e : k = j
    · subst e; simp [hj]
    · rw [if_neg e]
      by_cases h1 : j < k
      · rw [if_pos h1, if_pos (by omega)]
      · rw [if_neg h1, if_neg (by omega)]
  · rw [List.getElem?_eq_none (by simp; omega), List.getElem?_eq_none (by simp; omega)]
theorem addTo_01 {m : Nat} {r s : List Int} (hr : Row01 r) (hs : Row01 s) : Row01 (addTo m r s m) := by
  intro y hy
  obtain ⟨j, hj, e⟩ := List.getElem_of_mem hy
  have h := addTo_get m r s m j (by simpa using hj)
  rw [List.getElem?_eq_getElem hj, e] at h
  have := Option.some.inj h
  rw [if_pos (by simpa using hj)] at this
  rcases hr.at_ j with e1 | e1 <;> rcases hs.at_ j with e2 | e2 <;> rw [e1, e2] at this <;> omega
theorem addTo_bits {m : Nat} {r s : List Int} (hr : Row01 r) (hs : Row01 s) : bitsUp (addTo m r s m) m = bitsUp r m ^^^ bitsUp s m := by
  apply Nat.eq_of_testBit_eq
  intro j
  rw [Nat.testBit_xor, bitsUp_bit (addTo_01 hr hs), bitsUp_bit hr, bitsUp_bit hs]
  by_cases hj : j < m
  · rw [addTo_get _ _ _ _ _ hj, if_pos hj]
    rcases hr.at_ j with e1 | e1 <;> rcases hs.at_ j with e2 | e2 <;> rw [e1, e2] <;> simp [hj]
  · simp [hj]

/-- the number at p of row j -/
def bAt (R : List (List Int)) (j p : Nat) : Int := (R[j]?.getD [])[p]?.getD 0
def vec (m : Nat) (R : List (List Int)) (j : Nat) : Nat := bitsUp (R[j]?.getD []) m
/-- a vector among the rows -/
def VecIn (m : Nat) (R : List (List Int)) (v : Nat) : Prop := ∃ j, j < m ∧ v = vec m R j
/-- after the columns below c, with r pivots -/
structure RInv (m : Nat) (R0 R : List (List Int)) (c r : Nat) : Prop where
  len : R.length = m
  rows : ∀ j, j < m → (R[j]?.getD []).length = m ∧ Row01 (R[j]?.getD [])
  s1 : ∀ j, j < m → Spn (VecIn m R0) (vec m R j)
  s2 : ∀ j, j < m → Spn (VecIn m R) (vec m R0 j)
  piv : ∀ i, i < r → ∃ p, p < c ∧ bAt R i p = 1 ∧ ∀ j, i < j → j < m → bAt R j p = 0
  low : ∀ j p, r ≤ j → j < m → p < c → bAt R j p = 0
  hr : r ≤ c
  hc : c ≤ m
variable {m c r : Nat} {R0 R : List (List Int)}
theorem RInv.init (hl : R0.length = m) (hr : ∀ j, j < m → (R0[j]?.getD []).length = m ∧ Row01 (R0[j]?.getD [])) : RInv m R0 R0 0 0 :=
  ⟨hl, hr, fun j hj => Spn.mem ⟨j, hj, rfl⟩, fun j hj => Spn.mem ⟨j, hj, rfl⟩, fun i hi => by omega, fun j p _ _ hp => by omega, Nat.le_refl _, Nat.zero_le _⟩
theorem RInv.skip (h : RInv m R0 R c r) (hc : c < m) (h0 : ∀ j, r ≤ j → j < m → bAt R j c = 0) : RInv m R0 R (c + 1) r :=
  ⟨h.len, h.rows, h.s1, h.s2, fun i hi => by obtain ⟨p, hp, h1, h2⟩ := h.piv i hi; exact ⟨p, by omega, h1, h2⟩,
    fun j p hj hjm hp => by
      by_cases e : p = c
      · subst e; exact h0 j hj hjm
      · exact h.low j p hj hjm (by omega), by have := h.hr; omega, hc⟩
theorem RInv.pivot (h : RInv m R0 R c r) (hc : c < m) (hrm : r < m) (h1 : bAt R r c = 1) (h0 : ∀ j, r < j → j < m → bAt R j c = 0) : RInv m R0 R (c + 1) (r + 1) :=
  ⟨h.len, h.rows, h.s1, h.s2, fun i hi => by
      by_cases e : i = r
      · subst e; exact ⟨c, by omega, h1, h0⟩
      · obtain ⟨p, hp, h1, h2⟩ := h.piv i (by omega); exact ⟨p, by omega, h1, h2⟩,
    fun j p hj hjm hp => by
      by_cases e : p = c
      · subst e; exact h0 j (by omega) hjm
      · exact h.low j p (by omega) hjm (by omega), by have := h.hr; omega, hc⟩
/-- the place that a row comes from when f and r are exchanged -/
def sw (f r j : Nat) : Nat := if j = r then f else if j = f then r else j
theorem sw_inj {f r i j : Nat} (h : sw f r i = sw f r j) : i = j := by
  unfold sw at h
  split at h <;> split at h <;> (try split at h) <;> (try split at h) <;> omega
theorem sw_sw (f r j : Nat) : sw f r (sw f r j) = j := by
  unfold sw
  by_cases h1 : j = r
  · rw [if_pos h1]
    by_cases h2 : f = r
    · rw [if_pos h2]; omega
    · rw [if_neg h2, if_pos rfl]; omega
  · rw [if_neg h1]
    by_cases h2 : j = f
    · rw [if_pos h2, if_pos rfl]; omega
    · rw [if_neg h2, if_neg h1, if_neg h2]
def swapped {α : Type} (d : α) (l : List α) (f r : Nat) : List α := (l.set f (l[r]?.getD d)).set r (l[f]?.getD d)
theorem swapped_at {α : Type} (d : α) (l : List α) (f r j : Nat) (hf : f < l.length) (hr : r < l.length) : (swapped d l f r)[j]?.getD d = l[sw f r j]?.getD d := by
  unfold swapped sw
  rw [List.getElem?_set]
  by_cases h1 : r = j
  · subst h1
    rw [if_pos rfl, if_pos rfl]; simp [hr]
  · rw [if_neg h1, if_neg (fun e => h1 e.symm), List.getElem?_set]
    by_cases h2 : f = j
    · subst h2
      rw [if_pos rfl, if_pos rfl]; simp [hf]
    · rw [if_neg h2, if_neg (fun e => h2 e.symm)]
theorem RInv.swap (h : RInv m R0 R c r) (f : Nat) (hf : r ≤ f) (hfm : f < m) : RInv m R0 (swapped [] R f r) c r := by
  have hl := h.len
  have hrm : r < m := by omega
  have e : ∀ j, (swapped [] R f r)[j]?.getD [] = R[sw f r j]?.getD [] := fun j => swapped_at [] R f r j (by omega) (by omega)
  have hs : ∀ j, j < m → sw f r j < m := fun j hj => by unfold sw; split <;> (try split) <;> omega
  have hs2 : ∀ j, r ≤ j → r ≤ sw f r j := fun j hj => by unfold sw; split <;> (try split) <;> omega
  have hs3 : ∀ j, j < r → sw f r j = j := fun j hj => by unfold sw; rw [if_neg (by omega), if_neg (by omega)]
  have ev : ∀ j, vec m (swapped [] R f r) j = vec m R (sw f r j) := fun j => by unfold vec; rw [e]
  have eb : ∀ j p, bAt (swapped [] R f r) j p = bAt R (sw f r j) p := fun j p => by unfold bAt; rw [e]
  refine ⟨by unfold swapped; simp [hl], fun j hj => by rw [e]; exact h.rows _ (hs j hj), fun j hj => by rw [ev]; exact h.s1 _ (hs j hj), fun j hj => ?_, fun i hi => ?_, fun j p hj hjm hp => by rw [eb]; exact h.low _ p (hs2 j hj) (hs j hjm) hp, h.hr, h.hc⟩
  · refine Spn.sub (fun v hv => ?_) (h.s2 j hj)
    obtain ⟨i, hi, rfl⟩ := hv
    exact Spn.mem ⟨sw f r i, hs i hi, by rw [ev, sw_sw]⟩
  · obtain ⟨p, hp, h1, h2⟩ := h.piv i hi
    refine ⟨p, hp, by rw [eb, hs3 i hi]; exact h1, fun j hj hjm => ?_⟩
    rw [eb]
    by_cases hjr : j < r
    · rw [hs3 j hjr]; exact h2 j hj hjm
    · exact h2 _ (by have := hs2 j (by omega); omega) (hs j hjm)
theorem set_at {α : Type} (d : α) (l : List α) (i : Nat) (x : α) (j : Nat) (hi : i < l.length) : (l.set i x)[j]?.getD d = if j = i then x else l[j]?.getD d := by
  rw [List.getElem?_set]
  by_cases e : i = j
  · subst e; simp [hi]
  · rw [if_neg e, if_neg (fun x => e x.symm)]
theorem RInv.elim (h : RInv m R0 R c r) (i : Nat) (hi : r < i) (him : i < m) : RInv m R0 (R.set i (addTo m (R[i]?.getD []) (R[r]?.getD []) m)) c r := by
  have hl := h.len
  have hrm : r < m := by omega
  obtain ⟨li, hi01⟩ := h.rows i him
  obtain ⟨lr, hr01⟩ := h.rows r hrm
  have e : ∀ j, (R.set i (addTo m (R[i]?.getD []) (R[r]?.getD []) m))[j]?.getD [] = if j = i then addTo m (R[i]?.getD []) (R[r]?.getD []) m else R[j]?.getD [] := fun j => set_at [] R i _ j (by omega)
  have ev : ∀ j, vec m (R.set i (addTo m (R[i]?.getD []) (R[r]?.getD []) m)) j = if j = i then vec m R i ^^^ vec m R r else vec m R j := fun j => by
    unfold vec; rw [e]
    by_cases hj : j = i
    · rw [if_pos hj, if_pos hj, addTo_bits hi01 hr01]
    · rw [if_neg hj, if_neg hj]
  have eb : ∀ j p, p < m → bAt (R.set i (addTo m (R[i]?.getD []) (R[r]?.getD []) m)) j p = if j = i then (bAt R i p + bAt R r p) % 2 else bAt R j p := fun j p hp => by
    unfold bAt; rw [e]
    by_cases hj : j = i
    · rw [if_pos hj, if_pos hj, addTo_get _ _ _ _ _ hp, if_pos hp]; rfl
    · rw [if_neg hj, if_neg hj]
  have hcm := h.hc
  refine ⟨by simp [hl], fun j hj => ?_, fun j hj => ?_, fun j hj => ?_, fun a ha => ?_, fun j p hj hjm hp => ?_, h.hr, h.hc⟩
  · rw [e]; split
    · exact ⟨by simp, addTo_01 hi01 hr01⟩
    · exact h.rows j hj
  · rw [ev]; split
    · exact Spn.add (h.s1 i him) (h.s1 r hrm)
    · exact h.s1 j hj
  · refine Spn.sub (fun v hv => ?_) (h.s2 j hj)
    obtain ⟨a, ha, rfl⟩ := hv
    by_cases hai : a = i
    · subst hai
      have g1 : Spn (VecIn m (R.set a (addTo m (R[a]?.getD []) (R[r]?.getD []) m))) (vec m R a ^^^ vec m R r) := Spn.mem ⟨a, ha, by rw [ev, if_pos rfl]⟩
      have g2 : Spn (VecIn m (R.set a (addTo m (R[a]?.getD []) (R[r]?.getD []) m))) (vec m R r) := Spn.mem ⟨r, hrm, by rw [ev, if_neg (by omega)]⟩
      have := Spn.add g1 g2
      rwa [xor_back] at this
    · exact Spn.mem ⟨a, ha, by rw [ev, if_neg hai]⟩
  · obtain ⟨p, hp, h1, h2⟩ := h.piv a ha
    refine ⟨p, hp, by rw [eb _ _ (by omega), if_neg (by omega)]; exact h1, fun j hj hjm => ?_⟩
    rw [eb _ _ (by omega)]
    split
    · rw [h2 i (by omega) him, h2 r (by omega) hrm]; rfl
    · exact h2 j hj hjm
  · rw [eb _ _ (by omega)]
    split
    · rw [h.low i p (by omega) him hp, h.low r p (Nat.le_refl _) hrm hp]; rfl
    · exact h.low j p hj hjm hp
theorem tri_of : ∀ L : List Nat, (∀ i, i < L.length → ∃ p, (L[i]?.getD 0).testBit p = true ∧ ∀ j, i < j → j < L.length → (L[j]?.getD 0).testBit p = false) → Tri L := by
  intro L
  induction L with
  | nil => intro _; trivial
  | cons v L ih =>
    intro h
    refine ⟨?_, ih fun i hi => ?_⟩
    · obtain ⟨p, h1, h2⟩ := h 0 (by simp)
      refine ⟨p, by simpa using h1, fun u hu => ?_⟩
      obtain ⟨j, hj, e⟩ := List.getElem_of_mem hu
      have := h2 (j + 1) (by omega) (by simpa using hj)
      simpa [List.getElem?_eq_getElem hj, e] using this
    · obtain ⟨p, h1, h2⟩ := h (i + 1) (by simpa using hi)
      refine ⟨p, by simpa using h1, fun j hij hj => ?_⟩
      have := h2 (j + 1) (by omega) (by simpa using hj)
      simpa using this
/-- the rank of rows, by the basis -/
def vecs (m : Nat) (R : List (List Int)) : List Nat := R.map fun r => bitsUp r m
theorem vecs_mem (m : Nat) (R : List (List Int)) (hl : R.length = m) (v : Nat) : v ∈ vecs m R ↔ VecIn m R v := by
  unfold vecs VecIn vec
  constructor
  · intro h
    obtain ⟨x, hx, rfl⟩ := List.mem_map.1 h
    obtain ⟨j, hj, e⟩ := List.getElem_of_mem hx
    exact ⟨j, by omega, by rw [List.getElem?_eq_getElem hj, e]; rfl⟩
  · rintro ⟨j, hj, rfl⟩
    exact List.mem_map.2 ⟨R[j]'(by omega), List.getElem_mem _, by rw [List.getElem?_eq_getElem (by omega)]; rfl⟩
theorem RInv.rank (h : RInv m R0 R m r) (hl0 : R0.length = m) : (basisOf (vecs m R0)).length = r := by
  have hl := h.len
  have hrm := h.hr
  obtain ⟨b1, b2⟩ := basis_span (vecs m R0)
  have hlen : ((vecs m R).take r).length = r := by rw [List.length_take]; simp [vecs]; omega
  have hget : ∀ j, j < r → ((vecs m R).take r)[j]?.getD 0 = vec m R j := fun j hj => by
    rw [List.getElem?_take, if_pos hj]
    unfold vecs vec
    rw [List.getElem?_map, List.getElem?_eq_getElem (by omega)]; rfl
  have hbit : ∀ j p, j < m → p < m → (vec m R j).testBit p = decide (bAt R j p = 1) := fun j p hj hp => by
    unfold vec bAt; rw [bitsUp_bit (h.rows j hj).2]; simp [hp]
  have hA : Tri ((vecs m R).take r) := tri_of _ fun i hi => by
    rw [hlen] at hi
    obtain ⟨p, hp, h1, h2⟩ := h.piv i hi
    refine ⟨p, by rw [hget i hi, hbit i p (by omega) hp, h1]; rfl, fun j hij hj => ?_⟩
    rw [hlen] at hj
    rw [hget j hj, hbit j p (by omega) hp, h2 j hij (by omega)]; rfl
  have hz : ∀ j, r ≤ j → j < m → vec m R j = 0 := fun j hj hjm => by
    apply Nat.eq_of_testBit_eq
    intro p
    unfold vec
    rw [bitsUp_bit (h.rows j hjm).2, Nat.zero_testBit]
    by_cases hp : p < m
    · have := h.low j p hj hjm hp
      unfold bAt at this
      rw [this]; simp
    · simp [hp]
  have hs : ∀ v, VecIn m R v → Spn (fun u => u ∈ (vecs m R).take r) v := by
    rintro v ⟨j, hj, rfl⟩
    by_cases hjr : j < r
    · refine Spn.mem ?_
      show vec m R j ∈ (vecs m R).take r
      have hlt : j < ((vecs m R).take r).length := by omega
      have := hget j hjr
      rw [List.getElem?_eq_getElem hlt] at this
      exact this ▸ List.getElem_mem hlt
    · rw [hz j (by omega) hj]; exact Spn.zero
  have hin : ∀ v ∈ (vecs m R).take r, VecIn m R v := fun v hv => (vecs_mem m R hl v).1 (List.mem_of_mem_take hv)
  have := rank_uniq ((vecs m R).take r) (basisOf (vecs m R0)) hA (basis_top _).tri
    (fun v hv => by
      obtain ⟨j, hj, rfl⟩ := hin v hv
      refine Spn.sub (fun u hu => ?_) (h.s1 j hj)
      exact b2 u ((vecs_mem m R0 hl0 u).2 hu))
    (fun v hv => by
      refine Spn.sub (fun u hu => ?_) (b1 v hv)
      obtain ⟨j, hj, rfl⟩ := (vecs_mem m R0 hl0 u).1 hu
      exact Spn.sub hs (h.s2 j hj))
  omega
def rankOf (xs : List Int) : Int := ((basisOf (vecs (xs.length / 2) (rowsOf xs))).length : Nat)
end Go.Proofs.Ytacfiljclklkdaa
