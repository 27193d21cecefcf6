/- As many leaders as parts. -/
import Derived.Test.YthpddknpiiiccaaDoorWebPure
namespace Go.Proofs.YthpddknpiiiccaaDoor
open Go.RowKit
set_option linter.unusedVariables false
set_option linter.unusedSimpArgs false

/-- the items that lead themselves -/
def leadsL (os : List Int) : List Int := ((List.range os.length).filter (fun i : Nat => os[i]?.getD 0 == (i : Int))).map (fun i : Nat => (i : Int))
theorem leadsL_mem {os : List Int} {z : Int} : z ∈ leadsL os ↔ ∃ i : Nat, z = i ∧ i < os.length ∧ os[i]?.getD 0 = i := by
  unfold leadsL
  simp only [List.mem_map, List.mem_filter, List.mem_range, beq_iff_eq]
  constructor
  · rintro ⟨i, ⟨h1, h2⟩, rfl⟩; exact ⟨i, rfl, h1, h2⟩
  · rintro ⟨i, rfl, h1, h2⟩; exact ⟨i, ⟨h1, h2⟩, rfl⟩
theorem nodup_inj {l : List Nat} (h : l.Nodup) : (l.map (fun i : Nat => (i : Int))).Nodup := by
  induction l with
  | nil => simp
  | cons a l ih =>
    rw [List.nodup_cons] at h
    rw [List.map_cons, List.nodup_cons]
    refine ⟨fun hm => ?_, ih h.2⟩
    obtain ⟨b, hb, e⟩ := List.mem_map.1 hm
    have : b = a := by omega
    exact h.1 (this ▸ hb)
theorem leadsL_nodup (os : List Int) : (leadsL os).Nodup := nodup_inj (List.Nodup.sublist List.filter_sublist List.nodup_range)
theorem rch_legs {xs : List Int} {rs : List (List Int)} {j k : Nat} (hj : j < xs.length) (hk : k < xs.length) (h : Rch rs (xs[j]?.getD 0) (xs[k]?.getD 0)) : Con xs rs j k := by
  have hjj : j < items xs rs := by unfold items; omega
  have hkk : k < items xs rs := by unfold items; omega
  obtain ⟨t, ht, hmt, hc⟩ := rch_con hjj (by rw [edges_leg rs hj]; simp) h
  exact .step hc ht hkk (meets_iff.2 ⟨xs[k]?.getD 0, hmt, by rw [edges_leg rs hk]; simp⟩)
/-- z leads a leg of p -/
def LeadP (xs : List Int) (os : List Int) (p : List Int) (z : Int) : Prop := ∃ j, j < xs.length ∧ xs[j]?.getD 0 ∈ p ∧ z = os[j]?.getD 0
theorem leadP_same {xs : List Int} {rs : List (List Int)} {os : List Int} (hl : LeadsW xs rs os) (hs : Same xs rs os) {p : List Int} {l : Int} (hp : PartOf rs l p) {z z' : Int} (h : LeadP xs os p z) (h' : LeadP xs os p z') : z = z' := by
  obtain ⟨j, hj, hjp, rfl⟩ := h
  obtain ⟨k, hk, hkp, rfl⟩ := h'
  exact same_con hs (by unfold items; omega) (rch_legs hj hk (((hp.mem _).1 hjp).symm.trans ((hp.mem _).1 hkp)))
theorem leadP_apart {xs : List Int} {rs : List (List Int)} {os : List Int} (hl : LeadsW xs rs os) {p q : List Int} {l : Int} (hp : PartOf rs l p) (ha : ∀ e, e ∈ p → e ∉ q) {z : Int} (h : LeadP xs os p z) (h' : LeadP xs os q z) : False := by
  obtain ⟨j, hj, hjp, rfl⟩ := h
  obtain ⟨k, hk, hkq, e⟩ := h'
  have hjj : j < items xs rs := by unfold items; omega
  have hkk : k < items xs rs := by unfold items; omega
  have h1 := hl.con j hjj
  have h2 := hl.con k hkk
  rw [← e] at h2
  have hc : Con xs rs j k := h1.trans h2.symm
  have hr := con_rch hjj hc (a := xs[j]?.getD 0) (b := xs[k]?.getD 0) (by rw [edges_leg rs hj]; simp) (by rw [edges_leg rs hk]; simp)
  exact ha _ ((hp.mem _).2 (((hp.mem _).1 hjp).trans hr)) hkq
theorem leads_of_parts {xs : List Int} {rs : List (List Int)} {os : List Int} (hl : LeadsW xs rs os) (hs : Same xs rs os) : ∀ ps : List (List Int), (∀ p ∈ ps, ∃ l ∈ xs, PartOf rs l p) → ps.Pairwise (fun p q => ∀ e, e ∈ p → e ∉ q) →
    ∃ zs : List Int, zs.length = ps.length ∧ (∀ z ∈ zs, ∃ p ∈ ps, LeadP xs os p z) ∧ zs.Nodup ∧ (∀ p ∈ ps, ∃ z ∈ zs, LeadP xs os p z) := by
  intro ps
  induction ps with
  | nil => intro _ _; exact ⟨[], rfl, by simp, by simp, by simp⟩
  | cons p ps ih =>
    intro h1 h2
    rw [List.pairwise_cons] at h2
    obtain ⟨zs, hlen, hz1, hz2, hz3⟩ := ih (fun q hq => h1 q (List.mem_cons_of_mem _ hq)) h2.2
    obtain ⟨l, hlx, hP⟩ := h1 p (List.mem_cons_self ..)
    obtain ⟨j, hj, rfl⟩ := List.getElem_of_mem hlx
    have hL : LeadP xs os p (os[j]?.getD 0) := ⟨j, hj, by rw [List.getElem?_eq_getElem hj]; exact (hP.mem _).2 .base, rfl⟩
    refine ⟨os[j]?.getD 0 :: zs, by simp [hlen], fun z hz => ?_, List.nodup_cons.2 ⟨fun hm => ?_, hz2⟩, fun q hq => ?_⟩
    · rcases List.mem_cons.1 hz with rfl | hz
      · exact ⟨p, List.mem_cons_self .., hL⟩
      · obtain ⟨q, hq, h⟩ := hz1 z hz; exact ⟨q, List.mem_cons_of_mem _ hq, h⟩
    · obtain ⟨q, hq, h⟩ := hz1 _ hm
      exact leadP_apart hl hP (h2.1 q hq) hL h
    · rcases List.mem_cons.1 hq with rfl | hq
      · exact ⟨_, List.mem_cons_self .., hL⟩
      · obtain ⟨z, hz, h⟩ := hz3 q hq; exact ⟨z, List.mem_cons_of_mem _ hz, h⟩
/-- as many leaders as parts with a leg, if each part has one -/
theorem count_parts {xs : List Int} {rs : List (List Int)} {os : List Int} {ps : List (List Int)} (hl : LeadsW xs rs os) (hs : Same xs rs os) (hk : Linked xs rs) (h : PartsOf xs rs xs.length ps) : (leadsL os).length = ps.length := by
  obtain ⟨zs, hlen, hz1, hz2, hz3⟩ := leads_of_parts hl hs ps h.part h.apart
  have hsub : ∀ z ∈ zs, z ∈ leadsL os := by
    intro z hz
    obtain ⟨p, hp, j, hj, hjp, rfl⟩ := hz1 z hz
    have hjj : j < items xs rs := by unfold items; omega
    have hlow := hl.low j hjj
    have hc := hl.con j hjj
    have he := same_con hs hjj hc
    refine leadsL_mem.2 ⟨(os[j]?.getD 0).toNat, by omega, by rw [hl.len]; omega, ?_⟩
    rw [← he]; omega
  have hsup : ∀ z ∈ leadsL os, z ∈ zs := by
    intro z hz
    obtain ⟨i, rfl, hi, he⟩ := leadsL_mem.1 hz
    rw [hl.len] at hi
    obtain ⟨j, hj, hc⟩ := hk i hi
    have hs2 := same_con hs hi hc
    obtain ⟨p, hp, hjp⟩ := h.cover (xs[j]?.getD 0) (by rw [List.take_length, List.getElem?_eq_getElem hj]; exact List.getElem_mem hj)
    obtain ⟨z, hz, hL⟩ := hz3 p hp
    obtain ⟨l, _, hP⟩ := h.part p hp
    have := leadP_same hl hs hP hL ⟨j, hj, hjp, rfl⟩
    rw [this, ← hs2, he] at hz
    exact hz
  have h1 := nodup_le zs (leadsL os) hz2 hsub
  have h2 := nodup_le (leadsL os) zs (leadsL_nodup os) hsup
  omega
theorem leads_take (os : List Int) (k : Nat) (hk : k < os.length) : (leadsL (os.take (k + 1))).length = (leadsL (os.take k)).length + if os[k]?.getD 0 = (k : Int) then 1 else 0 := by
  unfold leadsL
  rw [List.length_map, List.length_map, List.length_take, List.length_take, Nat.min_eq_left (by omega), Nat.min_eq_left (by omega), List.range_succ, List.filter_append, List.length_append]
  congr 1
  · rw [← List.countP_eq_length_filter, ← List.countP_eq_length_filter]
    apply List.countP_congr
    intro i hi
    rw [List.mem_range] at hi
    rw [List.getElem?_take_of_lt (by omega), List.getElem?_take_of_lt hi]
  · simp only [List.filter_cons, List.filter_nil]
    rw [List.getElem?_take_of_lt (by omega)]
    by_cases e : os[k]?.getD 0 = (k : Int)
    · rw [if_pos e, if_pos (by simpa using e)]; rfl
    · rw [if_neg e, if_neg (by simpa using e)]; rfl
theorem exists_min (P : Nat → Prop) : ∀ n, P n → ∃ m, P m ∧ ∀ k, P k → m ≤ k := by
  intro n
  induction n using Nat.strongRecOn with
  | ind n ih =>
    intro h
    by_cases hk : ∃ k, k < n ∧ P k
    · obtain ⟨k, hkn, hk⟩ := hk; exact ih k hkn hk
    · exact ⟨n, h, fun k hP => Nat.le_of_not_lt (fun hlt => hk ⟨k, hlt, hP⟩)⟩
noncomputable def minC (xs : List Int) (rs : List (List Int)) (i : Nat) : Nat := Classical.choose (exists_min (Con xs rs i) i .base)
theorem minC_con (xs : List Int) (rs : List (List Int)) (i : Nat) : Con xs rs i (minC xs rs i) := (Classical.choose_spec (exists_min (Con xs rs i) i .base)).1
theorem minC_le {xs : List Int} {rs : List (List Int)} {i k : Nat} (h : Con xs rs i k) : minC xs rs i ≤ k := (Classical.choose_spec (exists_min (Con xs rs i) i .base)).2 k h
noncomputable def minL (xs : List Int) (rs : List (List Int)) : List Int := (List.range (items xs rs)).map fun i => (minC xs rs i : Int)
theorem minL_at {xs : List Int} {rs : List (List Int)} {i : Nat} (h : i < items xs rs) : (minL xs rs)[i]?.getD 0 = (minC xs rs i : Int) := by simp [minL, h]
theorem minL_leads (xs : List Int) (rs : List (List Int)) : LeadsW xs rs (minL xs rs) := by
  refine ⟨by simp [minL], fun i hi => ?_, fun i hi => ?_⟩
  · rw [minL_at hi]; have := minC_le (xs := xs) (rs := rs) (i := i) .base; omega
  · rw [minL_at hi]; simpa using minC_con xs rs i
theorem minL_same (xs : List Int) (rs : List (List Int)) : Same xs rs (minL xs rs) := by
  intro i k hi hk hm
  rw [minL_at hi, minL_at (by omega)]
  have hc : Con xs rs i k := .step .base hi (by omega) hm
  have h1 := minC_le (hc.trans (minC_con xs rs k))
  have h2 := minC_le (hc.symm.trans (minC_con xs rs i))
  omega
theorem leads_unique {xs : List Int} {rs : List (List Int)} {os os' : List Int} (h : LeadsW xs rs os) (hs : Same xs rs os) (h' : LeadsW xs rs os') (hs' : Same xs rs os') : os = os' := by
  have key : ∀ (a b : List Int), LeadsW xs rs a → Same xs rs a → LeadsW xs rs b → ∀ i, i < items xs rs → a[i]?.getD 0 ≤ b[i]?.getD 0 := by
    intro a b ha hsa hb i hi
    have hc := hb.con i hi
    have hl := hb.low i hi
    have he := same_con hsa hi hc
    have := ha.low (b[i]?.getD 0).toNat (by omega)
    omega
  apply List.ext_getElem
  · rw [h.len, h'.len]
  · intro i h1 h2
    have hi : i < items xs rs := by rw [← h.len]; exact h1
    have a1 := key os os' h hs h' i hi
    have a2 := key os' os h' hs' h i hi
    rw [List.getElem?_eq_getElem h1, List.getElem?_eq_getElem h2] at a1 a2
    simp only [Option.getD_some] at a1 a2
    omega
noncomputable def numParts (xs : List Int) (rs : List (List Int)) : Nat := (leadsL (minL xs rs)).length
theorem num_leads {xs : List Int} {rs : List (List Int)} {os : List Int} (h : LeadsW xs rs os) (hs : Same xs rs os) : (leadsL os).length = numParts xs rs := by
  unfold numParts; rw [leads_unique h hs (minL_leads xs rs) (minL_same xs rs)]
theorem num_parts {xs : List Int} {rs : List (List Int)} {ps : List (List Int)} (hk : Linked xs rs) (h : PartsOf xs rs xs.length ps) : ps.length = numParts xs rs :=
  (count_parts (minL_leads xs rs) (minL_same xs rs) hk h).symm
end Go.Proofs.YthpddknpiiiccaaDoor
