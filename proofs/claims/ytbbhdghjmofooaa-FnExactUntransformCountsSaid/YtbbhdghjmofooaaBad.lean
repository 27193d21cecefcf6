/- What is drawn of words, in part none: l01Draw, l01Bad, l01Spoil. -/
import Derived.Test.YtbbhdghjmofooaaDraws
namespace Go.Proofs.Ytbbhdghjmofooaa
open Go.RowKit
set_option linter.unusedVariables false
set_option linter.unusedSimpArgs false
set_option maxRecDepth 100000

/-- numbers that are a little less small -/
def Sn (xs : List Int) : Prop := ∀ y ∈ xs, -1000 ≤ y ∧ y ≤ 1000
theorem Sm.sn {xs : List Int} (h : Sm xs) : Sn xs := fun y hy => by have := h y hy; omega
theorem Sn.wf {xs : List Int} (h : Sn xs) : Wf xs := fun y hy => by have := h y hy; omega
theorem Own.sl {w : World} {lo : Nat} {v : Value} {xs : List Int} (h : Own w lo v xs) : ∃ A m d, v = .slice A m d ∧ xs.length = m := by
  obtain ⟨A, m, d, e, hl, _⟩ := h.form'
  exact ⟨A, m, d, e, hl⟩
theorem Own.rd {w : World} {lo m d : Nat} {A : Option Addr} {xs : List Int} (h : Own w lo (.slice A m d) xs) : Rd w A m xs := by
  obtain ⟨A', m', d', e, hl, hr⟩ := h.form'
  injection e with e1 e2 e3
  rw [e1, e2]; exact hr

theorem set_sn {xs : List Int} (h : Sn xs) (k : Nat) (y : Int) (hy : -1000 ≤ y ∧ y ≤ 1000) : Sn (xs.set k y) := fun z hz => by
  rcases List.mem_or_eq_of_mem_set hz with h1 | h1
  · exact h z h1
  · subst h1; exact hy
theorem own_setCell {w : World} {lo g m d k : Nat} {xs : List Int} {y : Int} (h : Own w lo (.slice (some ⟨g, 0, none⟩) m d) xs) (hk : k < m) :
    w.frozen? ⟨g, k, none⟩ = false ∧ (∃ u, w.cell? ⟨g, k, none⟩ = some u) ∧ Own (w.setCell ⟨g, k, none⟩ (.int .i64 y)) lo (.slice (some ⟨g, 0, none⟩) m d) (xs.set k y) ∧ lo ≤ g := by
  obtain ⟨_, _, _, e, hl⟩ := h.sl
  injection e with e1 e2 e3
  have h0 : w.ownsRow lo 2 1 (.slice (some ⟨g, 0, none⟩) m d) xs.length (ints xs) := h
  rw [hl, ← e2] at h0
  have hst := h0.stored k (.int .i64 y)
  refine ⟨h0.frozenAt k, ⟨_, by rw [h0.cellAt k (by omega)]; exact List.getElem?_eq_getElem (by simp; omega)⟩, ?_, (h.lt g rfl).1⟩
  unfold Own
  rw [List.length_set, hl, ← e2]
  have e4 : ints (xs.set k y) = (ints xs).set k (.int .i64 y) := by simp [ints, List.map_set]
  rw [e4]; exact hst.1
theorem Own.addr {w : World} {lo m d : Nat} {A : Option Addr} {xs : List Int} (h : Own w lo (.slice A m d) xs) (hm : 0 < m) : ∃ g, A = some ⟨g, 0, none⟩ := by
  rcases h.2 with ⟨h1, h2⟩ | ⟨g, cap, cur, h1, _⟩
  · injection h1 with _ h3 _; omega
  · injection h1 with h1 _ _; exact ⟨g, h1⟩

/-- the first k numbers one greater -/
def upped (xs : List Int) (k : Nat) : List Int := (xs.take k).map (· + 1) ++ xs.drop k
theorem upped_zero (xs : List Int) : upped xs 0 = xs := by simp [upped]
theorem upped_length (xs : List Int) (k : Nat) : (upped xs k).length = xs.length := by simp [upped]; omega
theorem upped_at (xs : List Int) (k : Nat) (h : k < xs.length) : (upped xs k)[k]?.getD 0 = xs[k]?.getD 0 := by
  unfold upped
  rw [List.getElem?_append_right (by simp; omega)]
  simp [Nat.min_eq_left (Nat.le_of_lt h)]
theorem upped_step (xs : List Int) (k : Nat) (h : k < xs.length) : (upped xs k).set k (xs[k]?.getD 0 + 1) = upped xs (k + 1) := by
  unfold upped
  have e : k - ((xs.take k).map (· + 1)).length = 0 := by simp; omega
  rw [List.set_append_right _ _ (by simp; omega), e, List.drop_eq_getElem_cons h, List.set_cons_zero, List.take_succ_eq_append_getElem h, List.map_append, List.getElem?_eq_getElem h]
  rw [List.append_assoc]
  rfl
theorem upped_mem (xs : List Int) (k : Nat) (z : Int) (h : z ∈ upped xs k) : ∃ y ∈ xs, z = y ∨ z = y + 1 := by
  unfold upped at h
  rcases List.mem_append.1 h with h | h
  · obtain ⟨y, hy, rfl⟩ := List.mem_map.1 h
    exact ⟨y, List.mem_of_mem_take hy, .inr rfl⟩
  · exact ⟨z, List.mem_of_mem_drop h, .inl rfl⟩
/-- numbers up to a bound -/
theorem joined_sn24 {xs : List Int} (h : Sm xs) (hl : xs.length ≤ 12) : ∀ z ∈ joined xs xs, -920 ≤ z ∧ z ≤ 920 := fun z hz => by
  unfold joined at hz
  rcases List.mem_append.1 hz with h1 | h1
  · have := h z h1; omega
  · obtain ⟨y, hy, rfl⟩ := List.mem_map.1 h1
    have := h y hy; omega
theorem joined_sn {xs : List Int} (h : ∀ z ∈ xs, -920 ≤ z ∧ z ≤ 920) (hl : xs.length ≤ 24) : Sn (joined xs [0, 1, 0, 1, 2, 3, 2, 3, 4, 4, 5, 5, 6, 6]) := fun z hz => by
  unfold joined at hz
  rcases List.mem_append.1 hz with h1 | h1
  · have := h z h1; omega
  · obtain ⟨y, hy, rfl⟩ := List.mem_map.1 h1
    simp only [List.mem_cons, List.not_mem_nil, or_false] at hy; omega

end Go.Proofs.Ytbbhdghjmofooaa
