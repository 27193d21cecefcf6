/- Chains: plain facts. -/
import Derived.Test.YtokhjlcbflcbgaaPure3
namespace Go.Proofs.Ytokhjlcbflcbgaa
set_option linter.unusedVariables false
set_option linter.unusedSimpArgs false
set_option maxRecDepth 100000

/-- may x follow at the end of B: told for place i -/
def goodAt (xs : List Int) (B : List Nat) (x i : Nat) : Bool := !(B[i]?.getD 0 == x) && (crossAt xs x (B[i]?.getD 0) == decide (i + 1 = B.length))
def goodTo (xs : List Int) (B : List Nat) (x k : Nat) : Bool := (List.range k).all (goodAt xs B x)
def good (xs : List Int) (B : List Nat) (x : Nat) : Bool := goodTo xs B x B.length
theorem goodTo_succ (xs : List Int) (B : List Nat) (x k : Nat) : goodTo xs B x (k + 1) = (goodTo xs B x k && goodAt xs B x k) := by
  unfold goodTo; rw [List.range_succ, List.all_append]; simp
def better (L c : List Nat) : List Nat := if L.length < c.length then c else L
theorem better_assoc (a b c : List Nat) : better (better a b) c = better a (better b c) := by
  unfold better
  split <;> split <;> (try split) <;> (try split) <;> (try rfl) <;> omega
def bestF (xs : List Int) (m : Nat) : Nat → List Nat → List Nat
  | 0, B => B
  | f + 1, B => (List.range m).foldl (fun b x => if good xs B x then better b (bestF xs m f (B ++ [x])) else b) B
/-- the best one behind k chords -/
def bestTo (xs : List Int) (m f : Nat) (B : List Nat) (k : Nat) : List Nat := (List.range k).foldl (fun b x => if good xs B x then better b (bestF xs m f (B ++ [x])) else b) B
theorem bestTo_zero (xs : List Int) (m f : Nat) (B : List Nat) : bestTo xs m f B 0 = B := rfl
theorem bestTo_end (xs : List Int) (m f : Nat) (B : List Nat) : bestTo xs m f B m = bestF xs m (f + 1) B := rfl
theorem bestTo_yes (xs : List Int) (m f : Nat) (B : List Nat) (k : Nat) (h : good xs B k = true) : bestTo xs m f B (k + 1) = better (bestTo xs m f B k) (bestF xs m f (B ++ [k])) := by
  unfold bestTo; rw [List.range_succ, List.foldl_append]; simp [h]
theorem bestTo_no (xs : List Int) (m f : Nat) (B : List Nat) (k : Nat) (h : good xs B k = false) : bestTo xs m f B (k + 1) = bestTo xs m f B k := by
  unfold bestTo; rw [List.range_succ, List.foldl_append]; simp [h]
theorem pig : ∀ (m : Nat) (B : List Nat), B.Nodup → (∀ b ∈ B, b < m) → B.length ≤ m
  | 0, B, _, h => by
    rcases B with _ | ⟨b, B⟩
    · simp
    · have := h b (by simp); omega
  | m + 1, B, hd, h => by
    have h1 := pig m (B.erase m) (hd.erase m) (fun b hb => by
      have h2 := h b (List.mem_of_mem_erase hb)
      have h3 := (hd.mem_erase_iff.1 hb).1
      omega)
    have h4 : B.length ≤ (B.erase m).length + 1 := by
      rw [List.length_erase]; split <;> omega
    omega
theorem good_not {xs : List Int} {B : List Nat} {x : Nat} (h : good xs B x = true) : x ∉ B := by
  intro hm
  obtain ⟨i, hi, rfl⟩ := List.getElem_of_mem hm
  unfold good goodTo at h
  have h2 := List.all_eq_true.1 h i (List.mem_range.2 hi)
  unfold goodAt at h2
  rw [List.getElem?_eq_getElem hi] at h2
  simp at h2
structure Chn (m : Nat) (B : List Nat) : Prop where
  nd : B.Nodup
  lt : ∀ b ∈ B, b < m
theorem Chn.nil (m : Nat) : Chn m [] := ⟨by simp, by simp⟩
theorem Chn.push {xs : List Int} {m : Nat} {B : List Nat} {x : Nat} (h : Chn m B) (hx : x < m) (hg : good xs B x = true) : Chn m (B ++ [x]) :=
  ⟨by
    rw [List.nodup_append]
    exact ⟨h.nd, by simp, fun a ha b hb e => by
      simp only [List.mem_singleton] at hb
      subst hb; subst e; exact good_not hg ha⟩, fun b hb => by
    rcases List.mem_append.1 hb with hb | hb
    · exact h.lt b hb
    · simp only [List.mem_singleton] at hb; omega⟩
theorem Chn.len {m : Nat} {B : List Nat} (h : Chn m B) : B.length ≤ m := pig m B h.nd h.lt
theorem Chn.at_ {m : Nat} {B : List Nat} (h : Chn m B) {i : Nat} (hi : i < B.length) : B[i]?.getD 0 < m := by
  rw [List.getElem?_eq_getElem hi]; exact h.lt _ (List.getElem_mem hi)
theorem better_chn {m : Nat} {a b : List Nat} (ha : Chn m a) (hb : Chn m b) : Chn m (better a b) := by
  unfold better; split <;> assumption
theorem bestF_chn (xs : List Int) (m : Nat) : ∀ f B, Chn m B → Chn m (bestF xs m f B)
  | 0, B, h => h
  | f + 1, B, h => by
    rw [← bestTo_end]
    suffices ∀ k, k ≤ m → Chn m (bestTo xs m f B k) from this m (Nat.le_refl _)
    intro k
    induction k with
    | zero => intro _; exact h
    | succ k ih =>
      intro hk
      rcases hg : good xs B k with _ | _
      · rw [bestTo_no _ _ _ _ _ hg]; exact ih (by omega)
      · rw [bestTo_yes _ _ _ _ _ hg]; exact better_chn (ih (by omega)) (bestF_chn xs m f _ (h.push (by omega) hg))
theorem bestTo_chn (xs : List Int) (m f : Nat) (B : List Nat) (h : Chn m B) : ∀ k, k ≤ m → Chn m (bestTo xs m f B k) := by
  intro k
  induction k with
  | zero => intro _; exact h
  | succ k ih =>
    intro hk
    rcases hg : good xs B k with _ | _
    · rw [bestTo_no _ _ _ _ _ hg]; exact ih (by omega)
    · rw [bestTo_yes _ _ _ _ _ hg]; exact better_chn (ih (by omega)) (bestF_chn xs m f _ (h.push (by omega) hg))
def natI9 (s : List Nat) : List Int := s.map fun x : Nat => (x : Int)
@[simp] theorem natI9_length (s : List Nat) : (natI9 s).length = s.length := by simp [natI9]
theorem natI9_snoc (s : List Nat) (x : Nat) : natI9 (s ++ [x]) = natI9 s ++ [(x : Int)] := by simp [natI9]
theorem natI9_at (s : List Nat) (k : Nat) (h : k < s.length) : (natI9 s)[k]?.getD 0 = ((s[k]?.getD 0 : Nat) : Int) := by simp [natI9, h]
/-- the lexicographically least of the longest chains -/
def chainOf (xs : List Int) : List Int := natI9 (bestF xs (xs.length / 2) (xs.length / 2 + 1) [])
end Go.Proofs.Ytokhjlcbflcbgaa
