/- Plain facts: the crossings of joined words. -/
import Derived.Test.YtinfhkcmjmglkaaPure11
namespace Go.Proofs.Ytinfhkcmjmglkaa
set_option linter.unusedVariables false
set_option linter.unusedSimpArgs false
set_option maxRecDepth 100000
set_option linter.unusedSectionVars false

theorem norm_app (A : List Int) (B : List Int) (h : ∀ x ∈ B, x ∉ A) : met (A ++ B) = met A ++ met B ∧ norm (A ++ B) = norm A ++ (norm B).map fun y => y + ((met A).length : Int) := by
  induction B using snoc_ind with
  | h0 => simp [met_nil, norm_nil]
  | h1 B x ih =>
    obtain ⟨i1, i2⟩ := ih (fun y hy => h y (by simp [hy]))
    have hx : x ∉ met A := fun e => h x (by simp) ((met_mem _ _).1 e)
    rw [← List.append_assoc, met_snoc, norm_snoc, met_snoc, norm_snoc, i1, i2]
    by_cases hb : x ∈ met B
    · rw [if_pos (List.mem_append_right _ hb), if_pos hb, if_pos (List.mem_append_right _ hb), if_pos hb]
      refine ⟨rfl, ?_⟩
      rw [List.map_append, List.append_assoc, List.idxOf_append, if_neg hx]
      simp
    · have hab : x ∉ met A ++ met B := fun e => by
        rcases List.mem_append.1 e with e | e
        · exact hx e
        · exact hb e
      rw [if_neg hab, if_neg hb, if_neg hab, if_neg hb]
      refine ⟨by rw [List.append_assoc], ?_⟩
      rw [List.map_append, List.append_assoc]
      simp
      omega
/-- a list of numbers, each raised -/
def up (n : Nat) (ys : List Int) : List Int := ys.map fun y => y + (n : Int)
theorem up_length (n : Nat) (ys : List Int) : (up n ys).length = ys.length := by simp [up]
theorem up_idx (n : Nat) (ys : List Int) (j : Int) : (up n ys).idxOf (j + (n : Int)) = ys.idxOf j := idxOf_map (fun y => y + (n : Int)) j ys (fun y _ e => by have e' : y + (n : Int) = j + (n : Int) := e; omega)
theorem up_place (n : Nat) (ys : List Int) (j : Int) : place1 (up n ys) (j + (n : Int)) = place1 ys j ∧ place2 (up n ys) (j + (n : Int)) = place2 ys j := by
  have h1 : place1 (up n ys) (j + (n : Int)) = place1 ys j := up_idx n ys j
  refine ⟨h1, ?_⟩
  unfold place2
  rw [h1, show (up n ys).drop (place1 ys j + 1) = up n (ys.drop (place1 ys j + 1)) from by simp [up, List.map_drop], up_idx]
theorem joined_up {xs ys : List Int} (n : Nat) (hn : xs.length = 2 * n) : joined xs ys = xs ++ up n ys := by
  unfold joined up
  rw [show ((xs.length : Int) / 2) = (n : Int) by omega]
theorem place_left {xs B : List Int} {y : Int} (h : xs.count y = 2) : place1 (xs ++ B) y = place1 xs y ∧ place2 (xs ++ B) y = place2 xs y := by
  have hm : y ∈ xs := List.count_pos_iff.1 (by omega)
  have h1 : place1 (xs ++ B) y = place1 xs y := by unfold place1; rw [List.idxOf_append, if_pos hm]
  have hp := place_lt h
  have hd := (two_places h).2.2.2.2.1
  refine ⟨h1, ?_⟩
  unfold place2
  rw [h1, List.drop_append_of_le_length (by omega), List.idxOf_append, if_pos hd]
theorem place_right {xs B : List Int} {y : Int} (h : y ∉ xs) : place1 (xs ++ B) y = xs.length + place1 B y ∧ place2 (xs ++ B) y = xs.length + place2 B y := by
  have h1 : place1 (xs ++ B) y = xs.length + place1 B y := by unfold place1; rw [List.idxOf_append, if_neg h]; omega
  refine ⟨h1, ?_⟩
  unfold place2
  have e1 : (xs ++ B).drop (xs.length + (place1 B y + 1)) = B.drop (place1 B y + 1) := by
    rw [List.drop_append, List.drop_of_length_le (by omega), List.nil_append, Nat.add_sub_cancel_left]
  rw [h1, show xs.length + place1 B y + 1 = xs.length + (place1 B y + 1) from by omega, e1]
  omega
theorem joined_word {xs ys : List Int} (h : isWord xs = true) (h2 : isWord ys = true) (hl : xs.length + ys.length ≤ 12) (n : Nat) (hn : xs.length = 2 * n) : isWord (xs ++ up n ys) = true := by
  have hm : (met xs).length = n := by have := twice_met (isWord_twice h); omega
  have hlow : ∀ y ∈ xs, 0 ≤ y ∧ y < n := fun y hy => by have := word_lt h hy; omega
  have hup : ∀ y ∈ up n ys, (n : Int) ≤ y := fun y hy => by
    obtain ⟨z, hz, rfl⟩ := List.mem_map.1 hy
    have := word_lt h2 hz; omega
  have hd : ∀ y ∈ up n ys, y ∉ xs := fun y hy e => by have := hup y hy; have := hlow y e; omega
  unfold isWord
  simp only [Bool.and_eq_true, decide_eq_true_eq, beq_iff_eq]
  refine ⟨by rw [List.length_append, up_length]; exact hl, ?_, ?_⟩
  · unfold twice
    rw [List.all_eq_true]
    intro y hy
    rw [beq_iff_eq, List.count_append]
    rcases List.mem_append.1 hy with e | e
    · rw [twice_count (isWord_twice h) e, List.count_eq_zero_of_not_mem (fun e2 => hd y e2 e)]
    · rw [List.count_eq_zero_of_not_mem (hd y e)]
      obtain ⟨z, hz, rfl⟩ := List.mem_map.1 e
      rw [Nat.zero_add]
      unfold up
      rw [List.count_eq_countP, List.countP_map, List.countP_congr (q := fun t => t == z) (fun t _ => by
        simp only [Function.comp_apply, beq_iff_eq]
        exact ⟨fun e => by omega, fun e => by omega⟩), ← List.count_eq_countP]
      exact twice_count (isWord_twice h2) hz
  · rw [(norm_app xs (up n ys) hd).2, hm, isWord_norm h]
    congr 1
    unfold up
    rw [(norm_map _ ys (fun x _ y _ e => by omega)).2, isWord_norm h2]
theorem crossB_up (L a b c d : Nat) : crossB ((L + a : Nat) : Int) ((L + b : Nat) : Int) ((L + c : Nat) : Int) ((L + d : Nat) : Int) = crossB (a : Int) (b : Int) (c : Int) (d : Int) := by
  unfold crossB betw
  congr 1 <;> congr 1 <;> rw [decide_eq_decide] <;> omega

section
variable {xs ys : List Int} (h : isWord xs = true) (h2 : isWord ys = true) (n : Nat) (hn : xs.length = 2 * n)
include h hn
theorem cross_low (i k : Nat) (hi : i < n) (hk : k < n) : crossAt (xs ++ up n ys) i k = crossAt xs i k := by
  have hci := word_count h (i := i) (by omega)
  have hck := word_count h (i := k) (by omega)
  unfold crossAt
  rw [(place_left hci).1, (place_left hci).2, (place_left hck).1, (place_left hck).2]
theorem place_hi (j : Nat) : place1 (xs ++ up n ys) ((n + j : Nat) : Int) = xs.length + place1 ys (j : Int) ∧ place2 (xs ++ up n ys) ((n + j : Nat) : Int) = xs.length + place2 ys (j : Int) := by
  have hno : ((n + j : Nat) : Int) ∉ xs := fun e => by have := word_lt h e; omega
  have e : ((n + j : Nat) : Int) = (j : Int) + (n : Int) := by omega
  obtain ⟨r1, r2⟩ := place_right (B := up n ys) hno
  obtain ⟨u1, u2⟩ := up_place n ys (j : Int)
  rw [← e] at u1 u2
  exact ⟨by rw [r1, u1], by rw [r2, u2]⟩
theorem cross_high (i k : Nat) : crossAt (xs ++ up n ys) (n + i) (n + k) = crossAt ys i k := by
  unfold crossAt
  obtain ⟨a1, a2⟩ := place_hi h n hn (ys := ys) i
  obtain ⟨b1, b2⟩ := place_hi h n hn (ys := ys) k
  rw [a1, a2, b1, b2]
  exact crossB_up _ _ _ _ _
theorem cross_mix (i k : Nat) (hk : k < n) : crossAt (xs ++ up n ys) (n + i) k = false := by
  have hck := word_count h (i := k) (by omega)
  have hp := place_lt hck
  unfold crossAt
  obtain ⟨a1, a2⟩ := place_hi h n hn (ys := ys) i
  rw [a1, a2, (place_left hck).1, (place_left hck).2]
  unfold crossB
  rw [betw_false (by omega), betw_false (by omega)]; rfl
include h2
theorem row_low (i : Nat) (hi : i < n) : (rowOf (xs ++ up n ys) i).take i = (rowOf xs i).take i := by
  have hl : (xs ++ up n ys).length / 2 ≥ n := by rw [List.length_append]; omega
  apply List.ext_getElem?
  intro j
  by_cases hj : j < i
  · rw [List.getElem?_take_of_lt hj, List.getElem?_take_of_lt hj, rowOf_get _ _ _ (by omega), rowOf_get _ _ _ (by omega), cross_low h n hn i j hi (by omega)]
  · rw [List.getElem?_take_eq_none (by omega), List.getElem?_take_eq_none (by omega)]
theorem row_high (j : Nat) (hj : j < ys.length / 2) : (rowOf (xs ++ up n ys) (n + j)).take (n + j) = List.replicate n 0 ++ (rowOf ys j).take j := by
  have hy := word_half h2
  have hl : (xs ++ up n ys).length / 2 = n + ys.length / 2 := by rw [List.length_append, up_length]; omega
  apply List.ext_getElem?
  intro t
  by_cases ht : t < n + j
  · rw [List.getElem?_take_of_lt ht, rowOf_get _ _ _ (by omega)]
    by_cases hn' : t < n
    · rw [List.getElem?_append_left (by simp; exact hn'), List.getElem?_replicate, if_pos hn', cross_mix h n hn j t hn']; rfl
    · obtain ⟨s, rfl⟩ : ∃ s, t = n + s := ⟨t - n, by omega⟩
      rw [List.getElem?_append_right (by simp), cross_high h n hn j s, List.length_replicate, Nat.add_sub_cancel_left, List.getElem?_take_of_lt (by omega), rowOf_get _ _ _ (by omega)]
  · rw [List.getElem?_take_eq_none (by omega), List.getElem?_eq_none (by simp; omega)]
theorem total_zeros (n : Nat) (L : List Int) : total (List.replicate n 0 ++ L) = total L := by
  unfold total
  rw [List.foldl_append]
  congr 1
  induction n with
  | zero => rfl
  | succ n ih => rw [List.replicate_succ, List.foldl_cons]; exact ih
theorem crossTo_low : ∀ i, i ≤ n → crossTo (xs ++ up n ys) i = crossTo xs i := by
  intro i
  induction i with
  | zero => intro _; rfl
  | succ i ih => intro hi; rw [crossTo, crossTo, ih (by omega), row_low h h2 n hn i (by omega)]
theorem crossTo_high : ∀ j, j ≤ ys.length / 2 → crossTo (xs ++ up n ys) (n + j) = crossTo xs n + crossTo ys j := by
  intro j
  induction j with
  | zero => intro _; rw [Nat.add_zero, crossTo_low h h2 n hn n (Nat.le_refl _)]; simp [crossTo]
  | succ j ih =>
    intro hj
    rw [← Nat.add_assoc, crossTo, crossTo, ih (by omega), row_high h h2 n hn j (by omega), total_zeros h h2 n hn]
    omega
end
theorem cross_joined {xs ys : List Int} (h : isWord xs = true) (h2 : isWord ys = true) (hl : xs.length + ys.length ≤ 12) :
    isWord (joined xs ys) = true ∧ crossCount xs + crossCount ys = crossCount (joined xs ys) := by
  have hx := word_half h
  have hy := word_half h2
  obtain ⟨n, hn⟩ : ∃ n, n = xs.length / 2 := ⟨_, rfl⟩
  have hn2 : xs.length = 2 * n := by omega
  rw [joined_up n hn2]
  refine ⟨joined_word h h2 hl n hn2, ?_⟩
  unfold crossCount
  rw [show (xs ++ up n ys).length / 2 = n + ys.length / 2 from by rw [List.length_append, up_length]; omega, crossTo_high h h2 n hn2 _ (Nat.le_refl _), ← hn]
end Go.Proofs.Ytinfhkcmjmglkaa
