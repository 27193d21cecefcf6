/- The model's word of a set of chords, and how many there are. -/
import Derived.Test.YtacfiljclklkdaaInterPure
import Derived.Test.YtacfiljclklkdaaFWordOfChords
namespace Go.Proofs.Ytacfiljclklkdaa
open Go.RowKit
set_option linter.unusedVariables false
set_option linter.unusedSimpArgs false
set_option maxRecDepth 100000

/-- which of the first i chords are in a set -/
def brow10 (m S i : Nat) : List Bool := (List.range m).map fun j => decide (j < i) && S.testBit j
theorem brow10_len (m S i : Nat) : (brow10 m S i).length = m := by simp [brow10]
theorem brow10_at (m S i j : Nat) (h : j < m) : (brow10 m S i)[j]? = some (decide (j < i) && S.testBit j) := by simp [brow10, h]
theorem brow10_zero (m S : Nat) : brow10 m S 0 = List.replicate m false := by
  apply List.ext_getElem?
  intro j
  by_cases h : j < m
  · rw [brow10_at _ _ _ _ h]; simp [h]
  · rw [List.getElem?_eq_none (by rw [brow10_len]; omega), List.getElem?_eq_none (by simp; omega)]
theorem brow10_succ (m S i : Nat) (h : i < m) : brow10 m S (i + 1) = (brow10 m S i).set i (S.testBit i) := by
  apply List.ext_getElem?
  intro j
  rw [List.getElem?_set, brow10_len]
  by_cases hj : j < m
  · rw [brow10_at _ _ _ _ hj, brow10_at _ _ _ _ hj]
    by_cases e : i = j
    · subst e; simp [h]
    · rw [if_neg e]
      by_cases e2 : j < i
      · simp [e2, show j < i + 1 by omega]
      · simp [e2, show ¬ j < i + 1 by omega]
  · rw [if_neg (by omega), List.getElem?_eq_none (by rw [brow10_len]; omega), List.getElem?_eq_none (by rw [brow10_len]; omega)]
theorem brow10_all (m S : Nat) : brow10 m S m = keepMarks m (chosenL m S) (chosenL m S).length := by
  apply List.ext_getElem?
  intro j
  by_cases h : j < m
  · rw [brow10_at _ _ _ _ h, keepMarks_get _ _ _ _ h, List.take_length]
    congr 1
    rw [Bool.eq_iff_iff, decide_eq_true_eq, chosenL_mem m S j h]
    simp [h]
  · rw [List.getElem?_eq_none (by rw [brow10_len]; omega), List.getElem?_eq_none (by simp; omega)]

set_option maxHeartbeats 1600000 in
theorem set10_any (A : Option Addr) (n c S : Nat) (xs : List Int) (w : World) (hr : Rd w A n xs) (hw : isWord xs = true) (hS : S < 64) :
    Calls Try.prog 92 #[.slice A n c, .int .i64 (S : Int)] w fun e w' => ∃ v, e = .returned (.tuple #[v, .int .i64 ((bitsOf (xs.length / 2) S).length : Nat)]) ∧ Own w' w.heap.size v (chosenW xs S) ∧ Below w.heap.size w w' := by
  have HR := Lib.hid hr
  have hl := hr.len
  have hn12 := isWord_len hw
  obtain ⟨m, hm⟩ : ∃ m, m = xs.length / 2 := ⟨_, rfl⟩
  have hm6 : m ≤ 6 := by omega
  have hq : (n : Int) / 2 = (m : Int) := by omega
  have HX : Hid (∀ y ∈ xs, 0 ≤ y ∧ y < (m : Int)) := Lib.hid (fun y hy => by have := word_lt hw hy; omega)
  have HRES : Hid (chosenW xs S = someOf xs (chosenL m S)) := Lib.hid (by rw [hm]; exact chosenW_some hw S)
  rw [← hm, HRES.out]
  have h12 : n ≤ 12 := by omega
  obtain ⟨i0, hi, hz0, hz1, hz2⟩ := info_parts info_bool
  clear hr hl hw hm hn12
  go_enter Try.func92, Try.ntmps92
  go_wp2_with (at_make; refine wpList_make_full _ rfl _ _ 101 rfl w.heap.size 4 i0 (.bool false) 1 Try.underlying101 hi hz0 hz1 _ _ _ _ m rfl rfl (by first | rfl | exact hq | omega) (by first | rfl | exact hq | omega) (by rw [hz2]; omega) (by unfold maxLen; omega) (by omega) ?_; intro w2 hown2 hg2)
  have hb2 : Below w.heap.size w w2 := (Below.refl _ _).grown hg2 (Nat.le_refl _) (by simp)
  rw [made_false, ← brow10_zero m S] at hown2
  obtain ⟨g, hg⟩ : ∃ g, g = w.heap.size := ⟨_, rfl⟩
  have hgw : w.heap.size ≤ g := by omega
  rw [← hg] at hown2
  rw [← hg]
  have HO2 : Hid (w2.ownsRow g 4 1 (.slice (some ⟨g, 0, none⟩) m m) m (bools (brow10 m S 0))) := Lib.hid hown2
  have HB2 := Lib.hid hb2
  clear hown2 hb2 hg2 hg hq
  go_loopw [7, 8] (fun ct i wr => ∃ k : Nat, k ≤ m ∧ i = .int .i64 k ∧ ct = .int .i64 ((bitsOf k S).length : Nat) ∧ Hid (wr.ownsRow g 4 1 (.slice (some ⟨g, 0, none⟩) m m) m (bools (brow10 m S k))) ∧ Hid (Below w.heap.size w wr)) (fun _ i _ => m - (intOf i).toNat)
  case atStart => exact ⟨0, by omega, rfl, rfl, HO2, HB2⟩
  case round =>
    obtain ⟨k, hk, rfl, rfl, ho, hb⟩ := hrel
    clear HO2 HB2
    obtain ⟨cl, hcl⟩ : ∃ cl, cl = (bitsOf k S).length := ⟨_, rfl⟩
    have hcl6 : cl ≤ k := by rw [hcl]; exact bits_len k S
    rw [← hcl]
    have HCL := Lib.hid hcl
    clear hcl
    by_cases hlt : k < m
    · have hbit := bit_at (k := k) hS
      have hf := ho.out.frozenAt k
      have HZ := Lib.hid hb.out.size
      have hst := ho.out.stored k (.bool (S.testBit k))
      rw [bools_set, ← brow10_succ m S k hlt] at hst
      have HST := Lib.hid hst.1
      have HBS : Hid (Below w.heap.size w (wr.setCell ⟨g, k, none⟩ (.bool (S.testBit k)))) := Lib.hid (hb.out.setCell (p := ⟨g, k, none⟩) hgw _)
      have HCL1 : Hid ((bitsOf (k + 1) S).length = cl + if S.testBit k then 1 else 0) := Lib.hid (by rw [bitsOf_succ, List.length_append, ← HCL.out]; cases S.testBit k <;> rfl)
      obtain ⟨u, hu⟩ : ∃ u, wr.cell? ⟨g, k, none⟩ = some u := by
        rw [ho.out.cellAt k (by omega)]
        exact ⟨_, List.getElem?_eq_getElem (by simp [brow10]; omega)⟩
      clear hst
      rcases ht : S.testBit k with _ | _
      · rw [ht] at hbit HCL1 HST HBS
        simp only [Bool.false_eq_true, if_false] at hbit HCL1
        clear ht
        go_wp2_with fail
        go_roundw
        case rel => exact ⟨k + 1, by omega, by go_num, by rw [HCL1.out]; go_num, HST, HBS⟩
        case measure => simp [intOf]; omega
      · rw [ht] at hbit HCL1 HST HBS
        simp only [if_true] at hbit HCL1
        clear ht
        go_wp2_with fail
        go_roundw
        case rel => exact ⟨k + 1, by omega, by go_num, by rw [HCL1.out]; go_num, HST, HBS⟩
        case measure => simp [intOf]; omega
    · obtain rfl : k = m := by omega
      have HK : Hid (wr.ownsRow g 4 1 (.slice (some ⟨g, 0, none⟩) k k) k (bools (keepMarks k (chosenL k S) (chosenL k S).length))) := Lib.hid (by rw [← brow10_all]; exact ho.out)
      have hz := hb.out.size
      rw [HCL.out]
      go_wp2_with fail
      refine (specSome_any _ _ _ _ k _ _ xs (chosenL k S) _ (HR.out.below hb.out) h12 HX.out HK.out).mono ?_
      rintro e w4 ⟨v4, rfl, ho4, hb4⟩
      go_wp2_with fail
      go_ret2
      exact ⟨_, rfl, ho4.mono hz, hb.out.trans (hb4.mono hz)⟩
end Go.Proofs.Ytacfiljclklkdaa
