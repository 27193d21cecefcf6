/- FnBlocks: for every input the named law of blocks and parts holds. No condition. -/
import Derived.Test.YtinfhkcmjmglkaaLawChords
import Derived.Test.YtinfhkcmjmglkaaLike2
import Derived.Test.YtinfhkcmjmglkaaPure14
import Derived.Test.YtinfhkcmjmglkaaFPartsOf
import Derived.Test.YtinfhkcmjmglkaaFBlocksOf
import Derived.Test.YtinfhkcmjmglkaaDegrees
import Derived.Test.YtinfhkcmjmglkaaPairs
import Derived.Test.YtinfhkcmjmglkaaLeave
namespace Go.Proofs.Ytinfhkcmjmglkaa
open Go.ChangeShapes Go.WideShapes Go.ChangeAt Go.RowKit
set_option linter.unusedVariables false
set_option linter.unusedSimpArgs false
set_option maxRecDepth 100000

/-- where the blocks end -/
theorem blk_ends (xs : List Int) : ∀ k, ∃ E : Nat → Nat, E 0 = 0 ∧ E (blkTo xs k).1.length = (blkTo xs k).2 ∧
    ∀ j, j < (blkTo xs k).1.length → E j < E (j + 1) ∧ E (j + 1) ≤ k ∧ 2 * diff xs (E (j + 1)) = E (j + 1) ∧ rAt (blkTo xs k).1 j = norm (segm xs (E j) (E (j + 1))) := by
  intro k
  induction k with
  | zero => exact ⟨fun _ => 0, rfl, rfl, fun j hj => by simp [blkTo] at hj⟩
  | succ k ih =>
    obtain ⟨E, h0, h1, h2⟩ := ih
    by_cases he : 2 * diff xs (k + 1) = k + 1
    · have hb := blkTo_bd xs k
      rw [blkTo_yes xs k he]
      obtain ⟨L, hL⟩ : ∃ L, L = (blkTo xs k).1.length := ⟨_, rfl⟩
      rw [← hL] at h1 h2
      refine ⟨fun j => if j ≤ L then E j else k + 1, by simp [h0], ?_, fun j hj => ?_⟩
      · simp only [List.length_append, List.length_singleton, ← hL]
        rw [if_neg (by omega)]
      · simp only [List.length_append, List.length_singleton, ← hL] at hj
        simp only [rAt_snoc, ← hL]
        by_cases e : j = L
        · subst e
          rw [if_pos (Nat.le_refl _), if_neg (by omega), if_pos rfl, h1]
          exact ⟨by omega, Nat.le_refl _, he, rfl⟩
        · obtain ⟨a1, a2, a3, a4⟩ := h2 j (by omega)
          rw [if_pos (show j ≤ L by omega), if_pos (show j + 1 ≤ L by omega), if_neg e]
          exact ⟨a1, by omega, a3, a4⟩
    · rw [blkTo_no xs k he]
      exact ⟨E, h0, h1, fun j hj => by obtain ⟨a1, a2, a3, a4⟩ := h2 j hj; exact ⟨a1, by omega, a3, a4⟩⟩
/-- the places at which the blocks begin -/
structure Ends (xs : List Int) (E : Nat → Nat) (m : Nat) : Prop where
  zero : E 0 = 0
  last : E m = xs.length
  step : ∀ j, j < m → E j < E (j + 1) ∧ E (j + 1) ≤ xs.length ∧ 2 * diff xs (E (j + 1)) = E (j + 1) ∧ rAt (blocks xs) j = norm (segm xs (E j) (E (j + 1)))
theorem blocks_ends {xs : List Int} (h : isWord xs = true) : ∃ E, Ends xs E (blocks xs).length := by
  obtain ⟨E, h0, h1, h2⟩ := blk_ends xs xs.length
  refine ⟨E, h0, ?_, fun j hj => h2 j hj⟩
  unfold blocks
  rw [h1]
  rcases hx : xs.length with _ | k
  · rfl
  · have hd := diff_len h
    have hh := word_half h
    rw [blkTo_yes xs k (by rw [← hx, hd]; omega)]
theorem Ends.closed {xs : List Int} {E : Nat → Nat} {m : Nat} (h : Ends xs E m) (j : Nat) (hj : j ≤ m) : 2 * diff xs (E j) = E j ∧ E j ≤ xs.length := by
  rcases j with _ | j
  · rw [h.zero, diff_zero]; exact ⟨rfl, Nat.zero_le _⟩
  · obtain ⟨_, a2, a3, _⟩ := h.step j (by omega)
    exact ⟨a3, a2⟩
theorem Ends.join {xs : List Int} {E : Nat → Nat} {m : Nat} (h : Ends xs E m) (hw : isWord xs = true) (j : Nat) (hj : j < m) : joinWords (xs.take (E j)) (rAt (blocks xs) j) = (xs.take (E (j + 1)), 0) := by
  obtain ⟨a1, a2, a3, a4⟩ := h.step j hj
  rw [a4]
  exact join_block hw _ _ (by omega) a2 (h.closed j (by omega)).1 a3
theorem Ends.row {xs : List Int} {E : Nat → Nat} {m : Nat} (h : Ends xs E m) (j : Nat) (hj : j < m) : (rAt (blocks xs) j).length ≠ 0 ∧ (rAt (blocks xs) j).length ≤ xs.length ∧ Wf (rAt (blocks xs) j) ∨ 1048576 < xs.length := by
  obtain ⟨a1, a2, a3, a4⟩ := h.step j hj
  by_cases hb : 1048576 < xs.length
  · exact .inr hb
  · left
    have hl : (rAt (blocks xs) j).length = E (j + 1) - E j := by rw [a4, norm_length, segm_len xs _ _ a2]
    refine ⟨by omega, by omega, ?_⟩
    rw [a4]
    exact wf_norm _ (by rw [segm_len xs _ _ a2]; omega)
theorem wordRows_zero' {f : List Int → List (List Int)} {xs : List Int} (h : (wordRows f xs).2 = 0) : isWord xs = true ∧ wordRows f xs = (f xs, 0) := by
  rcases hw : isWord xs with _ | _
  · rw [wordRows_no hw] at h; simp at h
  · exact ⟨rfl, wordRows_yes hw⟩
theorem wordRows_bad {f : List Int → List (List Int)} {xs : List Int} (h : (wordRows f xs).2 ≠ 0) : (wordRows f xs).1 = [] := by
  rcases hw : isWord xs with _ | _
  · rw [wordRows_no hw]
  · rw [wordRows_yes hw] at h; simp at h
def KeptB (w : World) (A1 : Option Addr) (m1 d1 : Nat) (xs : List Int) (A2 : Option Addr) (m2 d2 : Nat) (vs2 : List Value) (R1 : List (List Int)) (wc : World) : Prop :=
  Below w.heap.size w wc ∧ RdC wc A1 m1 d1 xs ∧ OwnV wc w.heap.size (.slice A2 m2 d2) vs2 R1
theorem lens_take (rs : List (List Int)) (k : Nat) (h : k < rs.length) : lens (rs.take (k + 1)) = lens (rs.take k) + (rAt rs k).length := by rw [rAt_take rs k h, lens_snoc]
theorem lens_take_le (rs : List (List Int)) (k : Nat) : lens (rs.take k) ≤ lens rs := by
  have h1 : rs = rs.take k ++ rs.drop k := (List.take_append_drop k rs).symm
  have h2 : lens rs = lens (rs.take k) + lens (rs.drop k) := by
    have h3 : lens (rs.take k ++ rs.drop k) = lens (rs.take k) + lens (rs.drop k) := by simp only [lens, List.map_append, List.sum_append]
    rw [← h1] at h3; exact h3
  omega
theorem degrees_06 {xs : List Int} (h : isWord xs = true) : ∀ y ∈ degrees xs, 0 ≤ y ∧ y ≤ 6 := fun y hy => by
  unfold degrees at hy
  obtain ⟨r, hr, rfl⟩ := List.mem_map.1 hy
  unfold rowsOf at hr
  obtain ⟨i, hi, rfl⟩ := List.mem_map.1 hr
  have := total_bd (rowOf xs i) (rowOf_01 xs i)
  rw [rowOf_length] at this
  have := isWord_len h
  omega
theorem half_mul (h : Nat) (hh : h ≤ 6) : IntKind.i64.wrap ((h : Int) * ((h : Int) - 1)) = (h : Int) * ((h : Int) - 1) := by
  have : h = 0 ∨ h = 1 ∨ h = 2 ∨ h = 3 ∨ h = 4 ∨ h = 5 ∨ h = 6 := by omega
  rcases this with rfl | rfl | rfl | rfl | rfl | rfl | rfl <;> decide
theorem half_bd (h : Nat) (hh : h ≤ 6) : 0 ≤ (h : Int) * ((h : Int) - 1) ∧ (h : Int) * ((h : Int) - 1) ≤ 30 := by
  have : h = 0 ∨ h = 1 ∨ h = 2 ∨ h = 3 ∨ h = 4 ∨ h = 5 ∨ h = 6 := by omega
  rcases this with rfl | rfl | rfl | rfl | rfl | rfl | rfl <;> decide

set_option maxHeartbeats 12800000 in
theorem blocksLaw_any (n c : Nat) (C : Option Addr) (w : World) (hy : RdY w w.heap.size C n) :
    Calls Try.prog 11 #[.slice C n c] w fun e w' => e = .returned (.bool true) ∧ Below w.heap.size w w' := by
  have HY : Hid (RdY w w.heap.size C n) := Lib.hid hy
  have HB : Hid (Below w.heap.size w w) := Lib.hid (Below.refl _ _)
  clear hy
  by_cases hn4 : n ≤ 4096
  case neg =>
    have hbg : decide ((n : Int) > 4096) = true := by simp; omega
    go_enter Try.func11, Try.ntmps11
    go_wp2_with fail
    refine (big_any n c C _).mono ?_
    rintro e w1 ⟨rfl, rfl⟩
    rw [hbg]
    go_wp2_with fail
    go_ret
    exact ⟨rfl, Below.refl _ _⟩
  have hbg : decide ((n : Int) > 4096) = false := by simp; omega
  go_enter Try.func11, Try.ntmps11
  go_wp2_with fail
  refine (big_any n c C _).mono ?_
  rintro e w1 ⟨rfl, rfl⟩
  rw [hbg]
  clear hbg
  go_wp2_with fail
  refine (drawBlocksOf_any n c w.heap.size C _ HY.out HB.out.size hn4).mono ?_
  rintro e wn ⟨v, xs, rfl, hd, hb⟩
  obtain ⟨A1, m1, d1, rfl, h1⟩ := hd.rdc
  replace HY := Lib.hid (HY.out.keep hb HB.out.size)
  replace HB := Lib.hid (bel HB.out hb)
  have H1 := Lib.hid h1
  have W1 := Lib.hid hd.wf
  clear h1 hd hb
  obtain ⟨R1, z1, hLz⟩ : ∃ L z, wordRows blocks xs = (L, z) := ⟨_, _, rfl⟩
  have HLZ1 := Lib.hid hLz
  have HSL1 : Hid (Slim R1) := Lib.hid (by have h0 := (wordRows_few xs blocks_few).1; rw [hLz] at h0; exact h0)
  have hne1 : (z1 != z1) = false := by simp
  clear hLz
  go_wp2_with fail
  refine ((implBlocksOf_any A1 m1 d1 xs _ H1.out.rd W1.out H1.out.few H1.out.cap).rdr HLZ1.out).mono ?_
  rintro e wn ⟨A2, m2, d2, vs2, rfl, hn, hb⟩
  have hnm := hn.mono HB.out.size
  replace HY := Lib.hid (HY.out.keep hb HB.out.size)
  replace HB := Lib.hid (bel HB.out hb)
  replace H1 := Lib.hid (H1.out.below hb)
  have H2 := Lib.hid hnm
  clear hn hb hnm
  go_wp2_with fail
  refine ((specBlocksOf_any A1 m1 d1 xs _ H1.out.rd W1.out H1.out.few H1.out.cap).rdr HLZ1.out).mono ?_
  rintro e wn ⟨A3, m3, d3, vs3, rfl, hn, hb⟩
  have hnm := hn.mono HB.out.size
  replace HY := Lib.hid (HY.out.keep hb HB.out.size)
  replace HB := Lib.hid (bel HB.out hb)
  replace H1 := Lib.hid (H1.out.below hb)
  replace H2 := Lib.hid (H2.out.below hb)
  have H3 := Lib.hid hnm
  clear hn hb hnm
  go_wp2_with fail
  refine (lists9_self _ _ _ _ _ _ _ _ _ _ R1 _ H2.out H3.out HSL1.out).mono ?_
  rintro e wn ⟨rfl, hb⟩
  replace HY := Lib.hid (HY.out.keep hb HB.out.size)
  replace HB := Lib.hid (bel HB.out hb)
  replace H1 := Lib.hid (H1.out.below hb)
  replace H2 := Lib.hid (H2.out.below hb)
  replace H3 := Lib.hid (H3.out.below hb)
  clear hb
  clear H3
  go_wp2_with fail
  refine (drawPartsOf_any n c w.heap.size C _ HY.out HB.out.size hn4).mono ?_
  rintro e wn ⟨v, ys, rfl, hd, hb⟩
  obtain ⟨A4, m4, d4, rfl, h1⟩ := hd.rdc
  replace HY := Lib.hid (HY.out.keep hb HB.out.size)
  replace HB := Lib.hid (bel HB.out hb)
  replace H1 := Lib.hid (H1.out.below hb)
  replace H2 := Lib.hid (H2.out.below hb)
  have H4 := Lib.hid h1
  have W4 := Lib.hid hd.wf
  clear h1 hd hb
  obtain ⟨R2, z2, hLz⟩ : ∃ L z, wordRows parts ys = (L, z) := ⟨_, _, rfl⟩
  have HLZ2 := Lib.hid hLz
  have HSL2 : Hid (Slim R2) := Lib.hid (by have h0 := (wordRows_few ys parts_few).1; rw [hLz] at h0; exact h0)
  have hne2 : (z2 != z2) = false := by simp
  clear hLz
  go_wp2_with fail
  refine ((implPartsOf_any A4 m4 d4 ys _ H4.out.rd W4.out H4.out.few H4.out.cap).rdr HLZ2.out).mono ?_
  rintro e wn ⟨A5, m5, d5, vs5, rfl, hn, hb⟩
  have hnm := hn.mono HB.out.size
  replace HY := Lib.hid (HY.out.keep hb HB.out.size)
  replace HB := Lib.hid (bel HB.out hb)
  replace H1 := Lib.hid (H1.out.below hb)
  replace H2 := Lib.hid (H2.out.below hb)
  replace H4 := Lib.hid (H4.out.below hb)
  have H5 := Lib.hid hnm
  clear hn hb hnm
  go_wp2_with fail
  refine ((specPartsOf_any A4 m4 d4 ys _ H4.out.rd W4.out H4.out.few H4.out.cap).rdr HLZ2.out).mono ?_
  rintro e wn ⟨A6, m6, d6, vs6, rfl, hn, hb⟩
  have hnm := hn.mono HB.out.size
  replace HY := Lib.hid (HY.out.keep hb HB.out.size)
  replace HB := Lib.hid (bel HB.out hb)
  replace H1 := Lib.hid (H1.out.below hb)
  replace H2 := Lib.hid (H2.out.below hb)
  replace H4 := Lib.hid (H4.out.below hb)
  replace H5 := Lib.hid (H5.out.below hb)
  have H6 := Lib.hid hnm
  clear hn hb hnm
  go_wp2_with fail
  refine (lists9_self _ _ _ _ _ _ _ _ _ _ R2 _ H5.out H6.out HSL2.out).mono ?_
  rintro e wn ⟨rfl, hb⟩
  replace HY := Lib.hid (HY.out.keep hb HB.out.size)
  replace HB := Lib.hid (bel HB.out hb)
  replace H1 := Lib.hid (H1.out.below hb)
  replace H2 := Lib.hid (H2.out.below hb)
  replace H4 := Lib.hid (H4.out.below hb)
  replace H5 := Lib.hid (H5.out.below hb)
  replace H6 := Lib.hid (H6.out.below hb)
  clear hb
  clear H6
  obtain ⟨L3, z3, hLz⟩ : ∃ L z, wordList degrees ys = (L, z) := ⟨_, _, rfl⟩
  have HLZ3 := Lib.hid hLz
  have HLL3 : Hid (L3.length ≤ 1048576) := Lib.hid (by have h0 := (wordList_len ys (fun h => degrees_few h)); rw [hLz] at h0; exact h0)
  have hne3 : (z3 != z3) = false := by simp
  clear hLz
  go_wp2_with fail
  refine ((implDegreesOf_any A4 m4 d4 ys _ H4.out.rd W4.out H4.out.few H4.out.cap).rdc HLZ3.out HLL3.out).mono ?_
  rintro e wn ⟨A7, m7, d7, rfl, hn, hb⟩
  replace HY := Lib.hid (HY.out.keep hb HB.out.size)
  replace HB := Lib.hid (bel HB.out hb)
  replace H1 := Lib.hid (H1.out.below hb)
  replace H2 := Lib.hid (H2.out.below hb)
  replace H4 := Lib.hid (H4.out.below hb)
  replace H5 := Lib.hid (H5.out.below hb)
  have H7 := Lib.hid hn
  clear hn hb
  go_wp2_with fail
  refine ((specDegreesOf_any A4 m4 d4 ys _ H4.out.rd W4.out H4.out.few H4.out.cap).rdc HLZ3.out HLL3.out).mono ?_
  rintro e wn ⟨A8, m8, d8, rfl, hn, hb⟩
  replace HY := Lib.hid (HY.out.keep hb HB.out.size)
  replace HB := Lib.hid (bel HB.out hb)
  replace H1 := Lib.hid (H1.out.below hb)
  replace H2 := Lib.hid (H2.out.below hb)
  replace H4 := Lib.hid (H4.out.below hb)
  replace H5 := Lib.hid (H5.out.below hb)
  replace H7 := Lib.hid (H7.out.below hb)
  have H8 := Lib.hid hn
  clear hn hb
  go_wp2_with fail
  refine (like_self _ _ _ _ _ _ (L3) _ H7.out.rd H8.out.rd H7.out.few).mono ?_
  rintro e wn ⟨rfl, hb⟩
  replace HY := Lib.hid (HY.out.keep hb HB.out.size)
  replace HB := Lib.hid (bel HB.out hb)
  replace H1 := Lib.hid (H1.out.below hb)
  replace H2 := Lib.hid (H2.out.below hb)
  replace H4 := Lib.hid (H4.out.below hb)
  replace H5 := Lib.hid (H5.out.below hb)
  replace H7 := Lib.hid (H7.out.below hb)
  replace H8 := Lib.hid (H8.out.below hb)
  clear hb
  clear H8
  obtain ⟨L4, z4, hLz⟩ : ∃ L z, wordList isolated ys = (L, z) := ⟨_, _, rfl⟩
  have HLZ4 := Lib.hid hLz
  have HLL4 : Hid (L4.length ≤ 1048576) := Lib.hid (by have h0 := (wordList_len ys (fun h => isolated_few h)); rw [hLz] at h0; exact h0)
  have hne4 : (z4 != z4) = false := by simp
  clear hLz
  go_wp2_with fail
  refine ((implIsolatedChords_any A4 m4 d4 ys _ H4.out.rd W4.out H4.out.few H4.out.cap).rdc HLZ4.out HLL4.out).mono ?_
  rintro e wn ⟨A9, m9, d9, rfl, hn, hb⟩
  replace HY := Lib.hid (HY.out.keep hb HB.out.size)
  replace HB := Lib.hid (bel HB.out hb)
  replace H1 := Lib.hid (H1.out.below hb)
  replace H2 := Lib.hid (H2.out.below hb)
  replace H4 := Lib.hid (H4.out.below hb)
  replace H5 := Lib.hid (H5.out.below hb)
  replace H7 := Lib.hid (H7.out.below hb)
  have H9 := Lib.hid hn
  clear hn hb
  go_wp2_with fail
  refine ((specIsolatedChords_any A4 m4 d4 ys _ H4.out.rd W4.out H4.out.few H4.out.cap).rdc HLZ4.out HLL4.out).mono ?_
  rintro e wn ⟨A10, m10, d10, rfl, hn, hb⟩
  replace HY := Lib.hid (HY.out.keep hb HB.out.size)
  replace HB := Lib.hid (bel HB.out hb)
  replace H1 := Lib.hid (H1.out.below hb)
  replace H2 := Lib.hid (H2.out.below hb)
  replace H4 := Lib.hid (H4.out.below hb)
  replace H5 := Lib.hid (H5.out.below hb)
  replace H7 := Lib.hid (H7.out.below hb)
  replace H9 := Lib.hid (H9.out.below hb)
  have H10 := Lib.hid hn
  clear hn hb
  go_wp2_with fail
  refine (like_self _ _ _ _ _ _ (L4) _ H9.out.rd H10.out.rd H9.out.few).mono ?_
  rintro e wn ⟨rfl, hb⟩
  replace HY := Lib.hid (HY.out.keep hb HB.out.size)
  replace HB := Lib.hid (bel HB.out hb)
  replace H1 := Lib.hid (H1.out.below hb)
  replace H2 := Lib.hid (H2.out.below hb)
  replace H4 := Lib.hid (H4.out.below hb)
  replace H5 := Lib.hid (H5.out.below hb)
  replace H7 := Lib.hid (H7.out.below hb)
  replace H9 := Lib.hid (H9.out.below hb)
  replace H10 := Lib.hid (H10.out.below hb)
  clear hb
  clear H10
  obtain ⟨c5, z5, hLz⟩ : ∃ L z, wordVal nestedCount ys = (L, z) := ⟨_, _, rfl⟩
  have HLZ5 := Lib.hid hLz
  have hne5 : (z5 != z5) = false := by simp
  have hce5 : (c5 != c5) = false := by simp
  clear hLz
  go_wp2_with fail
  refine (implCountNested_any A4 m4 d4 ys _ H4.out.rd W4.out H4.out.few H4.out.cap).mono ?_
  rintro e wn ⟨rfl, hb⟩
  replace HY := Lib.hid (HY.out.keep hb HB.out.size)
  replace HB := Lib.hid (bel HB.out hb)
  replace H1 := Lib.hid (H1.out.below hb)
  replace H2 := Lib.hid (H2.out.below hb)
  replace H4 := Lib.hid (H4.out.below hb)
  replace H5 := Lib.hid (H5.out.below hb)
  replace H7 := Lib.hid (H7.out.below hb)
  replace H9 := Lib.hid (H9.out.below hb)
  clear hb
  rw [HLZ5.out]
  go_wp2_with fail
  refine (specCountNested_any A4 m4 d4 ys _ H4.out.rd W4.out H4.out.few H4.out.cap).mono ?_
  rintro e wn ⟨rfl, hb⟩
  replace HY := Lib.hid (HY.out.keep hb HB.out.size)
  replace HB := Lib.hid (bel HB.out hb)
  replace H1 := Lib.hid (H1.out.below hb)
  replace H2 := Lib.hid (H2.out.below hb)
  replace H4 := Lib.hid (H4.out.below hb)
  replace H5 := Lib.hid (H5.out.below hb)
  replace H7 := Lib.hid (H7.out.below hb)
  replace H9 := Lib.hid (H9.out.below hb)
  clear hb
  rw [HLZ5.out]
  obtain ⟨c6, z6, hLz⟩ : ∃ L z, wordVal apartCount ys = (L, z) := ⟨_, _, rfl⟩
  have HLZ6 := Lib.hid hLz
  have hne6 : (z6 != z6) = false := by simp
  have hce6 : (c6 != c6) = false := by simp
  clear hLz
  go_wp2_with fail
  refine (implCountApart_any A4 m4 d4 ys _ H4.out.rd W4.out H4.out.few H4.out.cap).mono ?_
  rintro e wn ⟨rfl, hb⟩
  replace HY := Lib.hid (HY.out.keep hb HB.out.size)
  replace HB := Lib.hid (bel HB.out hb)
  replace H1 := Lib.hid (H1.out.below hb)
  replace H2 := Lib.hid (H2.out.below hb)
  replace H4 := Lib.hid (H4.out.below hb)
  replace H5 := Lib.hid (H5.out.below hb)
  replace H7 := Lib.hid (H7.out.below hb)
  replace H9 := Lib.hid (H9.out.below hb)
  clear hb
  rw [HLZ6.out]
  go_wp2_with fail
  refine (specCountApart_any A4 m4 d4 ys _ H4.out.rd W4.out H4.out.few H4.out.cap).mono ?_
  rintro e wn ⟨rfl, hb⟩
  replace HY := Lib.hid (HY.out.keep hb HB.out.size)
  replace HB := Lib.hid (bel HB.out hb)
  replace H1 := Lib.hid (H1.out.below hb)
  replace H2 := Lib.hid (H2.out.below hb)
  replace H4 := Lib.hid (H4.out.below hb)
  replace H5 := Lib.hid (H5.out.below hb)
  replace H7 := Lib.hid (H7.out.below hb)
  replace H9 := Lib.hid (H9.out.below hb)
  clear hb
  rw [HLZ6.out]
  go_upto_if 157 with fail
  go_cut [] from 241 (fun wc => KeptB w A1 m1 d1 xs A2 m2 d2 vs2 R1 wc)
  case first =>
    by_cases hz : z2 = 0
    · subst hz
      obtain ⟨hwd, he⟩ := wordRows_zero' (f := parts) (xs := ys) (by rw [HLZ2.out])
      obtain rfl : R2 = parts ys := by have h0 := HLZ2.out; rw [he] at h0; injection h0 with h0 _; exact h0.symm
      obtain rfl : L3 = degrees ys := by have h0 := HLZ3.out; rw [wordList_yes hwd] at h0; injection h0 with h0 _; exact h0.symm
      have hc5 : nestedCount ys = c5 := by have h0 := HLZ5.out; rw [wordVal_yes hwd] at h0; injection h0 with h0 _
      have hc6 : apartCount ys = c6 := by have h0 := HLZ6.out; rw [wordVal_yes hwd] at h0; injection h0 with h0 _
      obtain ⟨hh, hhe⟩ : ∃ hh, hh = ys.length / 2 := ⟨_, rfl⟩
      have hl12 := isWord_len hwd
      have hh6 : hh ≤ 6 := by omega
      have HQ : Hid ((m4 : Int) / 2 = (hh : Int)) := Lib.hid (by have := H4.out.len; omega)
      have hm5 : m5 = (parts ys).length := H5.out.n_eq
      have HM5 := Lib.hid hm5
      have hm56 : m5 ≤ 6 := by have := partsTo_len ys (ys.length / 2); rw [hm5]; unfold parts; omega
      have HLE : Hid (lens (parts ys) = hh) := Lib.hid (by rw [hhe]; exact lens_whole hwd)
      have HX := Lib.hid (wordVal_yes (f := crossCount) hwd)
      have hpw := pairs_whole hwd
      rw [hc5, hc6, ← hhe] at hpw
      have hb5 := triTo_bd (nestB ys) (ys.length / 2) (by omega)
      have hb6 := triTo_bd (apartB ys) (ys.length / 2) (by omega)
      rw [show triTo (nestB ys) (ys.length / 2) = c5 from hc5, ← hhe] at hb5
      rw [show triTo (apartB ys) (ys.length / 2) = c6 from hc6, ← hhe] at hb6
      have hbx := crossCount_bd hwd
      have HDT := Lib.hid (degrees_total hwd)
      have HD6 := Lib.hid (degrees_06 hwd)
      have hm7 : m7 ≤ 6 := by have := H7.out.len; rw [degrees_length] at this; omega
      obtain ⟨cc, hcc⟩ : ∃ t, t = crossCount ys := ⟨_, rfl⟩
      rw [← hcc] at HX hpw hbx HDT
      have HPW := Lib.hid hpw
      obtain ⟨W0, hW0⟩ : ∃ W0, W0 = wn := ⟨_, rfl⟩
      subst hW0
      clear he hc5 hc6 hhe hl12 hm5 hpw hcc hwd
      go_wp2_with fail
      go_loopw [30, 31] (fun t i wr => ∃ k : Nat, k ≤ m5 ∧ i = .int .i64 k ∧ t = .int .i64 (lens ((parts ys).take k) : Nat) ∧ Hid (W0 = wr)) (fun _ i _ => m5 - (intOf i).toNat)
      case atStart => exact ⟨0, by omega, rfl, rfl, Lib.hid rfl⟩
      case round =>
        obtain ⟨k, hk, rfl, rfl, hwr⟩ := hrel
        obtain rfl := hwr.out
        clear hwr
        by_cases hlt : k < m5
        · obtain ⟨g, RB, rd, rfl, hc1, _, _, hg1⟩ := H5.out.at_ k hlt
          have hst := lens_take (parts ys) k (by rw [← HM5.out]; exact hlt)
          have hle1 := lens_take_le (parts ys) (k + 1)
          rw [HLE.out] at hle1
          obtain ⟨rl, hrl⟩ : ∃ t, t = (rAt (parts ys) k).length := ⟨_, rfl⟩
          obtain ⟨tk, htk⟩ : ∃ t, t = lens ((parts ys).take k) := ⟨_, rfl⟩
          rw [← hrl] at hc1 hst
          rw [← htk] at hst ⊢
          rw [hst] at hle1
          have HST := Lib.hid hst
          clear hst hrl htk
          go_wp2_with fail
          go_roundw
          case rel => exact ⟨k + 1, by omega, by go_num, by rw [HST.out]; go_num, Lib.hid (by first | rfl | trivial)⟩
          case measure => simp [intOf]; omega
        · obtain rfl : k = m5 := by omega
          have HTK : Hid (lens ((parts ys).take k) = hh) := Lib.hid (by rw [List.take_of_length_le (by rw [← HM5.out]; exact Nat.le_refl _)]; exact HLE.out)
          rw [HTK.out, HQ.out]
          clear H5
          go_wp2_with fail
          refine (implCountCrossings_any A4 m4 d4 ys _ H4.out.rd W4.out H4.out.few H4.out.cap).mono ?_
          rintro e wn ⟨rfl, hb⟩
          replace HY := Lib.hid (HY.out.keep hb HB.out.size)
          replace HB := Lib.hid (bel HB.out hb)
          replace H1 := Lib.hid (H1.out.below hb)
          replace H2 := Lib.hid (H2.out.below hb)
          replace H4 := Lib.hid (H4.out.below hb)
          replace H7 := Lib.hid (H7.out.below hb)
          clear hb
          rw [HX.out]
          obtain ⟨PP, hPP⟩ : ∃ P : Int, P = (hh : Int) * ((hh : Int) - 1) := ⟨_, rfl⟩
          have hPb : 0 ≤ PP ∧ PP ≤ 30 := by
            have hcs : hh = 0 ∨ hh = 1 ∨ hh = 2 ∨ hh = 3 ∨ hh = 4 ∨ hh = 5 ∨ hh = 6 := by omega
            rcases hcs with rfl | rfl | rfl | rfl | rfl | rfl | rfl <;> (subst hPP; decide)
          have hwm : IntKind.i64.wrap ((hh : Int) * ((hh : Int) - 1)) = PP := by rw [← hPP, IntKind.wrap_i64]; omega
          have e2 : (c5 + c6 + cc != PP / 2) = false := by rw [bne_eq_false_iff_eq, hPP]; exact HPW.out
          have e2' : (c5 + c6 + cc != PP.tdiv 2) = false := by rw [Int.tdiv_eq_ediv_of_nonneg hPb.1]; exact e2
          have e3 : (2 * cc != 2 * cc) = false := by simp
          have HPPH := Lib.hid hPP
          clear hPP
          rw [IntWalk.wrap64_in (hh : Int) (by omega)]
          go_wp2_with fail
          refine (sum6_any _ _ _ (degrees ys) _ H7.out.rd hm7 HD6.out).mono ?_
          rintro e wx ⟨rfl, rfl⟩
          rw [HDT.out]
          go_wp2_with fail
          go_meet
          case rel => exact ⟨HB.out, H1.out, H2.out⟩
    · have e0 : (z2 == 0) = false := by rw [beq_eq_false_iff_ne]; exact hz
      clear hz
      go_wp2_with fail
      go_meet
      case rel => exact ⟨HB.out, H1.out, H2.out⟩
  clear H1 H2 H4 H5 H7 H9 W4 HLZ2 HLZ3 HLZ4 HLZ5 HLZ6 HSL2 HLL3 HLL4 hne2 hne3 hne4 hne5 hne6 hce5 hce6 HY HB
  have HB := Lib.hid hcut.1
  have H1 := Lib.hid hcut.2.1
  have H2 := Lib.hid hcut.2.2
  clear hcut
  by_cases hz : z1 = 0
  case neg =>
    have e0 : (z1 != 0) = true := by rw [bne_iff_ne]; exact hz
    have hr : R1 = [] := by
      have h0 := wordRows_bad (f := blocks) (xs := xs) (by rw [HLZ1.out]; exact hz)
      rw [HLZ1.out] at h0; exact h0
    obtain rfl : m2 = 0 := by rw [H2.out.n_eq, hr]; rfl
    clear hr hz
    go_wp2_with fail
    go_ret
    exact ⟨rfl, HB.out⟩
  subst hz
  obtain ⟨hwd, he⟩ := wordRows_zero' (f := blocks) (xs := xs) (by rw [HLZ1.out])
  obtain rfl : R1 = blocks xs := by have h0 := HLZ1.out; rw [he] at h0; injection h0 with h0 _; exact h0.symm
  obtain ⟨E, hE⟩ := blocks_ends hwd
  have hm2 : m2 = (blocks xs).length := H2.out.n_eq
  rw [← hm2] at hE
  have HE := Lib.hid hE
  have HWD := Lib.hid hwd
  have hl12 := isWord_len hwd
  have hm212 : m2 ≤ 12 := by have := blkTo_bd xs xs.length; rw [hm2]; unfold blocks; omega
  obtain ⟨W0, hW0⟩ : ∃ W0, W0 = wc := ⟨_, rfl⟩
  subst hW0
  have HR0 : Hid (RdC (W0.alloc (.cells #[] 2)) (some ⟨W0.heap.size, 0, none⟩) 0 0 (xs.take (E 0))) := Lib.hid (by
    rw [hE.zero]
    exact ⟨⟨rfl, fun h => absurd h (Nat.lt_irrefl 0)⟩, Nat.le_refl _, by omega⟩)
  have HB0 := Lib.hid (below_alloc W0 (.cells #[] 2))
  clear he hE hwd hm2
  go_wp2_with fail
  go_loopw [34, 35] (fun v i wr => ∃ k : Nat, k ≤ m2 ∧ i = .int .i64 k ∧ ∃ A m d, v = .slice A m d ∧ Hid (RdC wr A m d (xs.take (E k))) ∧ Hid (Below W0.heap.size W0 wr)) (fun _ i _ => m2 - (intOf i).toNat)
  case atStart => exact ⟨0, by omega, rfl, _, _, _, rfl, HR0, HB0⟩
  case round =>
    obtain ⟨k, hk, rfl, A, m, d, rfl, hr, hb0⟩ := hrel
    clear HR0 HB0
    by_cases hlt : k < m2
    · have H2r := Lib.hid (H2.out.below hb0.out)
      obtain ⟨g, RB, rd, rfl, hc1, hr1, hv1, hg1⟩ := H2r.out.at_ k hlt
      have hro := H2r.out.row k
      rw [hv1] at hro
      have hcap := hro.cap
      obtain ⟨q1, q2, q3⟩ := (HE.out.row k hlt).resolve_right (by omega)
      have HJ := Lib.hid (HE.out.join HWD.out k hlt)
      have HRR := Lib.hid hr1
      have HW3 := Lib.hid q3
      have HWT : Hid (Wf (xs.take (E k))) := Lib.hid (fun y hy => word_wf HWD.out y (List.mem_of_mem_take hy))
      have HTL : Hid ((xs.take (E (k + 1))).length ≤ 1048576) := Lib.hid (by rw [List.length_take]; omega)
      obtain ⟨rl, hrl⟩ : ∃ t, t = (rAt (blocks xs) k).length := ⟨_, rfl⟩
      rw [← hrl] at hc1 HRR hcap q1 q2
      have e1 : ((rl : Int) == 0) = false := by rw [beq_eq_false_iff_ne]; omega
      clear hr1 hv1 hro q3 hrl
      go_wp2_with fail
      refine ((implJoinWords_any _ _ _ (xs.take (E k)) _ _ _ (rAt (blocks xs) k) _ hr.out.rd HWT.out hr.out.few hr.out.cap HRR.out HW3.out (by omega) hcap).rdc HJ.out HTL.out).mono ?_
      rintro e wn ⟨A', m', d', rfl, hn, hb⟩
      have hc2 : wn.cell? ⟨g, k, none⟩ = some (.slice RB rl rd) := (World.cell?_of_block (hb.block g hg1)).trans hc1
      have HN := Lib.hid hn
      have HB3 := Lib.hid (bel hb0.out hb)
      clear hn hb hc1
      go_wp2_with fail
      go_roundw
      case rel => exact ⟨k + 1, by omega, by go_num, _, _, _, rfl, HN, HB3⟩
      case measure => simp [intOf]; omega
    · obtain rfl : k = m2 := by omega
      have HX : Hid (xs.take (E k) = xs) := Lib.hid (by rw [HE.out.last]; exact List.take_of_length_le (Nat.le_refl _))
      rw [HX.out] at hr
      go_wp2_with fail
      refine (like_self _ _ _ _ _ _ xs _ hr.out.rd (H1.out.below hb0.out).rd hr.out.few).mono ?_
      rintro e wn ⟨rfl, hb⟩
      have HB3 := Lib.hid (bel HB.out (bel hb0.out hb))
      clear hb
      go_wp2_with fail
      go_ret
      exact ⟨rfl, HB3.out⟩
theorem lawBlocks_lifted (os : Os) (started : os.Started) (H : Type) (enc : TypeId × Value → H) :
    ReturnsInHanded {} Try.checked os 11 .any (Rows.fnBlocksSpec.pre6 enc Try.prog Try.f11 Rows.fnBlocksRow.domain false) (Rows.fnBlocksSpec.post enc Try.prog Try.f11 false true false false) := by
  refine returnsInHanded_of_change (C := Try.checked) prog_own started (by kernel_rfl) Try.func11
    (ChangeSpec.witness6 (enc := enc) (C := Try.checked) false ⟨#[], #[.slice none 0 0], []⟩ 8 (by kernel_rfl) (by kernel_rfl) (by kernel_rfl) (by kernel_rfl)) ?_
  intro W base args ds gs before hval0 hW hcnd _
  have hval : ∀ (j : Nat) t v, Try.f11.params[j]? = some t → args[j]? = some v → Value.okWide Try.prog W .any base t v := hval0
  have hW' := hW
  obtain ⟨p, q, hA0, hV, rfl, hfz, hnd⟩ := hW
  have hA : DataW.TrodAll enc Try.prog W 0 (fun _ => true) true Try.f11.params.toList args.toList ds p := hA0
  rw [Try.params11] at hA hval
  obtain ⟨v0, vs0, d0, ds0, p0, q0, hargs0, rfl, rfl, h0, r0⟩ := trodAll_cons hA
  obtain ⟨rfl, rfl, rfl⟩ := trodAll_nil r0
  obtain rfl : args = #[v0] := by cases args; simp_all
  obtain ⟨rfl, rfl⟩ := trodVars_none hV
  clear hA0 hval0
  simp only [List.append_nil] at hW'
  have hlt0 : ∀ x ∈ p0, x.block < W.heap.size := fun x hx => hW'.lt x (by simp [hx])
  obtain ⟨A0, n0, c0, rfl, hr0⟩ := open_rdy h0 hlt0 (okWide_slice Try.underlying32 (hval 0 _ _ rfl rfl))
  have hk0 : ∀ (W' : World), Below W.heap.size W W' → DataW.Trod enc Try.prog W' 0 (fun b => decide (b < W.heap.size)) true 32 (.slice A0 n0 c0) d0 p0 :=
    fun W' hn => Below.trod prog_laidOut (by kernel_rfl) (of_decide_eq_true (by kernel_rfl)) h0 hn hlt0
  refine (blocksLaw_any n0 c0 A0 W hr0).mono fun e W' ⟨he, hnx⟩ => ?_
  subst he
  exact ⟨_, rfl, _, _, _, _, _, [], hW', trodAll_cons_mk (shut_bool Try.underlying4 _) trodAll_mk0, (trodAll_cons_mk (hk0 _ hnx) trodAll_mk0), rfl, hnx.frame _, fun h => by cases h⟩

theorem lawBlocks_holds : Rows.FnBlocksSaid :=
  OpenClaim.holds_of_wide_leaving 11 Try.f11 rfl rfl rfl rfl rfl rfl rfl ⟨rfl, rfl, rfl, rfl, rfl⟩ rfl rfl rfl rfl rfl (by kernel_rfl) Try.func11 (by kernel_rfl)
    (of_decide_eq_true (by kernel_rfl)) (by unfold Func.isWrapper; first | (rw [if_pos (by decide +kernel)]; kernel_rfl) | (rw [if_neg (by decide +kernel)]; exact ⟨rfl, rfl⟩))
    (fun os started H enc _ => leaving_of_handed (lawBlocks_lifted os started H enc))
end Go.Proofs.Ytinfhkcmjmglkaa
