/- WordOfChords: the program's and the model's contract. -/
import Derived.Test.YtacfiljclklkdaaKeep
import Derived.Test.YtacfiljclklkdaaBorder
namespace Go.Proofs.Ytacfiljclklkdaa
open Go.RowKit
set_option linter.unusedVariables false
set_option linter.unusedSimpArgs false
set_option maxRecDepth 100000

/-- the first k of a list are chords of m, ascending -/
def okTo (m : Nat) (ys : List Int) : Nat → Bool
  | 0 => true
  | k + 1 => okTo m ys k && (inB (ys[k]?.getD 0) 0 ((m : Int) - 1) && (decide (k = 0) || decide (ys[k - 1]?.getD 0 < ys[k]?.getD 0)))
theorem okTo_step (m : Nat) (ys : List Int) (k : Nat) (h : okTo m ys k = true) :
    (inB (ys[k]?.getD 0) 0 ((m : Int) - 1) = false → okTo m ys (k + 1) = false) ∧
    (inB (ys[k]?.getD 0) 0 ((m : Int) - 1) = true → k = 0 → okTo m ys (k + 1) = true) ∧
    (inB (ys[k]?.getD 0) 0 ((m : Int) - 1) = true → k ≠ 0 → ys[k]?.getD 0 ≤ ys[k - 1]?.getD 0 → okTo m ys (k + 1) = false) ∧
    (inB (ys[k]?.getD 0) 0 ((m : Int) - 1) = true → k ≠ 0 → ¬ ys[k]?.getD 0 ≤ ys[k - 1]?.getD 0 → okTo m ys (k + 1) = true) := by
  refine ⟨fun h1 => ?_, fun h1 h2 => ?_, fun h1 h2 h3 => ?_, fun h1 h2 h3 => ?_⟩
  · simp [okTo, h1]
  · subst h2; simp [okTo, h1]
  · simp [okTo, h1, h2]; intro _; omega
  · simp [okTo, h1, h2, h]; omega
theorem okTo_mono (m : Nat) (ys : List Int) (k : Nat) (h : okTo m ys k = false) : ∀ j, k ≤ j → okTo m ys j = false := by
  intro j hj
  induction j with
  | zero => obtain rfl : k = 0 := by omega
            exact h
  | succ j ih =>
    by_cases e : k = j + 1
    · subst e; exact h
    · simp [okTo, ih (by omega)]
def someOf (xs ys : List Int) : List Int := norm (xs.filter fun x => decide (x ∈ ys))
def wordOfChords (xs ys : List Int) : List Int × Int :=
  if isWord xs then (if okTo (xs.length / 2) ys ys.length then (someOf xs ys, 0) else ([], 2)) else ([], 1)
theorem wordOfChords_no {xs ys : List Int} (h : isWord xs = false) : wordOfChords xs ys = ([], 1) := by unfold wordOfChords; rw [h]; rfl
theorem wordOfChords_bad {xs ys : List Int} (h : isWord xs = true) (h2 : okTo (xs.length / 2) ys ys.length = false) : wordOfChords xs ys = ([], 2) := by unfold wordOfChords; rw [h, h2]; rfl
theorem wordOfChords_yes {xs ys : List Int} (h : isWord xs = true) (h2 : okTo (xs.length / 2) ys ys.length = true) : wordOfChords xs ys = (someOf xs ys, 0) := by unfold wordOfChords; rw [h, h2]; rfl
theorem someOf_len (xs ys : List Int) : (someOf xs ys).length ≤ xs.length := by unfold someOf; rw [norm_length]; exact List.length_filter_le _ _
theorem wordOfChords_len (xs ys : List Int) (h : xs.length ≤ 1048576) : (wordOfChords xs ys).1.length ≤ 1048576 := by
  unfold wordOfChords
  have := someOf_len xs ys
  split
  · split
    · simp only; omega
    · simp
  · simp
theorem in_yes (a b c : Int) (w : World) (h : inB a b c = true) : Calls Try.prog 56 #[.int .i64 a, .int .i64 b, .int .i64 c] w fun e w' => e = .returned (.bool true) ∧ w' = w :=
  (in_any a b c w).mono fun _ _ ⟨h1, h2⟩ => ⟨by rw [h1, h], h2.symm⟩
theorem in_not (a b c : Int) (w : World) (h : inB a b c = false) : Calls Try.prog 56 #[.int .i64 a, .int .i64 b, .int .i64 c] w fun e w' => e = .returned (.bool false) ∧ w' = w :=
  (in_any a b c w).mono fun _ _ ⟨h1, h2⟩ => ⟨by rw [h1, h], h2.symm⟩


/-- the marks of the first k chords of a list -/
def keepMarks (m : Nat) (ys : List Int) (k : Nat) : List Bool := (List.range m).map fun j : Nat => decide ((j : Int) ∈ ys.take k)
@[simp] theorem keepMarks_length (m : Nat) (ys : List Int) (k : Nat) : (keepMarks m ys k).length = m := by simp [keepMarks]
theorem keepMarks_get (m : Nat) (ys : List Int) (k j : Nat) (h : j < m) : (keepMarks m ys k)[j]? = some (decide ((j : Int) ∈ ys.take k)) := by simp [keepMarks, h]
theorem keepMarks_zero (m : Nat) (ys : List Int) : keepMarks m ys 0 = List.replicate m false := by
  apply List.ext_getElem?
  intro j
  by_cases h : j < m
  · rw [keepMarks_get _ _ _ _ h]; simp [h]
  · simp [keepMarks, h]
theorem keepMarks_step (m : Nat) (ys : List Int) (k j : Nat) (hk : k < ys.length) (hj : ys[k]?.getD 0 = (j : Int)) : (keepMarks m ys k).set j true = keepMarks m ys (k + 1) := by
  apply List.ext_getElem?
  intro i
  by_cases hi : i < m
  · rw [List.getElem?_set, keepMarks_get _ _ _ _ hi, keepMarks_get _ _ _ _ hi, take_next ys k hk, hj]
    by_cases e : j = i
    · subst e; simp [hi]
    · rw [if_neg e]
      congr 1
      rw [decide_eq_decide]
      simp only [List.mem_append, List.mem_singleton]
      constructor
      · exact Or.inl
      · rintro (h | h)
        · exact h
        · omega
  · rw [List.getElem?_eq_none (by simp; omega), List.getElem?_eq_none (by simp; omega)]

set_option maxHeartbeats 1600000 in
theorem specSome_any (A : Option Addr) (n c g m d lo : Nat) (xs ys : List Int) (w : World) (hr : Rd w A n xs) (hn : n ≤ 12) (hx : ∀ y ∈ xs, 0 ≤ y ∧ y < (m : Int)) (hk : w.ownsRow lo 4 1 (.slice (some ⟨g, 0, none⟩) m d) m (bools (keepMarks m ys ys.length))) :
    Calls Try.prog 123 #[.slice A n c, .slice (some ⟨g, 0, none⟩) m d] w fun e w' => ∃ v, e = .returned v ∧ Own w' w.heap.size v (someOf xs ys) ∧ Below w.heap.size w w' := by
  have HR := Lib.hid hr
  have HL := Lib.hid hr.len
  have HX := Lib.hid hx
  have HK := Lib.hid hk
  have HG : Hid (g < w.heap.size) := Lib.hid (World.ownsRow.lt hk g rfl).2
  clear hr hx hk
  go_enter Try.func123, Try.ntmps123
  go_wp2
  go_loopw [5, 6] (fun v i wr => ∃ k : Nat, k ≤ n ∧ i = .int .i64 k ∧ Own wr w.heap.size v ((xs.take k).filter fun x => decide (x ∈ ys)) ∧ Below w.heap.size w wr) (fun _ i _ => n - (intOf i).toNat)
  case atStart => exact ⟨0, by omega, rfl, World.ownsRow_lit w #[] 0 (Nat.le_refl _) (by decide) rfl, (Below.refl _ _).alloc (Nat.le_refl _) _⟩
  case round =>
    obtain ⟨k, hk, rfl, ho, hb⟩ := hrel
    by_cases hlt : k < n
    · obtain ⟨a, rfl, ha, hc⟩ := (HR.out.below hb).at_ hlt
      have hstep := filter_next (fun x => decide (x ∈ ys)) xs k (by rw [HL.out]; exact hlt)
      have hxk := HX.out (xs[k]?.getD 0) (by rw [List.getElem?_eq_getElem (by rw [HL.out]; exact hlt)]; exact List.getElem_mem _)
      obtain ⟨j, hj⟩ : ∃ j : Nat, xs[k]?.getD 0 = (j : Int) := ⟨(xs[k]?.getD 0).toNat, by omega⟩
      rw [hj] at hxk
      have hjm : j < m := by omega
      have hln : ((xs.take k).filter fun x => decide (x ∈ ys)).length ≤ 1099511627776 := by
        have h1 := List.length_filter_le (fun x => decide (x ∈ ys)) (xs.take k)
        have h2 := List.length_take_le k xs
        omega
      have hu : wr.cell? ⟨g, j, none⟩ = some (.bool (decide ((j : Int) ∈ ys))) := by
        rw [hb.cell (p := ⟨g, j, none⟩) HG.out, HK.out.cellAt j (by omega), bools_get?, keepMarks_get _ _ _ _ hjm, List.take_length]; rfl
      have HOW := Lib.hid ho
      obtain ⟨ov, rfl⟩ : ∃ ov, ov = u5 := ⟨_, rfl⟩
      clear ho
      rw [getD_eq, hj] at hc
      rw [hj] at hstep
      clear hj
      rcases hX : decide ((j : Int) ∈ ys) with _ | _
      · rw [hX] at hu
        have HS := Lib.hid (hstep.2 hX)
        clear hstep hX
        go_wp2_with fail
        go_roundw
        case rel => exact ⟨k + 1, by omega, by go_num, by rw [HS.out]; exact HOW.out, hb⟩
        case measure => simp [intOf]; omega
      · rw [hX] at hu
        have HS := Lib.hid (hstep.1 hX)
        clear hstep hX
        go_wp2_with (at_builtin; refine push_int wr rfl (.tmp 21) (.tmp 26) rfl w.heap.size ov ((xs.take k).filter fun x => decide (x ∈ ys)) (j : Int) rfl HOW.out rfl hln hb.size ?_; intro v1 w1 ho1 hg1 hat1)
        go_roundw
        case rel => exact ⟨k + 1, by omega, by go_num, by rw [HS.out]; exact ho1, hb.grown hg1 hb.size (fun x hx => (HOW.out.lt x hx).1)⟩
        case measure => simp [intOf]; omega
    · have et : xs.take k = xs := List.take_of_length_le (by rw [HL.out]; omega)
      rw [et] at ho
      have hfl := List.length_filter_le (fun x => decide (x ∈ ys)) xs
      obtain ⟨B, m', d', rfl, hm, hrb⟩ := ho.form'
      have hm' : m' ≤ 1048576 := by have := HL.out; omega
      have HRB := Lib.hid hrb
      clear et hm hrb ho hfl
      go_wp2_with fail
      refine (normal_any _ _ _ (xs.filter fun x => decide (x ∈ ys)) _ HRB.out hm').mono ?_
      rintro e w2 ⟨v2, rfl, ho2, hb2⟩
      go_wp2_with fail
      go_ret
      exact ⟨_, rfl, ho2.mono hb.size, hb.trans (hb2.mono hb.size)⟩

end Go.Proofs.Ytacfiljclklkdaa
