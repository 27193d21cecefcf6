/- The program's leastOf; the functions on one word, and on two words of a circle. -/
import Derived.Test.YtofcldplgkejiaaLeast
namespace Go.Proofs.Ytofcldplgkejiaa
open Go.RowKit
set_option linter.unusedVariables false
set_option linter.unusedSimpArgs false
set_option maxRecDepth 100000

theorem wf_leastTo {xs : List Int} (h : Wf xs) (hn : xs.length ≤ 1048576) (k : Nat) : Wf (leastTo xs k) := by
  induction k with
  | zero => exact h
  | succ k ih =>
    unfold leastTo
    split
    · exact wf_norm _ (by simp; omega)
    · exact ih

set_option maxHeartbeats 1600000 in
theorem leastOf_any (A : Option Addr) (n c : Nat) (xs : List Int) (w : World) (hr : Rd w A n xs) (hwf : Wf xs) (hn : n ≤ 1048576) :
    Calls Try.prog 86 #[.slice A n c] w fun e w' => ∃ v, e = .returned v ∧ Own w' w.heap.size v (least xs) ∧ Below w.heap.size w w' := by
  have HR := Lib.hid hr
  have HL := Lib.hid hr.len
  have HW := Lib.hid hwf
  have HF : Hid ((flat [(Value.slice A n c, xs), (Value.slice A n c, xs)]).length ≤ 16777216) := Lib.hid (by rw [flat_two, List.length_append, hr.len]; omega)
  clear hr hwf
  go_enter Try.func86, Try.ntmps86
  go_wp2_with fail
  have hcc := concat_any w.heap.size 2 2 [(.slice A n c, xs), (.slice A n c, xs)] (w.alloc (.cells #[.slice A n c, .slice A n c] 22)) (parts_two w A A n n c c xs xs HR.out HR.out) rfl (by omega) HF.out
  refine Calls.mono hcc ?_
  clear hcc
  rintro e w1 ⟨v1, rfl, ho1, hb1⟩
  rw [flat_two] at ho1
  obtain ⟨D, dn, dc, rfl, hdn, hdr⟩ := ho1.form'
  have hdcap := ho1.cap
  have hdn' : Hid (dn = 2 * n) := Lib.hid (by have := HL.out; rw [List.length_append] at hdn; omega)
  have hb1' : Below w.heap.size w w1 := (below_alloc _ _).trans (hb1.mono (by simp))
  have HD := Lib.hid hdr
  clear ho1 hdn hdr hb1
  go_wp2_with fail
  refine (clone_any _ _ _ xs _ (HR.out.below hb1') (by omega)).mono ?_
  rintro e w2 ⟨v2, rfl, ho2, hb2⟩
  have hb2' : Below w.heap.size w w2 := hb1'.trans (hb2.mono hb1'.size)
  have HD2 := Lib.hid (HD.out.below hb2)
  have ho2' : Own w2 w.heap.size v2 (leastTo xs 0) := ho2.mono hb1'.size
  clear ho2 hb2 HD
  go_wp2
  go_loopw [4, 15] (fun v i wr => ∃ k : Nat, k ≤ n ∧ i = .int .i64 k ∧ Own wr w.heap.size v (leastTo xs k) ∧ Rd wr D dn (xs ++ xs) ∧ Below w.heap.size w wr) (fun _ i _ => n - (intOf i).toNat)
  case atStart => exact ⟨0, by omega, rfl, ho2', HD2.out, hb2'⟩
  case round =>
    obtain ⟨k, hk, rfl, ho, hdd, hb⟩ := hrel
    clear ho2' hb2'
    by_cases hlt : k < n
    · obtain ⟨B, m, d, rfl, hm, hrb⟩ := ho.form'
      have hmn : m = n := by rw [← hm, leastTo_length, HL.out]
      subst hmn
      have HO := Lib.hid ho
      have HB := Lib.hid hrb
      have HDD := Lib.hid hdd
      clear ho hrb hm hdd
      go_wp2_with fail
      refine (rotationAt_any _ m _ _ xs k _ HDD.out HL.out hdn'.out HW.out hn hdcap (by omega)).mono ?_
      rintro e w3 ⟨v3, rfl, ho3, hb3⟩
      obtain ⟨C, m2, c2, rfl, hm2, hr2⟩ := ho3.form'
      have hmn2 : m2 = m := by rw [← hm2, rot_length, HL.out]
      subst hmn2
      have HO2 := Lib.hid ho3
      have HR2 := Lib.hid hr2
      clear ho3 hr2 hm2
      go_wp2_with fail
      refine (compare_any _ _ _ _ _ (rot xs k) (leastTo xs k) _ HR2.out (HB.out.below hb3) hn).mono ?_
      rintro e w4 ⟨rfl, hb4⟩
      have hb4' : Below w.heap.size w w4 := (hb.trans (hb3.mono hb.size)).trans (hb4.mono (Nat.le_trans hb.size hb3.size))
      by_cases hl : lex (rot xs k) (leastTo xs k) < 0
      · have HE : Hid (leastTo xs (k + 1) = rot xs k) := Lib.hid (by rw [leastTo, if_pos hl])
        go_wp2_with fail
        go_roundw
        case rel => exact ⟨k + 1, by omega, by go_num, by rw [HE.out]; exact (HO2.out.mono hb.size).below hb4, (HDD.out.below hb3).below hb4, hb4'⟩
        case measure => simp [intOf]; omega
      · have HE : Hid (leastTo xs (k + 1) = leastTo xs k) := Lib.hid (by rw [leastTo, if_neg hl])
        go_wp2_with fail
        go_roundw
        case rel => exact ⟨k + 1, by omega, by go_num, by rw [HE.out]; exact (HO.out.below hb3).below hb4, (HDD.out.below hb3).below hb4, hb4'⟩
        case measure => simp [intOf]; omega
    · have hfin : leastTo xs k = least xs := by unfold least; rw [HL.out, show k = n from by omega]
      rw [hfin] at ho
      have hkn : n ≤ k := by omega
      clear hfin
      go_wp2
      go_ret
      exact ⟨_, rfl, ho, hb⟩

/-- a function on one word -/
def wordFn (f : List Int → List Int) (xs : List Int) : List Int × Int := if isWord xs then (f xs, 0) else ([], 1)
theorem wordFn_yes {f : List Int → List Int} {xs : List Int} (h : isWord xs = true) : wordFn f xs = (f xs, 0) := by unfold wordFn; rw [if_pos h]
theorem wordFn_no {f : List Int → List Int} {xs : List Int} (h : isWord xs = false) : wordFn f xs = ([], 1) := by unfold wordFn; rw [if_neg (by rw [h]; decide)]
theorem wordFn_len {f : List Int → List Int} (hf : ∀ xs, (f xs).length = xs.length) (xs : List Int) (h : xs.length ≤ 1048576) : (wordFn f xs).1.length ≤ 1048576 := by
  unfold wordFn; split
  · rw [hf]; exact h
  · simp

end Go.Proofs.Ytofcldplgkejiaa
