/- CrossingDegrees: the contracts of the model's and of the program's function. -/
import Derived.Test.YtamadlbiobcjdaaDegrees
namespace Go.Proofs.Ytamadlbiobcjdaa
open Go.RowKit
set_option linter.unusedVariables false
set_option linter.unusedSimpArgs false
set_option maxRecDepth 100000

set_option maxHeartbeats 1600000 in
theorem specCrossingDegrees_any (A : Option Addr) (n c : Nat) (xs : List Int) (w : World) (hr : Rd w A n xs) (hwf : Wf xs) (hn : n ≤ 1048576) (hc : n ≤ c) :
    Gave 36 #[.slice A n c] w (wordList degrees xs) := by
  have HR := Lib.hid hr
  have HWF := Lib.hid hwf
  have HL := Lib.hid hr.len
  clear hr hwf
  rcases hw : isWord xs with _ | _
  · refine gave_mk (xs := []) (z := 1) (wordList_no hw) ?_
    have HW := Lib.hid hw
    clear hw
    go_enter Try.func36, Try.ntmps36
    go_wp2_with fail
    refine (specIs_any _ _ _ xs _ HR.out hn).mono ?_
    rintro e w1 ⟨rfl, hb1⟩
    rw [HW.out]
    go_wp2_with fail
    go_ret2
    exact ⟨_, rfl, Own.nil_ _ _, hb1⟩
  · refine gave_mk (xs := degrees xs) (z := 0) (wordList_yes hw) ?_
    have HW := Lib.hid hw
    clear hw
    go_enter Try.func36, Try.ntmps36
    go_wp2_with fail
    refine (specIs_any _ _ _ xs _ HR.out hn).mono ?_
    rintro e w1 ⟨rfl, hb1⟩
    rw [HW.out]
    have hm0 : (rowsOf xs).length = xs.length / 2 := rowsOf_length xs
    obtain ⟨m, hm⟩ : ∃ m, m = xs.length / 2 := ⟨_, rfl⟩
    rw [← hm] at hm0
    have HM := Lib.hid hm
    have hm6 : m ≤ 6 := by have := isWord_len HW.out; omega
    have HR0 := Lib.hid hm0
    clear hm hm0
    go_wp2_with fail
    refine (specCross_any _ _ _ xs _ (HR.out.below hb1) HW.out).mono ?_
    rintro e w2 ⟨v2, rfl, ho2, hb2⟩
    obtain ⟨A2, c2, vs, rfl, ho2'⟩ := ho2.slice HR0.out
    have HO := Lib.hid ho2'
    clear ho2 ho2'
    have hz1 := hb1.size
    have hz2 := hb2.size
    go_wp2
    go_loopw [5, 6] (fun v i wr => ∃ k : Nat, k ≤ m ∧ i = .int .i64 k ∧ Own wr w2.heap.size v ((degrees xs).take k) ∧ Below w2.heap.size w2 wr) (fun _ i _ => m - (intOf i).toNat)
    case atStart => exact ⟨0, by omega, rfl, World.ownsRow_lit w2 #[] 0 (Nat.le_refl _) (by decide) rfl, (Below.refl _ _).alloc (Nat.le_refl _) _⟩
    case round =>
      obtain ⟨k, hk, rfl, ho, hb⟩ := hrel
      by_cases hlt : k < m
      · obtain ⟨g, B, d, rfl, hc1, hr1, hd, hg⟩ := cross_at (HO.out.below hb) HM.out k hlt
        have HR1 := Lib.hid hr1
        have HOW := Lib.hid ho
        obtain ⟨ov, rfl⟩ : ∃ ov, ov = u5 := ⟨_, rfl⟩
        clear hr1 ho
        go_wp2
        go_loop [7, 8] (fun t j => ∃ q : Nat, q ≤ m ∧ j = .int .i64 q ∧ t = .int .i64 (total ((rowOf xs k).take q))) (fun _ j => m - (intOf j).toNat)
        case atStart => exact ⟨0, by omega, rfl, by simp [total]⟩
        case round =>
          obtain ⟨q, hq, rfl, rfl⟩ := hrel
          have htb := total_take_bd (rowOf xs k) q (rowOf_01 xs k)
          by_cases hlt' : q < m
          · obtain ⟨b, rfl, hbl, hc2⟩ := HR1.out.at_ (k := q) hlt'
            have h01 := rowAt_01 xs k q
            have HT := Lib.hid (total_take (rowOf xs k) q (by rw [rowOf_length, ← HM.out]; omega))
            go_wp2
            go_round
            case rel => exact ⟨q + 1, by omega, by go_num, by rw [HT.out]⟩
            case measure => simp [intOf]; omega
          · obtain rfl : q = m := by omega
            have HE : Hid ((degrees xs).take k ++ [total ((rowOf xs k).take q)] = (degrees xs).take (k + 1)) := Lib.hid (by
              rw [degrees_take xs k (by rw [← HM.out]; exact hlt), List.take_of_length_le (l := rowOf xs k) (by rw [rowOf_length, HM.out]; exact Nat.le_refl _)])
            have hln : ((degrees xs).take k).length ≤ 1099511627776 := by have := List.length_take_le k (degrees xs); omega
            go_wp2_with (at_builtin; refine push_int wr rfl (.tmp 36) (.tmp 38) rfl w2.heap.size ov ((degrees xs).take k) (total ((rowOf xs k).take q)) rfl HOW.out rfl hln hb.size ?_; intro v1 w3 ho1 hg1 hat1)
            go_roundw
            case rel => exact ⟨k + 1, by omega, by go_num, by rw [← HE.out]; exact ho1, hb.grown hg1 hb.size (fun z hz => (HOW.out.lt z hz).1)⟩
            case measure => simp [intOf]; omega
      · obtain rfl : k = m := by omega
        rw [List.take_of_length_le (by rw [degrees_length, HM.out]; exact Nat.le_refl _)] at ho
        go_wp2
        go_ret2
        exact ⟨_, rfl, ho.mono (by omega), (hb1.trans (hb2.mono hz1)).trans (hb.mono (by omega))⟩
theorem implCrossingDegrees_any (A : Option Addr) (n c : Nat) (xs : List Int) (w : World) (hr : Rd w A n xs) (hwf : Wf xs) (hn : n ≤ 1048576) (hc : n ≤ c) :
    Gave 37 #[.slice A n c] w (wordList degrees xs) := by
  have HR := Lib.hid hr
  have HWF := Lib.hid hwf
  clear hr hwf
  obtain ⟨L, z, hLz⟩ : ∃ L z, wordList degrees xs = (L, z) := ⟨_, _, rfl⟩
  refine gave_mk hLz ?_
  have HE := Lib.hid hLz
  clear hLz
  go_enter Try.func37, Try.ntmps37
  go_wp2_with fail
  refine Calls.mono (implDegreesOf_any _ _ _ xs _ HR.out HWF.out hn hc) ?_
  rw [HE.out]
  rintro e w1 ⟨v1, rfl, ho1, hb1⟩
  go_wp2_with fail
  go_ret2
  exact ⟨_, rfl, ho1, hb1⟩
end Go.Proofs.Ytamadlbiobcjdaa
