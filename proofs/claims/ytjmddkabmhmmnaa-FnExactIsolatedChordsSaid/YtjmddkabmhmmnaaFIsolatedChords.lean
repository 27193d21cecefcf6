/- IsolatedChords: the contracts of the model's and of the program's function. -/
import Derived.Test.YtjmddkabmhmmnaaDegrees
namespace Go.Proofs.Ytjmddkabmhmmnaa
open Go.RowKit
set_option linter.unusedVariables false
set_option linter.unusedSimpArgs false
set_option maxRecDepth 100000

set_option maxHeartbeats 800000 in
theorem specIsolatedChords_any (A : Option Addr) (n c : Nat) (xs : List Int) (w : World) (hr : Rd w A n xs) (hwf : Wf xs) (hn : n ≤ 1048576) (hc : n ≤ c) :
    Gave 32 #[.slice A n c] w (wordList isolated xs) := by
  have HR := Lib.hid hr
  have HWF := Lib.hid hwf
  have HL := Lib.hid hr.len
  clear hr hwf
  rcases hw : isWord xs with _ | _
  · refine gave_mk (xs := []) (z := 1) (wordList_no hw) ?_
    have HW := Lib.hid hw
    clear hw
    go_enter Try.func32, Try.ntmps32
    go_wp2_with fail
    refine (code2_no _ _ _ xs _ HR.out hn HW.out).mono ?_
    rintro e w1 ⟨rfl, hb1⟩
    go_wp2_with fail
    go_ret2
    exact ⟨_, rfl, Own.nil_ _ _, hb1⟩
  · refine gave_mk (xs := isolated xs) (z := 0) (wordList_yes hw) ?_
    have HW := Lib.hid hw
    clear hw
    go_enter Try.func32, Try.ntmps32
    go_wp2_with fail
    refine (code2_yes _ _ _ xs _ HR.out hn HW.out).mono ?_
    rintro e w1 ⟨rfl, hb1⟩
    have hm0 : (rowsOf xs).length = xs.length / 2 := rowsOf_length xs
    obtain ⟨m, hm⟩ : ∃ m, m = xs.length / 2 := ⟨_, rfl⟩
    rw [← hm] at hm0
    have HM := Lib.hid hm
    have hm6 : m ≤ 6 := by have := isWord_len HW.out; omega
    have HR0 := Lib.hid hm0
    clear hm hm0
    go_wp2_with fail
    refine (specCross_any _ _ _ xs _ (HR.out.below hb1) HW.out).mono ?_
    rintro e w2 ⟨v2, rfl, ho2, hb2⟩
    obtain ⟨A2, c2, vs, rfl, ho2'⟩ := ho2.slice HR0.out
    have HO := Lib.hid ho2'
    clear ho2 ho2'
    go_wp2_with fail
    refine (specDegrees_any _ _ _ _ _ xs _ HO.out HM.out hm6).mono ?_
    rintro e w3 ⟨v3, rfl, ho3, hb3⟩
    have hz1 := hb1.size
    have hz2 := hb2.size
    obtain ⟨A3, m3, c3, rfl, hm3, hr3⟩ := ho3.form'
    obtain rfl : m = m3 := by rw [← hm3, degrees_length, HM.out]
    have HRD := Lib.hid hr3
    have hbW : Below w.heap.size w w3 := (hb1.trans (hb2.mono hz1)).trans (hb3.mono (by omega))
    have hzW := hbW.size
    clear hb1 hb2 hb3 ho3 hm3 hr3 HO HR0
    go_wp2
    go_loopw [6, 7] (fun v i wr => ∃ k : Nat, k ≤ m ∧ i = .int .i64 k ∧ Own wr w3.heap.size v (isoTo xs k) ∧ Below w3.heap.size w3 wr) (fun _ i _ => m - (intOf i).toNat)
    case atStart => exact ⟨0, by omega, rfl, (World.ownsRow_lit w3 #[] 0 (by omega) (by decide) rfl : Own _ _ _ []), (Below.refl _ _).alloc (Nat.le_refl _) _⟩
    case round =>
      obtain ⟨k, hk, rfl, ho, hb⟩ := hrel
      by_cases hlt : k < m
      · obtain ⟨b, rfl, hbl, hc1⟩ := (HRD.out.below hb).at_ hlt
        have hln : (isoTo xs k).length ≤ 1099511627776 := by have := isoTo_len xs k; omega
        have HOW := Lib.hid ho
        obtain ⟨ov, rfl⟩ : ∃ ov, ov = u6 := ⟨_, rfl⟩
        clear ho
        by_cases hz : (degrees xs)[k]?.getD 0 = 0
        · have e1 : ((degrees xs)[k]?.getD 0 == 0) = true := by rw [beq_iff_eq]; exact hz
          have HS : Hid (isoTo xs (k + 1) = isoTo xs k ++ [(k : Int)]) := Lib.hid (by rw [isoTo, if_pos hz])
          clear hz
          go_wp2_with (at_builtin; refine push_int wr rfl (.tmp 28) (.tmp 30) rfl w3.heap.size ov (isoTo xs k) (k : Int) rfl HOW.out rfl hln hb.size ?_; intro v4 w4 ho4 hg4 hat4)
          go_roundw
          case rel => exact ⟨k + 1, by omega, by go_num, by rw [HS.out]; exact ho4, hb.grown hg4 hb.size (fun z hz => (HOW.out.lt z hz).1)⟩
          case measure => simp [intOf]; omega
        · have e1 : ((degrees xs)[k]?.getD 0 == 0) = false := by rw [beq_eq_false_iff_ne]; exact hz
          have HS : Hid (isoTo xs (k + 1) = isoTo xs k) := Lib.hid (by rw [isoTo, if_neg hz])
          clear hz
          go_wp2
          go_roundw
          case rel => exact ⟨k + 1, by omega, by go_num, by rw [HS.out]; exact HOW.out, hb⟩
          case measure => simp [intOf]; omega
      · obtain rfl : k = m := by omega
        have HI : Hid (isolated xs = isoTo xs k) := Lib.hid (by unfold isolated; rw [HM.out])
        rw [← HI.out] at ho
        go_wp2
        go_ret2
        exact ⟨_, rfl, ho.mono hzW, hbW.trans (hb.mono hzW)⟩
set_option maxHeartbeats 800000 in
theorem implIsolatedChords_any (A : Option Addr) (n c : Nat) (xs : List Int) (w : World) (hr : Rd w A n xs) (hwf : Wf xs) (hn : n ≤ 1048576) (hc : n ≤ c) :
    Gave 33 #[.slice A n c] w (wordList isolated xs) := by
  have HR := Lib.hid hr
  have HWF := Lib.hid hwf
  have HL := Lib.hid hr.len
  clear hr hwf
  rcases hw : isWord xs with _ | _
  · refine gave_mk (xs := []) (z := 1) (wordList_no hw) ?_
    have HW := Lib.hid hw
    clear hw
    go_enter Try.func33, Try.ntmps33
    go_wp2_with fail
    refine (implIs_any _ _ _ xs _ HR.out HWF.out hn).mono ?_
    rintro e w1 ⟨rfl, hb1⟩
    rw [HW.out]
    go_wp2_with fail
    go_ret2
    exact ⟨_, rfl, Own.nil_ _ _, hb1⟩
  · refine gave_mk (xs := isolated xs) (z := 0) (wordList_yes hw) ?_
    have HW := Lib.hid hw
    clear hw
    go_enter Try.func33, Try.ntmps33
    go_wp2_with fail
    refine (implIs_any _ _ _ xs _ HR.out HWF.out hn).mono ?_
    rintro e w1 ⟨rfl, hb1⟩
    rw [HW.out]
    obtain ⟨m, hm⟩ : ∃ m, m = xs.length / 2 := ⟨_, rfl⟩
    have HM := Lib.hid hm
    have hm6 : m ≤ 6 := by have := isWord_len HW.out; omega
    clear hm
    go_wp2_with fail
    refine (degreesOf_any _ _ _ xs _ (HR.out.below hb1) hc HW.out).mono ?_
    rintro e w2 ⟨v2, rfl, ho2, hb2⟩
    obtain ⟨A3, m3, c3, rfl, hm3, hr3⟩ := ho2.form'
    obtain rfl : m = m3 := by rw [← hm3, degrees_length, HM.out]
    have HRD := Lib.hid hr3
    have hbW : Below w.heap.size w w2 := hb1.trans (hb2.mono hb1.size)
    have hzW := hbW.size
    clear hb1 hb2 ho2 hm3 hr3
    go_wp2
    go_loopw [4, 13] (fun v i wr => ∃ k : Nat, k ≤ m ∧ i = .int .i64 k ∧ Own wr w2.heap.size v (isoTo xs k) ∧ Below w2.heap.size w2 wr) (fun _ i _ => m - (intOf i).toNat)
    case atStart => exact ⟨0, by omega, rfl, Own.nil_ _ _, Below.refl _ _⟩
    case round =>
      obtain ⟨k, hk, rfl, ho, hb⟩ := hrel
      by_cases hlt : k < m
      · obtain ⟨b, rfl, hbl, hc1⟩ := (HRD.out.below hb).at_ hlt
        have hln : (isoTo xs k).length ≤ 1099511627776 := by have := isoTo_len xs k; omega
        have HOW := Lib.hid ho
        obtain ⟨ov, rfl⟩ : ∃ ov, ov = u4 := ⟨_, rfl⟩
        clear ho
        by_cases hz : (degrees xs)[k]?.getD 0 = 0
        · have e1 : ((degrees xs)[k]?.getD 0 == 0) = true := by rw [beq_iff_eq]; exact hz
          have HS : Hid (isoTo xs (k + 1) = isoTo xs k ++ [(k : Int)]) := Lib.hid (by rw [isoTo, if_pos hz])
          clear hz
          go_wp2_with (at_builtin; refine push_int wr rfl (.tmp 20) (.tmp 22) rfl w2.heap.size ov (isoTo xs k) (k : Int) rfl HOW.out rfl hln hb.size ?_; intro v4 w4 ho4 hg4 hat4)
          go_roundw
          case rel => exact ⟨k + 1, by omega, by go_num, by rw [HS.out]; exact ho4, hb.grown hg4 hb.size (fun z hz => (HOW.out.lt z hz).1)⟩
          case measure => simp [intOf]; omega
        · have e1 : ((degrees xs)[k]?.getD 0 == 0) = false := by rw [beq_eq_false_iff_ne]; exact hz
          have HS : Hid (isoTo xs (k + 1) = isoTo xs k) := Lib.hid (by rw [isoTo, if_neg hz])
          clear hz
          go_wp2
          go_roundw
          case rel => exact ⟨k + 1, by omega, by go_num, by rw [HS.out]; exact HOW.out, hb⟩
          case measure => simp [intOf]; omega
      · obtain rfl : k = m := by omega
        have HI : Hid (isolated xs = isoTo xs k) := Lib.hid (by unfold isolated; rw [HM.out])
        rw [← HI.out] at ho
        go_wp2
        go_ret2
        exact ⟨_, rfl, ho.mono hzW, hbW.trans (hb.mono hzW)⟩
end Go.Proofs.Ytjmddkabmhmmnaa
