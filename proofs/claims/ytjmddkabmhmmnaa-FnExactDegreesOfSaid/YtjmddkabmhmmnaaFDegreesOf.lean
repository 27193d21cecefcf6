/- DegreesOf: the contracts of the model's and of the program's function. -/
import Derived.Test.YtjmddkabmhmmnaaDegrees
namespace Go.Proofs.Ytjmddkabmhmmnaa
open Go.RowKit
set_option linter.unusedVariables false
set_option linter.unusedSimpArgs false
set_option maxRecDepth 100000

set_option maxHeartbeats 800000 in
theorem specDegreesOf_any (A : Option Addr) (n c : Nat) (xs : List Int) (w : World) (hr : Rd w A n xs) (hwf : Wf xs) (hn : n ≤ 1048576) (hc : n ≤ c) :
    Gave 30 #[.slice A n c] w (wordList degrees xs) := by
  have HR := Lib.hid hr
  have HWF := Lib.hid hwf
  have HL := Lib.hid hr.len
  clear hr hwf
  rcases hw : isWord xs with _ | _
  · refine gave_mk (xs := []) (z := 1) (wordList_no hw) ?_
    have HW := Lib.hid hw
    clear hw
    go_enter Try.func30, Try.ntmps30
    go_wp2_with fail
    refine (code2_no _ _ _ xs _ HR.out hn HW.out).mono ?_
    rintro e w1 ⟨rfl, hb1⟩
    go_wp2_with fail
    go_ret2
    exact ⟨_, rfl, Own.nil_ _ _, hb1⟩
  · refine gave_mk (xs := degrees xs) (z := 0) (wordList_yes hw) ?_
    have HW := Lib.hid hw
    clear hw
    go_enter Try.func30, Try.ntmps30
    go_wp2_with fail
    refine (code2_yes _ _ _ xs _ HR.out hn HW.out).mono ?_
    rintro e w1 ⟨rfl, hb1⟩
    have hm0 : (rowsOf xs).length = xs.length / 2 := rowsOf_length xs
    obtain ⟨m, hm⟩ : ∃ m, m = xs.length / 2 := ⟨_, rfl⟩
    rw [← hm] at hm0
    have HM := Lib.hid hm
    have hm6 : m ≤ 6 := by have := isWord_len HW.out; omega
    have HR0 := Lib.hid hm0
    clear hm hm0
    go_wp2_with fail
    refine (specCross_any _ _ _ xs _ (HR.out.below hb1) HW.out).mono ?_
    rintro e w2 ⟨v2, rfl, ho2, hb2⟩
    obtain ⟨A2, c2, vs, rfl, ho2'⟩ := ho2.slice HR0.out
    have HO := Lib.hid ho2'
    clear ho2 ho2'
    go_wp2_with fail
    refine (specDegrees_any _ _ _ _ _ xs _ HO.out HM.out hm6).mono ?_
    rintro e w3 ⟨v3, rfl, ho3, hb3⟩
    have hz1 := hb1.size
    have hz2 := hb2.size
    go_wp2_with fail
    go_ret2
    exact ⟨_, rfl, ho3.mono (by omega), (hb1.trans (hb2.mono hz1)).trans (hb3.mono (by omega))⟩
set_option maxHeartbeats 800000 in
theorem implDegreesOf_any (A : Option Addr) (n c : Nat) (xs : List Int) (w : World) (hr : Rd w A n xs) (hwf : Wf xs) (hn : n ≤ 1048576) (hc : n ≤ c) :
    Gave 31 #[.slice A n c] w (wordList degrees xs) := by
  have HR := Lib.hid hr
  have HWF := Lib.hid hwf
  have HL := Lib.hid hr.len
  clear hr hwf
  rcases hw : isWord xs with _ | _
  · refine gave_mk (xs := []) (z := 1) (wordList_no hw) ?_
    have HW := Lib.hid hw
    clear hw
    go_enter Try.func31, Try.ntmps31
    go_wp2_with fail
    refine (implIs_any _ _ _ xs _ HR.out HWF.out hn).mono ?_
    rintro e w1 ⟨rfl, hb1⟩
    rw [HW.out]
    go_wp2_with fail
    go_ret2
    exact ⟨_, rfl, Own.nil_ _ _, hb1⟩
  · refine gave_mk (xs := degrees xs) (z := 0) (wordList_yes hw) ?_
    have HW := Lib.hid hw
    clear hw
    go_enter Try.func31, Try.ntmps31
    go_wp2_with fail
    refine (implIs_any _ _ _ xs _ HR.out HWF.out hn).mono ?_
    rintro e w1 ⟨rfl, hb1⟩
    rw [HW.out]
    go_wp2_with fail
    refine (degreesOf_any _ _ _ xs _ (HR.out.below hb1) hc HW.out).mono ?_
    rintro e w2 ⟨v2, rfl, ho2, hb2⟩
    go_wp2_with fail
    go_ret2
    exact ⟨_, rfl, ho2.mono hb1.size, hb1.trans (hb2.mono hb1.size)⟩
end Go.Proofs.Ytjmddkabmhmmnaa
