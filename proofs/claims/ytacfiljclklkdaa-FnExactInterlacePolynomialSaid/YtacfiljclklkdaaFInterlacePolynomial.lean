/- InterlacePolynomial: the contracts of the model's and of the program's function. -/
import Derived.Test.YtacfiljclklkdaaInterS
import Derived.Test.YtacfiljclklkdaaInterI
import Derived.Test.YtacfiljclklkdaaCode10
namespace Go.Proofs.Ytacfiljclklkdaa
open Go.RowKit
set_option linter.unusedVariables false
set_option linter.unusedSimpArgs false
set_option maxRecDepth 100000

theorem interL_few {xs : List Int} (h : isWord xs = true) : (interL xs).length ≤ 1048576 := by
  have := isWord_len h
  rw [interL_len]; omega
theorem specInterlacePolynomial_any (A : Option Addr) (n c : Nat) (xs : List Int) (w : World) (hr : Rd w A n xs) (hwf : Wf xs) (hn : n ≤ 1048576) (hc : n ≤ c) :
    Gave 21 #[.slice A n c] w (wordList interL xs) := by
  have HR := Lib.hid hr
  clear hr hwf
  rcases hw : isWord xs with _ | _
  · refine gave_mk (xs := []) (z := 1) (wordList_no hw) ?_
    have HE : Hid (code10 xs [] = 1) := Lib.hid (by unfold code10; rw [hw]; rfl)
    clear hw
    go_enter Try.func21, Try.ntmps21
    go_wp2_with fail
    refine Calls.mono (code10_any _ _ _ xs none 0 0 [] _ HR.out (Rd.nil_ _ _) hn (by omega)) ?_
    rintro e w1 ⟨rfl, hb1⟩
    rw [HE.out]
    go_wp2_with fail
    go_ret2
    exact ⟨_, rfl, Own.nil_ _ _, hb1⟩
  · refine gave_mk (xs := interL xs) (z := 0) (wordList_yes hw) ?_
    have HE : Hid (code10 xs [] = 0) := Lib.hid (by unfold code10; rw [hw]; rfl)
    have HW := Lib.hid hw
    clear hw
    go_enter Try.func21, Try.ntmps21
    go_wp2_with fail
    refine Calls.mono (code10_any _ _ _ xs none 0 0 [] _ HR.out (Rd.nil_ _ _) hn (by omega)) ?_
    rintro e w1 ⟨rfl, hb1⟩
    rw [HE.out]
    have HB1 := Lib.hid hb1
    clear hb1
    go_wp2_with fail
    refine (inter10_any _ _ _ xs _ (HR.out.below HB1.out) HW.out).mono ?_
    rintro e w2 ⟨v2, rfl, ho2, hb2⟩
    go_wp2_with fail
    go_ret2
    exact ⟨_, rfl, ho2.mono HB1.out.size, HB1.out.trans (hb2.mono HB1.out.size)⟩
theorem implInterlacePolynomial_any (A : Option Addr) (n c : Nat) (xs : List Int) (w : World) (hr : Rd w A n xs) (hwf : Wf xs) (hn : n ≤ 1048576) (hc : n ≤ c) :
    Gave 22 #[.slice A n c] w (wordList interL xs) := by
  have HR := Lib.hid hr
  have HWF := Lib.hid hwf
  clear hr hwf
  rcases hw : isWord xs with _ | _
  · refine gave_mk (xs := []) (z := 1) (wordList_no hw) ?_
    have HW := Lib.hid hw
    clear hw
    go_enter Try.func22, Try.ntmps22
    go_wp2_with fail
    refine (implIs_any _ _ _ xs _ HR.out HWF.out hn).mono ?_
    rintro e w1 ⟨rfl, hb1⟩
    rw [HW.out]
    go_wp2_with fail
    go_ret2
    exact ⟨_, rfl, Own.nil_ _ _, hb1⟩
  · refine gave_mk (xs := interL xs) (z := 0) (wordList_yes hw) ?_
    have HW := Lib.hid hw
    clear hw
    go_enter Try.func22, Try.ntmps22
    go_wp2_with fail
    refine (implIs_any _ _ _ xs _ HR.out HWF.out hn).mono ?_
    rintro e w1 ⟨rfl, hb1⟩
    rw [HW.out]
    have HB1 := Lib.hid hb1
    clear hb1
    go_wp2_with fail
    refine (interlaceOf_any _ _ _ xs _ (HR.out.below HB1.out) hc HW.out).mono ?_
    rintro e w2 ⟨v2, rfl, ho2, hb2⟩
    go_wp2_with fail
    go_ret2
    exact ⟨_, rfl, ho2.mono HB1.out.size, HB1.out.trans (hb2.mono HB1.out.size)⟩
end Go.Proofs.Ytacfiljclklkdaa
