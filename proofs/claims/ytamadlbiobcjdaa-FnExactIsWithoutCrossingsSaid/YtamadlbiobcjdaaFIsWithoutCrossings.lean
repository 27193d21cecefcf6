/- IsWithoutCrossings: the contracts of the model's and of the program's function. -/
import Derived.Test.YtamadlbiobcjdaaPlain
namespace Go.Proofs.Ytamadlbiobcjdaa
open Go.RowKit
set_option linter.unusedVariables false
set_option linter.unusedSimpArgs false
set_option maxRecDepth 100000

set_option maxHeartbeats 800000 in
theorem specIsWithoutCrossings_any (A : Option Addr) (n c : Nat) (xs : List Int) (w : World) (hr : Rd w A n xs) (hwf : Wf xs) (hn : n ≤ 1048576) (hc : n ≤ c) :
    Told 28 #[.slice A n c] w (.tuple #[.bool (wordBool plainB xs).1, .int .i64 (wordBool plainB xs).2]) := by
  have HR := Lib.hid hr
  have HWF := Lib.hid hwf
  have HL := Lib.hid hr.len
  clear hr hwf
  rcases hw : isWord xs with _ | _
  · refine told_mk (v' := .tuple #[.bool false, .int .i64 1]) (by rw [wordBool_no hw]) ?_
    have HW := Lib.hid hw
    clear hw
    go_enter Try.func28, Try.ntmps28
    go_wp2_with fail
    refine (specIs_any _ _ _ xs _ HR.out hn).mono ?_
    rintro e w1 ⟨rfl, hb1⟩
    rw [HW.out]
    go_wp2_with fail
    go_ret2
    exact ⟨rfl, hb1⟩
  · refine told_mk (v' := .tuple #[.bool (plainB xs), .int .i64 0]) (by rw [wordBool_yes hw]) ?_
    have HW := Lib.hid hw
    clear hw
    go_enter Try.func28, Try.ntmps28
    go_wp2_with fail
    refine (specIs_any _ _ _ xs _ HR.out hn).mono ?_
    rintro e w1 ⟨rfl, hb1⟩
    rw [HW.out]
    go_wp2_with fail
    refine (specPlain_any _ _ _ xs _ (HR.out.below hb1) HW.out).mono ?_
    rintro e w2 ⟨rfl, hb2⟩
    go_wp2_with fail
    go_ret2
    exact ⟨rfl, hb1.trans (hb2.mono hb1.size)⟩
set_option maxHeartbeats 800000 in
theorem implIsWithoutCrossings_any (A : Option Addr) (n c : Nat) (xs : List Int) (w : World) (hr : Rd w A n xs) (hwf : Wf xs) (hn : n ≤ 1048576) (hc : n ≤ c) :
    Told 29 #[.slice A n c] w (.tuple #[.bool (wordBool plainB xs).1, .int .i64 (wordBool plainB xs).2]) := by
  have HR := Lib.hid hr
  have HWF := Lib.hid hwf
  have HL := Lib.hid hr.len
  clear hr hwf
  rcases hw : isWord xs with _ | _
  · refine told_mk (v' := .tuple #[.bool false, .int .i64 1]) (by rw [wordBool_no hw]) ?_
    have HW := Lib.hid hw
    clear hw
    go_enter Try.func29, Try.ntmps29
    go_wp2_with fail
    refine (implIs_any _ _ _ xs _ HR.out HWF.out hn).mono ?_
    rintro e w1 ⟨rfl, hb1⟩
    rw [HW.out]
    go_wp2_with fail
    go_ret2
    exact ⟨rfl, hb1⟩
  · refine told_mk (v' := .tuple #[.bool (plainB xs), .int .i64 0]) (by rw [wordBool_yes hw]) ?_
    have HW := Lib.hid hw
    clear hw
    go_enter Try.func29, Try.ntmps29
    go_wp2_with fail
    refine (implIs_any _ _ _ xs _ HR.out HWF.out hn).mono ?_
    rintro e w1 ⟨rfl, hb1⟩
    rw [HW.out]
    go_wp2_with fail
    refine (hasNoCrossings_any _ _ _ xs _ (HR.out.below hb1) HW.out).mono ?_
    rintro e w2 ⟨rfl, hb2⟩
    go_wp2_with fail
    go_ret2
    exact ⟨rfl, hb1.trans (hb2.mono hb1.size)⟩
end Go.Proofs.Ytamadlbiobcjdaa
