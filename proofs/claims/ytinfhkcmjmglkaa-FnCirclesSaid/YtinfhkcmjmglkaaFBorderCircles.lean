/- BorderCircles: the contracts of the model's and of the program's function. -/
import Derived.Test.YtinfhkcmjmglkaaBorder
namespace Go.Proofs.Ytinfhkcmjmglkaa
open Go.RowKit
set_option linter.unusedVariables false
set_option linter.unusedSimpArgs false
set_option maxRecDepth 100000

set_option maxHeartbeats 800000 in
theorem specBorderCircles_any (A : Option Addr) (n c : Nat) (xs : List Int) (w : World) (hr : Rd w A n xs) (hwf : Wf xs) (hn : n ≤ 1048576) (hc : n ≤ c) :
    Told 68 #[.slice A n c] w (.tuple #[.int .i64 (wordVal circles xs).1, .int .i64 (wordVal circles xs).2]) := by
  have HR := Lib.hid hr
  have HWF := Lib.hid hwf
  have HL := Lib.hid hr.len
  clear hr hwf
  rcases hw : isWord xs with _ | _
  · refine told_mk (v' := .tuple #[.int .i64 0, .int .i64 1]) (by rw [wordVal_no hw]) ?_
    have HW := Lib.hid hw
    clear hw
    go_enter Try.func68, Try.ntmps68
    go_wp2_with fail
    refine (code2_no _ _ _ xs _ HR.out hn HW.out).mono ?_
    rintro e w1 ⟨rfl, hb1⟩
    go_wp2_with fail
    go_ret2
    exact ⟨rfl, hb1⟩
  · refine told_mk (v' := .tuple #[.int .i64 (circles xs), .int .i64 0]) (by rw [wordVal_yes hw]) ?_
    have HW := Lib.hid hw
    clear hw
    go_enter Try.func68, Try.ntmps68
    go_wp2_with fail
    refine (code2_yes _ _ _ xs _ HR.out hn HW.out).mono ?_
    rintro e w1 ⟨rfl, hb1⟩
    go_wp2_with fail
    refine (specCircles_any _ _ _ xs _ (HR.out.below hb1) HW.out).mono ?_
    rintro e w2 ⟨rfl, hb2⟩
    go_wp2_with fail
    go_ret2
    exact ⟨rfl, hb1.trans (hb2.mono hb1.size)⟩
set_option maxHeartbeats 800000 in
theorem implBorderCircles_any (A : Option Addr) (n c : Nat) (xs : List Int) (w : World) (hr : Rd w A n xs) (hwf : Wf xs) (hn : n ≤ 1048576) (hc : n ≤ c) :
    Told 67 #[.slice A n c] w (.tuple #[.int .i64 (wordVal circles xs).1, .int .i64 (wordVal circles xs).2]) := by
  have HR := Lib.hid hr
  have HWF := Lib.hid hwf
  have HL := Lib.hid hr.len
  clear hr hwf
  rcases hw : isWord xs with _ | _
  · refine told_mk (v' := .tuple #[.int .i64 0, .int .i64 1]) (by rw [wordVal_no hw]) ?_
    have HW := Lib.hid hw
    clear hw
    go_enter Try.func67, Try.ntmps67
    go_wp2_with fail
    refine (implIs_any _ _ _ xs _ HR.out HWF.out hn).mono ?_
    rintro e w1 ⟨rfl, hb1⟩
    rw [HW.out]
    go_wp2_with fail
    go_ret2
    exact ⟨rfl, hb1⟩
  · refine told_mk (v' := .tuple #[.int .i64 (circles xs), .int .i64 0]) (by rw [wordVal_yes hw]) ?_
    have HW := Lib.hid hw
    clear hw
    go_enter Try.func67, Try.ntmps67
    go_wp2_with fail
    refine (implIs_any _ _ _ xs _ HR.out HWF.out hn).mono ?_
    rintro e w1 ⟨rfl, hb1⟩
    rw [HW.out]
    go_wp2_with fail
    refine (borderCirclesOf_any _ _ _ xs _ (HR.out.below hb1) hc HW.out).mono ?_
    rintro e w2 ⟨rfl, hb2⟩
    go_wp2_with fail
    go_ret2
    exact ⟨rfl, hb1.trans (hb2.mono hb1.size)⟩
end Go.Proofs.Ytinfhkcmjmglkaa
