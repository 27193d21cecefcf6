/- CrossingRows: the contracts of the model's and of the program's function. -/
import Derived.Test.YtinfhkcmjmglkaaWrap
namespace Go.Proofs.Ytinfhkcmjmglkaa
open Go.RowKit
set_option linter.unusedVariables false
set_option linter.unusedSimpArgs false
set_option maxRecDepth 100000

set_option maxHeartbeats 800000 in
theorem specCrossingRows_any (A : Option Addr) (n c : Nat) (xs : List Int) (w : World) (hr : Rd w A n xs) (hwf : Wf xs) (hn : n ≤ 1048576) (hc : n ≤ c) :
    GaveR 48 #[.slice A n c] w (wordRows rowsOf xs) := by
  have HR := Lib.hid hr
  have HWF := Lib.hid hwf
  have HL := Lib.hid hr.len
  clear hr hwf
  rcases hw : isWord xs with _ | _
  · refine gaveR_mk (rs := []) (z := 1) (wordRows_no hw) ?_
    have HW := Lib.hid hw
    clear hw
    go_enter Try.func48, Try.ntmps48
    go_wp2_with fail
    refine (specIs_any _ _ _ xs _ HR.out hn).mono ?_
    rintro e w1 ⟨rfl, hb1⟩
    rw [HW.out]
    go_wp2_with fail
    go_ret2
    exact ⟨_, rfl, ⟨[], OwnV.nil_ _ _⟩, hb1⟩
  · refine gaveR_mk (rs := rowsOf xs) (z := 0) (wordRows_yes hw) ?_
    have HW := Lib.hid hw
    clear hw
    go_enter Try.func48, Try.ntmps48
    go_wp2_with fail
    refine (specIs_any _ _ _ xs _ HR.out hn).mono ?_
    rintro e w1 ⟨rfl, hb1⟩
    rw [HW.out]
    go_wp2_with fail
    refine (specCross_any _ _ _ xs _ (HR.out.below hb1) HW.out).mono ?_
    rintro e w2 ⟨v2, rfl, ho2, hb2⟩
    go_wp2_with fail
    go_ret2
    exact ⟨_, rfl, (by obtain ⟨vs, h⟩ := ho2; exact ⟨vs, h.mono hb1.size⟩), hb1.trans (hb2.mono hb1.size)⟩
set_option maxHeartbeats 800000 in
theorem implCrossingRows_any (A : Option Addr) (n c : Nat) (xs : List Int) (w : World) (hr : Rd w A n xs) (hwf : Wf xs) (hn : n ≤ 1048576) (hc : n ≤ c) :
    GaveR 47 #[.slice A n c] w (wordRows rowsOf xs) := by
  have HR := Lib.hid hr
  have HWF := Lib.hid hwf
  have HL := Lib.hid hr.len
  clear hr hwf
  rcases hw : isWord xs with _ | _
  · refine gaveR_mk (rs := []) (z := 1) (wordRows_no hw) ?_
    have HW := Lib.hid hw
    clear hw
    go_enter Try.func47, Try.ntmps47
    go_wp2_with fail
    refine (implIs_any _ _ _ xs _ HR.out HWF.out hn).mono ?_
    rintro e w1 ⟨rfl, hb1⟩
    rw [HW.out]
    go_wp2_with fail
    go_ret2
    exact ⟨_, rfl, ⟨[], OwnV.nil_ _ _⟩, hb1⟩
  · refine gaveR_mk (rs := rowsOf xs) (z := 0) (wordRows_yes hw) ?_
    have HW := Lib.hid hw
    clear hw
    go_enter Try.func47, Try.ntmps47
    go_wp2_with fail
    refine (implIs_any _ _ _ xs _ HR.out HWF.out hn).mono ?_
    rintro e w1 ⟨rfl, hb1⟩
    rw [HW.out]
    go_wp2_with fail
    refine (crossingsOf_any _ _ _ xs _ (HR.out.below hb1) hc HW.out).mono ?_
    rintro e w2 ⟨v2, rfl, ho2, hb2⟩
    go_wp2_with fail
    go_ret2
    exact ⟨_, rfl, (by obtain ⟨vs, h⟩ := ho2; exact ⟨vs, h.mono hb1.size⟩), hb1.trans (hb2.mono hb1.size)⟩
end Go.Proofs.Ytinfhkcmjmglkaa
