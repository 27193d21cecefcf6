/- CountCurves: the contracts of the model's and of the program's function. -/
import Derived.Test.YtamadlbiobcjdaaPair9
namespace Go.Proofs.Ytamadlbiobcjdaa
open Go.RowKit
set_option linter.unusedVariables false
set_option linter.unusedSimpArgs false
set_option maxRecDepth 100000


set_option maxHeartbeats 1600000 in
theorem specCountCurves_any (A : Option Addr) (n c : Nat) (xs : List Int) (B : Option Addr) (m d : Nat) (ys : List Int) (w : World) (hr : Rd w A n xs) (hwf : Wf xs) (hn1 : n ≤ 1048576) (hc : n ≤ c) (hs : Rd w B m ys) (hvf : Wf ys) (hn2 : m ≤ 1048576) (hd : m ≤ d) :
    Told 30 #[.slice A n c, .slice B m d] w (.tuple #[.int .i64 (countCurves xs ys).1, .int .i64 (countCurves xs ys).2]) := by
  have HR := Lib.hid hr
  have HS := Lib.hid hs
  have HWF := Lib.hid hwf
  have HVF := Lib.hid hvf
  have hl := hr.len
  have hl2 := hs.len
  clear hr hs hwf hvf
  rcases pairCode_cases xs ys with ⟨hw, e⟩ | ⟨hw, hv, hne, e⟩ | ⟨hw, hv, hne, e⟩
  · refine told_mk (v' := .tuple #[.int .i64 0, .int .i64 1]) (by unfold countCurves; rw [e, if_neg (by decide)]) ?_
    have HE := Lib.hid e
    clear e hw hl hl2
    go_enter Try.func30, Try.ntmps30
    go_wp2_with fail
    refine (specTwo_any _ _ _ xs _ _ _ ys _ HR.out HWF.out hn1 HS.out HVF.out hn2).mono ?_
    rintro e w1 ⟨rfl, hb1⟩
    rw [HE.out]
    go_wp2_with fail
    go_ret2
    exact ⟨rfl, hb1⟩
  · refine told_mk (v' := .tuple #[.int .i64 0, .int .i64 2]) (by unfold countCurves; rw [e, if_neg (by decide)]) ?_
    have HE := Lib.hid e
    clear e hw hv hne hl hl2
    go_enter Try.func30, Try.ntmps30
    go_wp2_with fail
    refine (specTwo_any _ _ _ xs _ _ _ ys _ HR.out HWF.out hn1 HS.out HVF.out hn2).mono ?_
    rintro e w1 ⟨rfl, hb1⟩
    rw [HE.out]
    go_wp2_with fail
    go_ret2
    exact ⟨rfl, hb1⟩
  · refine told_mk (v' := .tuple #[.int .i64 (curves xs ys), .int .i64 0]) (by unfold countCurves; rw [e, if_pos rfl]) ?_
    obtain rfl : n = m := by omega
    have HE := Lib.hid e
    have HW := Lib.hid hw
    have HV := Lib.hid hv
    have HL := Lib.hid hl
    have HL2 := Lib.hid hl2
    have hn12 : n ≤ 12 := by have := isWord_len hw; omega
    clear e hw hv hne hl hl2
    go_enter Try.func30, Try.ntmps30
    go_wp2_with fail
    refine (specTwo_any _ _ _ xs _ _ _ ys _ HR.out HWF.out hn1 HS.out HVF.out hn2).mono ?_
    rintro e w1 ⟨rfl, hb1⟩
    rw [HE.out]
    go_wp2_with fail
    refine (specCurves_any _ _ _ xs _ _ ys _ (HR.out.below hb1) HW.out (HS.out.below hb1) HV.out).mono ?_
    rintro e w2 ⟨rfl, hb2⟩
    go_wp2_with fail
    go_ret2
    exact ⟨rfl, hb1.trans (hb2.mono hb1.size)⟩
set_option maxHeartbeats 1600000 in
theorem implCountCurves_any (A : Option Addr) (n c : Nat) (xs : List Int) (B : Option Addr) (m d : Nat) (ys : List Int) (w : World) (hr : Rd w A n xs) (hwf : Wf xs) (hn1 : n ≤ 1048576) (hc : n ≤ c) (hs : Rd w B m ys) (hvf : Wf ys) (hn2 : m ≤ 1048576) (hd : m ≤ d) :
    Told 31 #[.slice A n c, .slice B m d] w (.tuple #[.int .i64 (countCurves xs ys).1, .int .i64 (countCurves xs ys).2]) := by
  have HR := Lib.hid hr
  have HS := Lib.hid hs
  have HWF := Lib.hid hwf
  have HVF := Lib.hid hvf
  have hl := hr.len
  have hl2 := hs.len
  clear hr hs hwf hvf
  rcases pairCode_cases xs ys with ⟨hw, e⟩ | ⟨hw, hv, hne, e⟩ | ⟨hw, hv, hne, e⟩
  · refine told_mk (v' := .tuple #[.int .i64 0, .int .i64 1]) (by unfold countCurves; rw [e, if_neg (by decide)]) ?_
    have HE := Lib.hid e
    clear e hw hl hl2
    go_enter Try.func31, Try.ntmps31
    go_wp2_with fail
    refine (implTwo_any _ _ _ xs _ _ _ ys _ HR.out HWF.out hn1 HS.out HVF.out hn2).mono ?_
    rintro e w1 ⟨rfl, hb1⟩
    rw [HE.out]
    go_wp2_with fail
    go_ret2
    exact ⟨rfl, hb1⟩
  · refine told_mk (v' := .tuple #[.int .i64 0, .int .i64 2]) (by unfold countCurves; rw [e, if_neg (by decide)]) ?_
    have HE := Lib.hid e
    clear e hw hv hne hl hl2
    go_enter Try.func31, Try.ntmps31
    go_wp2_with fail
    refine (implTwo_any _ _ _ xs _ _ _ ys _ HR.out HWF.out hn1 HS.out HVF.out hn2).mono ?_
    rintro e w1 ⟨rfl, hb1⟩
    rw [HE.out]
    go_wp2_with fail
    go_ret2
    exact ⟨rfl, hb1⟩
  · refine told_mk (v' := .tuple #[.int .i64 (curves xs ys), .int .i64 0]) (by unfold countCurves; rw [e, if_pos rfl]) ?_
    obtain rfl : n = m := by omega
    have HE := Lib.hid e
    have HW := Lib.hid hw
    have HV := Lib.hid hv
    have HL := Lib.hid hl
    have HL2 := Lib.hid hl2
    have hn12 : n ≤ 12 := by have := isWord_len hw; omega
    clear e hw hv hne hl hl2
    go_enter Try.func31, Try.ntmps31
    go_wp2_with fail
    refine (implTwo_any _ _ _ xs _ _ _ ys _ HR.out HWF.out hn1 HS.out HVF.out hn2).mono ?_
    rintro e w1 ⟨rfl, hb1⟩
    rw [HE.out]
    go_wp2_with fail
    refine (otherPlacesOf_any _ _ _ xs _ (HR.out.below hb1) hc HW.out).mono ?_
    rintro e w2 ⟨C, _, dc, rfl, rfl, hrc, hb2⟩
    have HC := Lib.hid hrc
    have HB2 := Lib.hid (hb1.trans (hb2.mono hb1.size))
    clear hrc hb2 hb1
    go_wp2_with fail
    refine (otherPlacesOf_any _ _ _ ys _ (HS.out.below HB2.out) hd HV.out).mono ?_
    rintro e w3 ⟨E, n', de, rfl, en, hre, hb3⟩
    subst en
    have HEE := Lib.hid hre
    have HCC := Lib.hid (HC.out.below hb3)
    have HB3 := Lib.hid (HB2.out.trans (hb3.mono HB2.out.size))
    clear hre hb3
    go_wp2_with fail
    refine (curvesTwo_any _ _ _ xs ys _ _ _ HW.out HV.out HL.out HL2.out HCC.out HEE.out).mono ?_
    rintro e w4 ⟨rfl, hb4⟩
    have HB4 := Lib.hid (HB3.out.trans (hb4.mono HB3.out.size))
    clear hb4
    go_wp2_with fail
    go_ret2
    exact ⟨rfl, HB4.out⟩
end Go.Proofs.Ytamadlbiobcjdaa
