/- IsMeander: the contracts of the model's and of the program's function. -/
import Derived.Test.YtamadlbiobcjdaaPair9
namespace Go.Proofs.Ytamadlbiobcjdaa
open Go.RowKit
set_option linter.unusedVariables false
set_option linter.unusedSimpArgs false
set_option maxRecDepth 100000


set_option maxHeartbeats 1600000 in
theorem specIsMeander_any (A : Option Addr) (n c : Nat) (xs : List Int) (B : Option Addr) (m d : Nat) (ys : List Int) (w : World) (hr : Rd w A n xs) (hwf : Wf xs) (hn1 : n ≤ 1048576) (hc : n ≤ c) (hs : Rd w B m ys) (hvf : Wf ys) (hn2 : m ≤ 1048576) (hd : m ≤ d) :
    Told 32 #[.slice A n c, .slice B m d] w (.tuple #[.bool (isMeander xs ys).1, .int .i64 (isMeander xs ys).2]) := by
  have HR := Lib.hid hr
  have HS := Lib.hid hs
  have HWF := Lib.hid hwf
  have HVF := Lib.hid hvf
  have hl := hr.len
  have hl2 := hs.len
  clear hr hs hwf hvf
  rcases pairCode_cases xs ys with ⟨hw, e⟩ | ⟨hw, hv, hne, e⟩ | ⟨hw, hv, hne, e⟩
  · refine told_mk (v' := .tuple #[.bool false, .int .i64 1]) (by unfold isMeander; rw [e, if_neg (by decide)]) ?_
    have HE := Lib.hid e
    clear e hw hl hl2
    go_enter Try.func32, Try.ntmps32
    go_wp2_with fail
    refine (specTwo_any _ _ _ xs _ _ _ ys _ HR.out HWF.out hn1 HS.out HVF.out hn2).mono ?_
    rintro e w1 ⟨rfl, hb1⟩
    rw [HE.out]
    go_wp2_with fail
    go_ret2
    exact ⟨rfl, hb1⟩
  · refine told_mk (v' := .tuple #[.bool false, .int .i64 2]) (by unfold isMeander; rw [e, if_neg (by decide)]) ?_
    have HE := Lib.hid e
    clear e hw hv hne hl hl2
    go_enter Try.func32, Try.ntmps32
    go_wp2_with fail
    refine (specTwo_any _ _ _ xs _ _ _ ys _ HR.out HWF.out hn1 HS.out HVF.out hn2).mono ?_
    rintro e w1 ⟨rfl, hb1⟩
    rw [HE.out]
    go_wp2_with fail
    go_ret2
    exact ⟨rfl, hb1⟩
  · refine told_mk (v' := .tuple #[.bool ((plainB xs && plainB ys) && (curves xs ys == 1)), .int .i64 0]) (by unfold isMeander; rw [e, if_pos rfl]) ?_
    obtain rfl : n = m := by omega
    have HE := Lib.hid e
    have HW := Lib.hid hw
    have HV := Lib.hid hv
    have HL := Lib.hid hl
    have HL2 := Lib.hid hl2
    have hn12 : n ≤ 12 := by have := isWord_len hw; omega
    clear e hw hv hne hl hl2
    rcases h1 : plainB xs with _ | _
    · have H1 := Lib.hid h1
      clear h1
      go_enter Try.func32, Try.ntmps32
      go_wp2_with fail
      refine (specTwo_any _ _ _ xs _ _ _ ys _ HR.out HWF.out hn1 HS.out HVF.out hn2).mono ?_
      rintro e w1 ⟨rfl, hb1⟩
      rw [HE.out]
      go_wp2_with fail
      refine (specPlain_any _ _ _ xs _ (HR.out.below hb1) HW.out).mono ?_
      rintro e w2 ⟨rfl, hb2⟩
      rw [H1.out]
      go_wp2_with fail
      go_ret2
      exact ⟨rfl, hb1.trans (hb2.mono hb1.size)⟩
    · have H1 := Lib.hid h1
      clear h1
      rcases h2 : plainB ys with _ | _
      · have H2 := Lib.hid h2
        clear h2
        go_enter Try.func32, Try.ntmps32
        go_wp2_with fail
        refine (specTwo_any _ _ _ xs _ _ _ ys _ HR.out HWF.out hn1 HS.out HVF.out hn2).mono ?_
        rintro e w1 ⟨rfl, hb1⟩
        rw [HE.out]
        go_wp2_with fail
        refine (specPlain_any _ _ _ xs _ (HR.out.below hb1) HW.out).mono ?_
        rintro e w2 ⟨rfl, hb2⟩
        rw [H1.out]
        have HB2 := Lib.hid (hb1.trans (hb2.mono hb1.size))
        clear hb2 hb1
        go_wp2_with fail
        refine (specPlain_any _ _ _ ys _ (HS.out.below HB2.out) HV.out).mono ?_
        rintro e w3 ⟨rfl, hb3⟩
        rw [H2.out]
        have HB3 := Lib.hid (HB2.out.trans (hb3.mono HB2.out.size))
        clear hb3
        go_wp2_with fail
        go_ret2
        exact ⟨rfl, HB3.out⟩
      · have H2 := Lib.hid h2
        clear h2
        go_enter Try.func32, Try.ntmps32
        go_wp2_with fail
        refine (specTwo_any _ _ _ xs _ _ _ ys _ HR.out HWF.out hn1 HS.out HVF.out hn2).mono ?_
        rintro e w1 ⟨rfl, hb1⟩
        rw [HE.out]
        go_wp2_with fail
        refine (specPlain_any _ _ _ xs _ (HR.out.below hb1) HW.out).mono ?_
        rintro e w2 ⟨rfl, hb2⟩
        rw [H1.out]
        have HB2 := Lib.hid (hb1.trans (hb2.mono hb1.size))
        clear hb2 hb1
        go_wp2_with fail
        refine (specPlain_any _ _ _ ys _ (HS.out.below HB2.out) HV.out).mono ?_
        rintro e w3 ⟨rfl, hb3⟩
        rw [H2.out]
        have HB3 := Lib.hid (HB2.out.trans (hb3.mono HB2.out.size))
        clear hb3
        go_wp2_with fail
        refine (specCurves_any _ _ _ xs _ _ ys _ (HR.out.below HB3.out) HW.out (HS.out.below HB3.out) HV.out).mono ?_
        rintro e w4 ⟨rfl, hb4⟩
        go_wp2_with fail
        go_ret2
        exact ⟨by first | rfl | simp, HB3.out.trans (hb4.mono HB3.out.size)⟩
set_option maxHeartbeats 1600000 in
theorem implIsMeander_any (A : Option Addr) (n c : Nat) (xs : List Int) (B : Option Addr) (m d : Nat) (ys : List Int) (w : World) (hr : Rd w A n xs) (hwf : Wf xs) (hn1 : n ≤ 1048576) (hc : n ≤ c) (hs : Rd w B m ys) (hvf : Wf ys) (hn2 : m ≤ 1048576) (hd : m ≤ d) :
    Told 33 #[.slice A n c, .slice B m d] w (.tuple #[.bool (isMeander xs ys).1, .int .i64 (isMeander xs ys).2]) := by
  have HR := Lib.hid hr
  have HS := Lib.hid hs
  have HWF := Lib.hid hwf
  have HVF := Lib.hid hvf
  have hl := hr.len
  have hl2 := hs.len
  clear hr hs hwf hvf
  rcases pairCode_cases xs ys with ⟨hw, e⟩ | ⟨hw, hv, hne, e⟩ | ⟨hw, hv, hne, e⟩
  · refine told_mk (v' := .tuple #[.bool false, .int .i64 1]) (by unfold isMeander; rw [e, if_neg (by decide)]) ?_
    have HE := Lib.hid e
    clear e hw hl hl2
    go_enter Try.func33, Try.ntmps33
    go_wp2_with fail
    refine (implTwo_any _ _ _ xs _ _ _ ys _ HR.out HWF.out hn1 HS.out HVF.out hn2).mono ?_
    rintro e w1 ⟨rfl, hb1⟩
    rw [HE.out]
    go_wp2_with fail
    go_ret2
    exact ⟨rfl, hb1⟩
  · refine told_mk (v' := .tuple #[.bool false, .int .i64 2]) (by unfold isMeander; rw [e, if_neg (by decide)]) ?_
    have HE := Lib.hid e
    clear e hw hv hne hl hl2
    go_enter Try.func33, Try.ntmps33
    go_wp2_with fail
    refine (implTwo_any _ _ _ xs _ _ _ ys _ HR.out HWF.out hn1 HS.out HVF.out hn2).mono ?_
    rintro e w1 ⟨rfl, hb1⟩
    rw [HE.out]
    go_wp2_with fail
    go_ret2
    exact ⟨rfl, hb1⟩
  · refine told_mk (v' := .tuple #[.bool ((plainB xs && plainB ys) && (curves xs ys == 1)), .int .i64 0]) (by unfold isMeander; rw [e, if_pos rfl]) ?_
    obtain rfl : n = m := by omega
    have HE := Lib.hid e
    have HW := Lib.hid hw
    have HV := Lib.hid hv
    have HL := Lib.hid hl
    have HL2 := Lib.hid hl2
    have hn12 : n ≤ 12 := by have := isWord_len hw; omega
    clear e hw hv hne hl hl2
    obtain ⟨z, hz⟩ : ∃ z, z = (curves xs ys == 1) := ⟨_, rfl⟩
    rw [← hz]
    have HZ := Lib.hid hz
    clear hz
    rcases z with _ | _
    · go_enter Try.func33, Try.ntmps33
      go_wp2_with fail
      refine (implTwo_any _ _ _ xs _ _ _ ys _ HR.out HWF.out hn1 HS.out HVF.out hn2).mono ?_
      rintro e w1 ⟨rfl, hb1⟩
      rw [HE.out]
      go_wp2_with fail
      refine (otherPlacesOf_any _ _ _ xs _ (HR.out.below hb1) hc HW.out).mono ?_
      rintro e w2 ⟨C, _, dc, rfl, rfl, hrc, hb2⟩
      have HC := Lib.hid hrc
      have HB2 := Lib.hid (hb1.trans (hb2.mono hb1.size))
      clear hrc hb2 hb1
      go_wp2_with fail
      refine (otherPlacesOf_any _ _ _ ys _ (HS.out.below HB2.out) hd HV.out).mono ?_
      rintro e w3 ⟨E, n', de, rfl, en, hre, hb3⟩
      subst en
      have HEE := Lib.hid hre
      have HCC := Lib.hid (HC.out.below hb3)
      have HB3 := Lib.hid (HB2.out.trans (hb3.mono HB2.out.size))
      clear hre hb3
      go_wp2_with fail
      refine (curvesTwo_any _ _ _ xs ys _ _ _ HW.out HV.out HL.out HL2.out HCC.out HEE.out).mono ?_
      rintro e w4 ⟨rfl, hb4⟩
      have HB4 := Lib.hid (HB3.out.trans (hb4.mono HB3.out.size))
      clear hb4
      have hz := HZ.out.symm
      go_wp2_with fail
      go_ret2
      exact ⟨by simp, HB4.out⟩
    · rcases h2 : plainB xs with _ | _
      · have H2 := Lib.hid h2
        clear h2
        go_enter Try.func33, Try.ntmps33
        go_wp2_with fail
        refine (implTwo_any _ _ _ xs _ _ _ ys _ HR.out HWF.out hn1 HS.out HVF.out hn2).mono ?_
        rintro e w1 ⟨rfl, hb1⟩
        rw [HE.out]
        go_wp2_with fail
        refine (otherPlacesOf_any _ _ _ xs _ (HR.out.below hb1) hc HW.out).mono ?_
        rintro e w2 ⟨C, _, dc, rfl, rfl, hrc, hb2⟩
        have HC := Lib.hid hrc
        have HB2 := Lib.hid (hb1.trans (hb2.mono hb1.size))
        clear hrc hb2 hb1
        go_wp2_with fail
        refine (otherPlacesOf_any _ _ _ ys _ (HS.out.below HB2.out) hd HV.out).mono ?_
        rintro e w3 ⟨E, n', de, rfl, en, hre, hb3⟩
        subst en
        have HEE := Lib.hid hre
        have HCC := Lib.hid (HC.out.below hb3)
        have HB3 := Lib.hid (HB2.out.trans (hb3.mono HB2.out.size))
        clear hre hb3
        go_wp2_with fail
        refine (curvesTwo_any _ _ _ xs ys _ _ _ HW.out HV.out HL.out HL2.out HCC.out HEE.out).mono ?_
        rintro e w4 ⟨rfl, hb4⟩
        have HB4 := Lib.hid (HB3.out.trans (hb4.mono HB3.out.size))
        clear hb4
        have hz := HZ.out.symm
        go_wp2_with fail
        refine (hasNoCrossings_any _ _ _ xs _ (HR.out.below HB4.out) HW.out).mono ?_
        rintro e w5 ⟨rfl, hb5⟩
        rw [H2.out]
        have HB5 := Lib.hid (HB4.out.trans (hb5.mono HB4.out.size))
        clear hb5
        go_wp2_with fail
        go_ret2
        exact ⟨rfl, HB5.out⟩
      · have H2 := Lib.hid h2
        clear h2
        rcases h3 : plainB ys with _ | _
        · have H3 := Lib.hid h3
          clear h3
          go_enter Try.func33, Try.ntmps33
          go_wp2_with fail
          refine (implTwo_any _ _ _ xs _ _ _ ys _ HR.out HWF.out hn1 HS.out HVF.out hn2).mono ?_
          rintro e w1 ⟨rfl, hb1⟩
          rw [HE.out]
          go_wp2_with fail
          refine (otherPlacesOf_any _ _ _ xs _ (HR.out.below hb1) hc HW.out).mono ?_
          rintro e w2 ⟨C, _, dc, rfl, rfl, hrc, hb2⟩
          have HC := Lib.hid hrc
          have HB2 := Lib.hid (hb1.trans (hb2.mono hb1.size))
          clear hrc hb2 hb1
          go_wp2_with fail
          refine (otherPlacesOf_any _ _ _ ys _ (HS.out.below HB2.out) hd HV.out).mono ?_
          rintro e w3 ⟨E, n', de, rfl, en, hre, hb3⟩
          subst en
          have HEE := Lib.hid hre
          have HCC := Lib.hid (HC.out.below hb3)
          have HB3 := Lib.hid (HB2.out.trans (hb3.mono HB2.out.size))
          clear hre hb3
          go_wp2_with fail
          refine (curvesTwo_any _ _ _ xs ys _ _ _ HW.out HV.out HL.out HL2.out HCC.out HEE.out).mono ?_
          rintro e w4 ⟨rfl, hb4⟩
          have HB4 := Lib.hid (HB3.out.trans (hb4.mono HB3.out.size))
          clear hb4
          have hz := HZ.out.symm
          go_wp2_with fail
          refine (hasNoCrossings_any _ _ _ xs _ (HR.out.below HB4.out) HW.out).mono ?_
          rintro e w5 ⟨rfl, hb5⟩
          rw [H2.out]
          have HB5 := Lib.hid (HB4.out.trans (hb5.mono HB4.out.size))
          clear hb5
          go_wp2_with fail
          refine (hasNoCrossings_any _ _ _ ys _ (HS.out.below HB5.out) HV.out).mono ?_
          rintro e w6 ⟨rfl, hb6⟩
          rw [H3.out]
          have HB6 := Lib.hid (HB5.out.trans (hb6.mono HB5.out.size))
          clear hb6
          go_wp2_with fail
          go_ret2
          exact ⟨rfl, HB6.out⟩
        · have H3 := Lib.hid h3
          clear h3
          go_enter Try.func33, Try.ntmps33
          go_wp2_with fail
          refine (implTwo_any _ _ _ xs _ _ _ ys _ HR.out HWF.out hn1 HS.out HVF.out hn2).mono ?_
          rintro e w1 ⟨rfl, hb1⟩
          rw [HE.out]
          go_wp2_with fail
          refine (otherPlacesOf_any _ _ _ xs _ (HR.out.below hb1) hc HW.out).mono ?_
          rintro e w2 ⟨C, _, dc, rfl, rfl, hrc, hb2⟩
          have HC := Lib.hid hrc
          have HB2 := Lib.hid (hb1.trans (hb2.mono hb1.size))
          clear hrc hb2 hb1
          go_wp2_with fail
          refine (otherPlacesOf_any _ _ _ ys _ (HS.out.below HB2.out) hd HV.out).mono ?_
          rintro e w3 ⟨E, n', de, rfl, en, hre, hb3⟩
          subst en
          have HEE := Lib.hid hre
          have HCC := Lib.hid (HC.out.below hb3)
          have HB3 := Lib.hid (HB2.out.trans (hb3.mono HB2.out.size))
          clear hre hb3
          go_wp2_with fail
          refine (curvesTwo_any _ _ _ xs ys _ _ _ HW.out HV.out HL.out HL2.out HCC.out HEE.out).mono ?_
          rintro e w4 ⟨rfl, hb4⟩
          have HB4 := Lib.hid (HB3.out.trans (hb4.mono HB3.out.size))
          clear hb4
          have hz := HZ.out.symm
          go_wp2_with fail
          refine (hasNoCrossings_any _ _ _ xs _ (HR.out.below HB4.out) HW.out).mono ?_
          rintro e w5 ⟨rfl, hb5⟩
          rw [H2.out]
          have HB5 := Lib.hid (HB4.out.trans (hb5.mono HB4.out.size))
          clear hb5
          go_wp2_with fail
          refine (hasNoCrossings_any _ _ _ ys _ (HS.out.below HB5.out) HV.out).mono ?_
          rintro e w6 ⟨rfl, hb6⟩
          rw [H3.out]
          have HB6 := Lib.hid (HB5.out.trans (hb6.mono HB5.out.size))
          clear hb6
          go_wp2_with fail
          go_ret2
          exact ⟨rfl, HB6.out⟩
end Go.Proofs.Ytamadlbiobcjdaa
