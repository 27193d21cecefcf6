/- CrossingRank: the contracts of the model's and of the program's function. -/
import Derived.Test.YtinfhkcmjmglkaaRank
namespace Go.Proofs.Ytinfhkcmjmglkaa
open Go.RowKit
set_option linter.unusedVariables false
set_option linter.unusedSimpArgs false
set_option maxRecDepth 100000

set_option maxHeartbeats 800000 in
theorem specCrossingRank_any (A : Option Addr) (n c : Nat) (xs : List Int) (w : World) (hr : Rd w A n xs) (hwf : Wf xs) (hn : n ≤ 1048576) (hc : n ≤ c) :
    Told 72 #[.slice A n c] w (.tuple #[.int .i64 (wordVal rankOf xs).1, .int .i64 (wordVal rankOf xs).2]) := by
  have HR := Lib.hid hr
  have HWF := Lib.hid hwf
  have HL := Lib.hid hr.len
  clear hr hwf
  rcases hw : isWord xs with _ | _
  · refine told_mk (v' := .tuple #[.int .i64 0, .int .i64 1]) (by rw [wordVal_no hw]) ?_
    have HW := Lib.hid hw
    clear hw
    go_enter Try.func72, Try.ntmps72
    go_wp2_with fail
    refine (code2_no _ _ _ xs _ HR.out hn HW.out).mono ?_
    rintro e w1 ⟨rfl, hb1⟩
    go_wp2_with fail
    go_ret2
    exact ⟨rfl, hb1⟩
  · refine told_mk (v' := .tuple #[.int .i64 (rankOf xs), .int .i64 0]) (by rw [wordVal_yes hw]) ?_
    have HW := Lib.hid hw
    clear hw
    go_enter Try.func72, Try.ntmps72
    go_wp2_with fail
    refine (code2_yes _ _ _ xs _ HR.out hn HW.out).mono ?_
    rintro e w1 ⟨rfl, hb1⟩
    have hm0 : (rowsOf xs).length = xs.length / 2 := rowsOf_length xs
    obtain ⟨m, hm⟩ : ∃ m, m = xs.length / 2 := ⟨_, rfl⟩
    rw [← hm] at hm0
    have HM := Lib.hid hm
    have hm6 : m ≤ 6 := by have := isWord_len HW.out; omega
    have HR0 := Lib.hid hm0
    clear hm hm0
    go_wp2_with fail
    refine (specCross_any _ _ _ xs _ (HR.out.below hb1) HW.out).mono ?_
    rintro e w2 ⟨v2, rfl, ho2, hb2⟩
    obtain ⟨A2, c2, vs, rfl, ho2'⟩ := ho2.slice HR0.out
    have HO := Lib.hid ho2'
    clear ho2 ho2'
    go_wp2_with fail
    refine (specRank_any _ _ _ w1.heap.size _ xs _ HO.out HM.out hm6).mono ?_
    rintro e w3 ⟨rfl, hb3⟩
    go_wp2_with fail
    go_ret2
    exact ⟨rfl, hb1.trans ((hb2.trans hb3).mono hb1.size)⟩
set_option maxHeartbeats 800000 in
theorem implCrossingRank_any (A : Option Addr) (n c : Nat) (xs : List Int) (w : World) (hr : Rd w A n xs) (hwf : Wf xs) (hn : n ≤ 1048576) (hc : n ≤ c) :
    Told 71 #[.slice A n c] w (.tuple #[.int .i64 (wordVal rankOf xs).1, .int .i64 (wordVal rankOf xs).2]) := by
  have HR := Lib.hid hr
  have HWF := Lib.hid hwf
  have HL := Lib.hid hr.len
  clear hr hwf
  rcases hw : isWord xs with _ | _
  · refine told_mk (v' := .tuple #[.int .i64 0, .int .i64 1]) (by rw [wordVal_no hw]) ?_
    have HW := Lib.hid hw
    clear hw
    go_enter Try.func71, Try.ntmps71
    go_wp2_with fail
    refine (implIs_any _ _ _ xs _ HR.out HWF.out hn).mono ?_
    rintro e w1 ⟨rfl, hb1⟩
    rw [HW.out]
    go_wp2_with fail
    go_ret2
    exact ⟨rfl, hb1⟩
  · refine told_mk (v' := .tuple #[.int .i64 (rankOf xs), .int .i64 0]) (by rw [wordVal_yes hw]) ?_
    have HW := Lib.hid hw
    clear hw
    go_enter Try.func71, Try.ntmps71
    go_wp2_with fail
    refine (implIs_any _ _ _ xs _ HR.out HWF.out hn).mono ?_
    rintro e w1 ⟨rfl, hb1⟩
    rw [HW.out]
    go_wp2_with fail
    refine (crossingRankOf_any _ _ _ xs _ (HR.out.below hb1) hc HW.out).mono ?_
    rintro e w2 ⟨rfl, hb2⟩
    go_wp2_with fail
    go_ret2
    exact ⟨rfl, hb1.trans (hb2.mono hb1.size)⟩
end Go.Proofs.Ytinfhkcmjmglkaa
