/- LongestChain: the contract of the program's function. -/
import Derived.Test.YtokhjlcbflcbgaaChainImpl
namespace Go.Proofs.Ytokhjlcbflcbgaa
open Go.RowKit
set_option linter.unusedVariables false
set_option linter.unusedSimpArgs false
set_option maxRecDepth 100000

theorem chainOf_few {xs : List Int} (h : isWord xs = true) : (chainOf xs).length ≤ 1048576 := by
  have h1 := isWord_len h
  have h2 := (bestF_chn xs (xs.length / 2) (xs.length / 2 + 1) [] (Chn.nil _)).len
  unfold chainOf
  rw [natI9_length]; omega
theorem implLongestChain_any (A : Option Addr) (n c : Nat) (xs : List Int) (w : World) (hr : Rd w A n xs) (hwf : Wf xs) (hn : n ≤ 1048576) (hc : n ≤ c) :
    Gave 51 #[.slice A n c] w (wordList chainOf xs) := by
  have HR := Lib.hid hr
  have HWF := Lib.hid hwf
  clear hr hwf
  rcases hw : isWord xs with _ | _
  · refine gave_mk (xs := []) (z := 1) (wordList_no hw) ?_
    have HW := Lib.hid hw
    clear hw
    go_enter Try.func51, Try.ntmps51
    go_wp2_with fail
    refine (implIs_any _ _ _ xs _ HR.out HWF.out hn).mono ?_
    rintro e w1 ⟨rfl, hb1⟩
    rw [HW.out]
    go_wp2_with fail
    go_ret2
    exact ⟨_, rfl, Own.nil_ _ _, hb1⟩
  · refine gave_mk (xs := chainOf xs) (z := 0) (wordList_yes hw) ?_
    have HW := Lib.hid hw
    clear hw
    go_enter Try.func51, Try.ntmps51
    go_wp2_with fail
    refine (implIs_any _ _ _ xs _ HR.out HWF.out hn).mono ?_
    rintro e w1 ⟨rfl, hb1⟩
    rw [HW.out]
    have HB1 := Lib.hid hb1
    clear hb1
    go_wp2_with fail
    refine (longestChainOf_any _ _ _ xs _ (HR.out.below HB1.out) hc HW.out).mono ?_
    rintro e w2 ⟨v2, rfl, ho2, hb2⟩
    go_wp2_with fail
    go_ret2
    exact ⟨_, rfl, ho2.mono HB1.out.size, HB1.out.trans (hb2.mono HB1.out.size)⟩
end Go.Proofs.Ytokhjlcbflcbgaa
