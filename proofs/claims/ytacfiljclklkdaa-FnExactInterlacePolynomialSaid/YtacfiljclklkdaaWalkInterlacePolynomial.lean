/- The walk through the law InterlacePolynomial. -/
import Derived.Test.YtacfiljclklkdaaFInterlacePolynomial
import Derived.Test.YtacfiljclklkdaaSeg
import Derived.Test.YtacfiljclklkdaaRow
namespace Go.Proofs.Ytacfiljclklkdaa
open Go.ChangeShapes Go.WideShapes Go.ChangeAt Go.RowKit
set_option linter.unusedVariables false
set_option linter.unusedSimpArgs false
set_option maxRecDepth 100000

set_option maxHeartbeats 4000000 in
theorem lawInterlacePolynomial_any (Axs : Option Addr) (nxs cxs : Nat) (xs : List Int) (w : World) (hrxs : Rd w Axs nxs xs) (hwxs : Wf xs) :
    Calls Try.prog 4 #[.slice Axs nxs cxs] w fun e w' => e = .returned (.bool true) ∧ Below w.heap.size w w' := by
  have HAxs : Hid (RdB w w.heap.size Axs nxs xs) := Lib.hid hrxs
  have HLxs := Lib.hid hrxs.len
  have HWxs := Lib.hid hwxs
  have HB : Hid (Below w.heap.size w w) := Lib.hid (Below.refl _ _)
  clear hrxs hwxs
  by_cases hnxs : nxs ≤ 1048576
  case neg =>
    go_enter Try.func4, Try.ntmps4
    go_wp2_with fail
    go_ret
    exact ⟨rfl, Below.refl _ _⟩
  go_enter Try.func4, Try.ntmps4
  have HLEN : Hid (((wordList interL xs).1).length ≤ 1048576) := Lib.hid (wordList_len xs (fun h => interL_few h))
  have hne1 : (((wordList interL xs).2) != ((wordList interL xs).2)) = false := by simp
  go_wp2_with fail
  refine (toInts_seg Axs nxs cxs xs _ (RdB.rd HAxs.out (by omega)) hnxs).mono ?_
  rintro e w1 ⟨Baxs, maxs, daxs, rfl, hlaxs, hsaxs, hF1⟩
  have hz1 := hF1.size
  replace HAxs := Lib.hid (RdB.fr HAxs.out hF1 (by omega) (by omega))
  replace HB := Lib.hid (below_fr HB.out hF1 (by omega) (by omega))
  clear hF1
  have HSaxs := Lib.hid hsaxs
  have HMaxs := Lib.hid hlaxs
  have hbaxs : maxs ≤ 1048576 := by have h1 := HLxs.out; omega
  clear hsaxs hlaxs
  go_wp2_with fail
  refine ((specInterlacePolynomial_any _ _ _ xs _ HSaxs.out.rd HWxs.out hbaxs HSaxs.out.cap).seg).mono ?_
  rintro e w2 ⟨BW, mW, dW, rfl, hlW, hsW, hF2⟩
  have hz2 := hF2.size
  replace HAxs := Lib.hid (RdB.fr HAxs.out hF2 (by omega) (by omega))
  replace HB := Lib.hid (below_fr HB.out hF2 (by omega) (by omega))
  replace HSaxs := Lib.hid (HSaxs.out.fr hF2 (by omega))
  clear hF2
  have HSW := Lib.hid hsW
  have HMW := Lib.hid hlW
  have hbW : mW ≤ 1048576 := by have h1 := HLEN.out; omega
  clear hsW hlW
  go_wp2_with fail
  refine (toInts_seg Axs nxs cxs xs _ (RdB.rd HAxs.out (by omega)) hnxs).mono ?_
  rintro e w3 ⟨Bxxs, mxxs, dxxs, rfl, hlxxs, hsxxs, hF3⟩
  have hz3 := hF3.size
  replace HAxs := Lib.hid (RdB.fr HAxs.out hF3 (by omega) (by omega))
  replace HB := Lib.hid (below_fr HB.out hF3 (by omega) (by omega))
  replace HSW := Lib.hid (HSW.out.fr hF3 (by omega))
  clear hF3
  have HSxxs := Lib.hid hsxxs
  have HMxxs := Lib.hid hlxxs
  have hbxxs : mxxs ≤ 1048576 := by have h1 := HLxs.out; omega
  clear hsxxs hlxxs
  go_wp2_with fail
  refine ((implInterlacePolynomial_any _ _ _ xs _ HSxxs.out.rd HWxs.out hbxxs HSxxs.out.cap).seg).mono ?_
  rintro e w4 ⟨BG, mG, dG, rfl, hlG, hsG, hF4⟩
  have hz4 := hF4.size
  replace HAxs := Lib.hid (RdB.fr HAxs.out hF4 (by omega) (by omega))
  replace HB := Lib.hid (below_fr HB.out hF4 (by omega) (by omega))
  replace HSW := Lib.hid (HSW.out.fr hF4 (by omega))
  replace HSxxs := Lib.hid (HSxxs.out.fr hF4 (by omega))
  clear hF4
  have HSG := Lib.hid hsG
  have HMG := Lib.hid hlG
  have hbG : mG ≤ 1048576 := by have h1 := HLEN.out; omega
  clear hsG hlG
  go_wp2_with fail
  refine (eqInts_seg _ _ _ _ _ _ (wordList interL xs).1 (wordList interL xs).1 _ HSG.out.rd HSW.out.rd hbG hbW).mono ?_
  rintro e w5 ⟨rfl, hF5⟩
  have hz5 := hF5.size
  replace HAxs := Lib.hid (RdB.fr HAxs.out hF5 (by omega) (by omega))
  replace HB := Lib.hid (below_fr HB.out hF5 (by omega) (by omega))
  replace HSW := Lib.hid (HSW.out.fr hF5 (by omega))
  replace HSxxs := Lib.hid (HSxxs.out.fr hF5 (by omega))
  replace HSG := Lib.hid (HSG.out.fr hF5 (by omega))
  clear hF5
  rw [eq_self_b (wordList interL xs).1]
  go_wp2_with fail
  refine (toInts_seg Axs nxs cxs xs _ (RdB.rd HAxs.out (by omega)) hnxs).mono ?_
  rintro e w6 ⟨Byxs, myxs, dyxs, rfl, hlyxs, hsyxs, hF6⟩
  have hz6 := hF6.size
  replace HAxs := Lib.hid (RdB.fr HAxs.out hF6 (by omega) (by omega))
  replace HB := Lib.hid (below_fr HB.out hF6 (by omega) (by omega))
  replace HSW := Lib.hid (HSW.out.fr hF6 (by omega))
  replace HSxxs := Lib.hid (HSxxs.out.fr hF6 (by omega))
  replace HSG := Lib.hid (HSG.out.fr hF6 (by omega))
  clear hF6
  have HSyxs := Lib.hid hsyxs
  have HMyxs := Lib.hid hlyxs
  have hbyxs : myxs ≤ 1048576 := by have h1 := HLxs.out; omega
  clear hsyxs hlyxs
  go_wp2_with fail
  refine (eqInts_seg _ _ _ _ _ _ xs xs _ HSxxs.out.rd HSyxs.out.rd hbxxs hbyxs).mono ?_
  rintro e w7 ⟨rfl, hF7⟩
  have hz7 := hF7.size
  replace HAxs := Lib.hid (RdB.fr HAxs.out hF7 (by omega) (by omega))
  replace HB := Lib.hid (below_fr HB.out hF7 (by omega) (by omega))
  replace HSW := Lib.hid (HSW.out.fr hF7 (by omega))
  replace HSxxs := Lib.hid (HSxxs.out.fr hF7 (by omega))
  replace HSG := Lib.hid (HSG.out.fr hF7 (by omega))
  replace HSyxs := Lib.hid (HSyxs.out.fr hF7 (by omega))
  clear hF7
  rw [eq_self_b xs]
  go_wp2_with fail
  refine (mark_seg _ _ _ xs _ _ _ HSxxs.out HMxxs.out hbxxs _ (by omega) (by omega)).mono ?_
  rintro e w8 ⟨rfl, hsxxs, hF8⟩
  have hz8 := hF8.size
  replace HAxs := Lib.hid (RdB.fr HAxs.out hF8 (by omega) (by omega))
  replace HB := Lib.hid (below_fr HB.out hF8 (by omega) (by omega))
  replace HSW := Lib.hid (HSW.out.fr hF8 (by omega))
  replace HSG := Lib.hid (HSG.out.fr hF8 (by omega))
  clear hF8
  clear HSxxs hsxxs
  go_wp2_with fail
  refine (eqInts_seg _ _ _ _ _ _ (wordList interL xs).1 (wordList interL xs).1 _ HSG.out.rd HSW.out.rd hbG hbW).mono ?_
  rintro e w9 ⟨rfl, hF9⟩
  have hz9 := hF9.size
  replace HAxs := Lib.hid (RdB.fr HAxs.out hF9 (by omega) (by omega))
  replace HB := Lib.hid (below_fr HB.out hF9 (by omega) (by omega))
  replace HSW := Lib.hid (HSW.out.fr hF9 (by omega))
  replace HSG := Lib.hid (HSG.out.fr hF9 (by omega))
  clear hF9
  rw [eq_self_b (wordList interL xs).1]
  go_wp2_with fail
  refine (mark_seg _ _ _ _ _ _ _ HSG.out HMG.out hbG _ (by omega) (by omega)).mono ?_
  rintro e w10 ⟨rfl, hsG, hF10⟩
  have hz10 := hF10.size
  replace HAxs := Lib.hid (RdB.fr HAxs.out hF10 (by omega) (by omega))
  replace HB := Lib.hid (below_fr HB.out hF10 (by omega) (by omega))
  replace HSW := Lib.hid (HSW.out.fr hF10 (by omega))
  clear hF10
  replace HSG := Lib.hid hsG
  clear hsG
  go_wp2_with fail
  refine (held_seg _ _ _ _ _ _ _ HSG.out hbG (by omega) (by omega)).mono ?_
  rintro e w11 ⟨rfl, hF11⟩
  have hz11 := hF11.size
  replace HAxs := Lib.hid (RdB.fr HAxs.out hF11 (by omega) (by omega))
  replace HB := Lib.hid (below_fr HB.out hF11 (by omega) (by omega))
  replace HSW := Lib.hid (HSW.out.fr hF11 (by omega))
  replace HSG := Lib.hid (HSG.out.fr hF11 (by omega))
  clear hF11
  have hq1 : ((1 + (mG : Int)) != (1 + (mG : Int))) = false := by simp
  go_wp2_with fail
  refine (toInts_seg Axs nxs cxs xs _ (RdB.rd HAxs.out (by omega)) hnxs).mono ?_
  rintro e w12 ⟨Bzxs, mzxs, dzxs, rfl, hlzxs, hszxs, hF12⟩
  have hz12 := hF12.size
  replace HAxs := Lib.hid (RdB.fr HAxs.out hF12 (by omega) (by omega))
  replace HB := Lib.hid (below_fr HB.out hF12 (by omega) (by omega))
  replace HSW := Lib.hid (HSW.out.fr hF12 (by omega))
  replace HSG := Lib.hid (HSG.out.fr hF12 (by omega))
  clear hF12
  have HSzxs := Lib.hid hszxs
  have HMzxs := Lib.hid hlzxs
  have hbzxs : mzxs ≤ 1048576 := by have h1 := HLxs.out; omega
  clear hszxs hlzxs
  go_wp2_with fail
  refine ((implInterlacePolynomial_any _ _ _ xs _ HSzxs.out.rd HWxs.out hbzxs HSzxs.out.cap).seg).mono ?_
  rintro e w13 ⟨BH, mH, dH, rfl, hlH, hsH, hF13⟩
  have hz13 := hF13.size
  replace HAxs := Lib.hid (RdB.fr HAxs.out hF13 (by omega) (by omega))
  replace HB := Lib.hid (below_fr HB.out hF13 (by omega) (by omega))
  replace HSW := Lib.hid (HSW.out.fr hF13 (by omega))
  replace HSG := Lib.hid (HSG.out.fr hF13 (by omega))
  replace HSzxs := Lib.hid (HSzxs.out.fr hF13 (by omega))
  clear hF13
  have HSH := Lib.hid hsH
  have HMH := Lib.hid hlH
  have hbH : mH ≤ 1048576 := by have h1 := HLEN.out; omega
  clear hsH hlH
  go_wp2_with fail
  refine (eqInts_seg _ _ _ _ _ _ (wordList interL xs).1 (wordList interL xs).1 _ HSH.out.rd HSW.out.rd hbH hbW).mono ?_
  rintro e w14 ⟨rfl, hF14⟩
  have hz14 := hF14.size
  replace HAxs := Lib.hid (RdB.fr HAxs.out hF14 (by omega) (by omega))
  replace HB := Lib.hid (below_fr HB.out hF14 (by omega) (by omega))
  replace HSW := Lib.hid (HSW.out.fr hF14 (by omega))
  replace HSG := Lib.hid (HSG.out.fr hF14 (by omega))
  replace HSH := Lib.hid (HSH.out.fr hF14 (by omega))
  clear hF14
  rw [eq_self_b (wordList interL xs).1]
  go_wp2_with fail
  refine (held_seg _ _ _ _ _ _ _ HSG.out hbG (by omega) (by omega)).mono ?_
  rintro e w15 ⟨rfl, hF15⟩
  have hz15 := hF15.size
  replace HAxs := Lib.hid (RdB.fr HAxs.out hF15 (by omega) (by omega))
  replace HB := Lib.hid (below_fr HB.out hF15 (by omega) (by omega))
  replace HSW := Lib.hid (HSW.out.fr hF15 (by omega))
  replace HSG := Lib.hid (HSG.out.fr hF15 (by omega))
  replace HSH := Lib.hid (HSH.out.fr hF15 (by omega))
  clear hF15
  go_wp2_with fail
  go_ret
  exact ⟨rfl, HB.out⟩
end Go.Proofs.Ytacfiljclklkdaa
