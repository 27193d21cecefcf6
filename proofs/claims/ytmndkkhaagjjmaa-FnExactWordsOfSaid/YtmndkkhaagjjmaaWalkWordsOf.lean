/- The walk through the law WordsOf. -/
import Derived.Test.YtmndkkhaagjjmaaFWordsOf
import Derived.Test.YtmndkkhaagjjmaaSeg
import Derived.Test.YtmndkkhaagjjmaaRow
import Derived.Test.YtmndkkhaagjjmaaRows3
namespace Go.Proofs.Ytmndkkhaagjjmaa
open Go.ChangeShapes Go.WideShapes Go.ChangeAt Go.RowKit
set_option linter.unusedVariables false
set_option linter.unusedSimpArgs false
set_option maxRecDepth 100000

set_option maxHeartbeats 4000000 in
theorem lawWordsOf_any (k : Int) (w : World) (hik : -9223372036854775808 ≤ k ∧ k ≤ 9223372036854775807) :
    Calls Try.prog 7 #[.int .i64 k] w fun e w' => e = .returned (.bool true) ∧ Below w.heap.size w w' := by
  have HB : Hid (Below w.heap.size w w) := Lib.hid (Below.refl _ _)
  go_enter Try.func7, Try.ntmps7
  have HLEN : Hid (Few ((wordsIn k).1)) := Lib.hid (wordsIn_few k)
  have hne1 : (((wordsIn k).2) != ((wordsIn k).2)) = false := by simp
  go_wp2_with fail
  refine ((specWordsOf_any k _ hik).seg).mono ?_
  rintro e w1 ⟨BW, mW, dW, rfl, hlW, hsW, hF1⟩
  have hz1 := hF1.size
  replace HB := Lib.hid (below_fr HB.out hF1 (by omega) (by omega))
  clear hF1
  have HSW := Lib.hid hsW
  have HMW := Lib.hid hlW
  have hbW : mW ≤ 1048576 := by have h1 := HLEN.out.1.1; omega
  clear hsW hlW
  go_wp2_with fail
  refine ((implWordsOf_any k _ hik).seg).mono ?_
  rintro e w2 ⟨BG, mG, dG, rfl, hlG, hsG, hF2⟩
  have hz2 := hF2.size
  replace HB := Lib.hid (below_fr HB.out hF2 (by omega) (by omega))
  replace HSW := Lib.hid (HSW.out.fr hF2 (by omega))
  clear hF2
  have HSG := Lib.hid hsG
  have HMG := Lib.hid hlG
  have hbG : mG ≤ 1048576 := by have h1 := HLEN.out.1.1; omega
  clear hsG hlG
  go_wp2_with fail
  refine (eqRows_seg _ _ _ _ _ _ _ _ _ _ ((wordsIn k).1) _ HSG.out HSW.out HLEN.out.1 (by rw [← HMG.out, ← HMW.out])).mono ?_
  rintro e w3 ⟨rfl, hF3⟩
  have hz3 := hF3.size
  replace HB := Lib.hid (below_fr HB.out hF3 (by omega) (by omega))
  replace HSW := Lib.hid (HSW.out.fr hF3 (by omega))
  replace HSG := Lib.hid (HSG.out.fr hF3 (by omega))
  clear hF3
  go_wp2_with fail
  refine (markRows_seg _ _ _ _ _ ((wordsIn k).1) 1 _ HSG.out HLEN.out.1 HLEN.out.2 (by omega) (by omega)).mono ?_
  rintro e w4 ⟨rfl, hsG, hF4⟩
  have hz4 := hF4.size
  replace HB := Lib.hid (below_fr HB.out hF4 (by omega) (by omega))
  replace HSW := Lib.hid (HSW.out.fr hF4 (by omega))
  clear hF4
  replace HSG := Lib.hid hsG
  clear hsG
  go_wp2_with fail
  refine (heldRows_seg _ _ _ _ _ ((wordsIn k).1) 1 _ HSG.out HLEN.out.1 HLEN.out.2 (by omega) (by omega)).mono ?_
  rintro e w5 ⟨rfl, hF5⟩
  have hz5 := hF5.size
  replace HB := Lib.hid (below_fr HB.out hF5 (by omega) (by omega))
  replace HSW := Lib.hid (HSW.out.fr hF5 (by omega))
  replace HSG := Lib.hid (HSG.out.fr hF5 (by omega))
  clear hF5
  have hq1 : ((1 + (cells ((wordsIn k).1) : Int)) != (1 + (cells ((wordsIn k).1) : Int))) = false := by simp
  go_wp2_with fail
  refine ((implWordsOf_any k _ hik).seg).mono ?_
  rintro e w6 ⟨BH, mH, dH, rfl, hlH, hsH, hF6⟩
  have hz6 := hF6.size
  replace HB := Lib.hid (below_fr HB.out hF6 (by omega) (by omega))
  replace HSW := Lib.hid (HSW.out.fr hF6 (by omega))
  replace HSG := Lib.hid (HSG.out.fr hF6 (by omega))
  clear hF6
  have HSH := Lib.hid hsH
  have HMH := Lib.hid hlH
  have hbH : mH ≤ 1048576 := by have h1 := HLEN.out.1.1; omega
  clear hsH hlH
  go_wp2_with fail
  refine (eqRows_seg _ _ _ _ _ _ _ _ _ _ ((wordsIn k).1) _ HSH.out HSW.out HLEN.out.1 (by rw [← HMH.out, ← HMW.out])).mono ?_
  rintro e w7 ⟨rfl, hF7⟩
  have hz7 := hF7.size
  replace HB := Lib.hid (below_fr HB.out hF7 (by omega) (by omega))
  replace HSW := Lib.hid (HSW.out.fr hF7 (by omega))
  replace HSG := Lib.hid (HSG.out.fr hF7 (by omega))
  replace HSH := Lib.hid (HSH.out.fr hF7 (by omega))
  clear hF7
  go_wp2_with fail
  refine (heldRows_seg _ _ _ _ _ ((wordsIn k).1) 1 _ HSG.out HLEN.out.1 HLEN.out.2 (by omega) (by omega)).mono ?_
  rintro e w8 ⟨rfl, hF8⟩
  have hz8 := hF8.size
  replace HB := Lib.hid (below_fr HB.out hF8 (by omega) (by omega))
  replace HSW := Lib.hid (HSW.out.fr hF8 (by omega))
  replace HSG := Lib.hid (HSG.out.fr hF8 (by omega))
  replace HSH := Lib.hid (HSH.out.fr hF8 (by omega))
  clear hF8
  go_wp2_with fail
  go_ret
  exact ⟨rfl, HB.out⟩
end Go.Proofs.Ytmndkkhaagjjmaa
