/- The walk through the law WordOfChords. -/
import Derived.Test.YtiacpdglojikpaaFWordOfChords
import Derived.Test.YtiacpdglojikpaaSeg
import Derived.Test.YtiacpdglojikpaaRow
namespace Go.Proofs.Ytiacpdglojikpaa
open Go.ChangeShapes Go.WideShapes Go.ChangeAt Go.RowKit
set_option linter.unusedVariables false
set_option linter.unusedSimpArgs false
set_option maxRecDepth 100000

set_option maxHeartbeats 4000000 in
theorem lawWordOfChords_any (Axs : Option Addr) (nxs cxs : Nat) (xs : List Int) (Ays : Option Addr) (nys cys : Nat) (ys : List Int) (w : World) (hrxs : Rd w Axs nxs xs) (hwxs : Wf xs) (hrys : Rd w Ays nys ys) (hwys : Wf ys) :
    Calls Try.prog 3 #[.slice Axs nxs cxs, .slice Ays nys cys] w fun e w' => e = .returned (.bool true) ∧ Below w.heap.size w w' := by
  have HAxs : Hid (RdB w w.heap.size Axs nxs xs) := Lib.hid hrxs
  have HLxs := Lib.hid hrxs.len
  have HWxs := Lib.hid hwxs
  have HAys : Hid (RdB w w.heap.size Ays nys ys) := Lib.hid hrys
  have HLys := Lib.hid hrys.len
  have HWys := Lib.hid hwys
  have HB : Hid (Below w.heap.size w w) := Lib.hid (Below.refl _ _)
  clear hrxs hwxs hrys hwys
  by_cases hnxs : nxs ≤ 1048576
  case neg =>
    go_enter Try.func3, Try.ntmps3
    go_wp2_with fail
    go_ret
    exact ⟨rfl, Below.refl _ _⟩
  by_cases hnys : nys ≤ 1048576
  case neg =>
    go_enter Try.func3, Try.ntmps3
    go_wp2_with fail
    go_ret
    exact ⟨rfl, Below.refl _ _⟩
  go_enter Try.func3, Try.ntmps3
  have HLEN : Hid (((wordOfChords xs ys).1).length ≤ 1048576) := Lib.hid (wordOfChords_len xs ys (by rw [HLxs.out]; exact hnxs))
  have hne1 : (((wordOfChords xs ys).2) != ((wordOfChords xs ys).2)) = false := by simp
  go_wp2_with fail
  refine (toInts_seg Axs nxs cxs xs _ (RdB.rd HAxs.out (by omega)) hnxs).mono ?_
  rintro e w1 ⟨Baxs, maxs, daxs, rfl, hlaxs, hsaxs, hF1⟩
  have hz1 := hF1.size
  replace HAxs := Lib.hid (RdB.fr HAxs.out hF1 (by omega) (by omega))
  replace HAys := Lib.hid (RdB.fr HAys.out hF1 (by omega) (by omega))
  replace HB := Lib.hid (below_fr HB.out hF1 (by omega) (by omega))
  clear hF1
  have HSaxs := Lib.hid hsaxs
  have HMaxs := Lib.hid hlaxs
  have hbaxs : maxs ≤ 1048576 := by have h1 := HLxs.out; omega
  clear hsaxs hlaxs
  go_wp2_with fail
  refine (toInts_seg Ays nys cys ys _ (RdB.rd HAys.out (by omega)) hnys).mono ?_
  rintro e w2 ⟨Bays, mays, days, rfl, hlays, hsays, hF2⟩
  have hz2 := hF2.size
  replace HAxs := Lib.hid (RdB.fr HAxs.out hF2 (by omega) (by omega))
  replace HAys := Lib.hid (RdB.fr HAys.out hF2 (by omega) (by omega))
  replace HB := Lib.hid (below_fr HB.out hF2 (by omega) (by omega))
  replace HSaxs := Lib.hid (HSaxs.out.fr hF2 (by omega))
  clear hF2
  have HSays := Lib.hid hsays
  have HMays := Lib.hid hlays
  have hbays : mays ≤ 1048576 := by have h1 := HLys.out; omega
  clear hsays hlays
  go_wp2_with fail
  refine ((specWordOfChords_any _ _ _ xs _ _ _ ys _ HSaxs.out.rd HWxs.out hbaxs HSaxs.out.cap HSays.out.rd HWys.out hbays HSays.out.cap).seg).mono ?_
  rintro e w3 ⟨BW, mW, dW, rfl, hlW, hsW, hF3⟩
  have hz3 := hF3.size
  replace HAxs := Lib.hid (RdB.fr HAxs.out hF3 (by omega) (by omega))
  replace HAys := Lib.hid (RdB.fr HAys.out hF3 (by omega) (by omega))
  replace HB := Lib.hid (below_fr HB.out hF3 (by omega) (by omega))
  replace HSaxs := Lib.hid (HSaxs.out.fr hF3 (by omega))
  replace HSays := Lib.hid (HSays.out.fr hF3 (by omega))
  clear hF3
  have HSW := Lib.hid hsW
  have HMW := Lib.hid hlW
  have hbW : mW ≤ 1048576 := by have h1 := HLEN.out; omega
  clear hsW hlW
  go_wp2_with fail
  refine (toInts_seg Axs nxs cxs xs _ (RdB.rd HAxs.out (by omega)) hnxs).mono ?_
  rintro e w4 ⟨Bxxs, mxxs, dxxs, rfl, hlxxs, hsxxs, hF4⟩
  have hz4 := hF4.size
  replace HAxs := Lib.hid (RdB.fr HAxs.out hF4 (by omega) (by omega))
  replace HAys := Lib.hid (RdB.fr HAys.out hF4 (by omega) (by omega))
  replace HB := Lib.hid (below_fr HB.out hF4 (by omega) (by omega))
  replace HSW := Lib.hid (HSW.out.fr hF4 (by omega))
  clear hF4
  have HSxxs := Lib.hid hsxxs
  have HMxxs := Lib.hid hlxxs
  have hbxxs : mxxs ≤ 1048576 := by have h1 := HLxs.out; omega
  clear hsxxs hlxxs
  go_wp2_with fail
  refine (toInts_seg Ays nys cys ys _ (RdB.rd HAys.out (by omega)) hnys).mono ?_
  rintro e w5 ⟨Bxys, mxys, dxys, rfl, hlxys, hsxys, hF5⟩
  have hz5 := hF5.size
  replace HAxs := Lib.hid (RdB.fr HAxs.out hF5 (by omega) (by omega))
  replace HAys := Lib.hid (RdB.fr HAys.out hF5 (by omega) (by omega))
  replace HB := Lib.hid (below_fr HB.out hF5 (by omega) (by omega))
  replace HSW := Lib.hid (HSW.out.fr hF5 (by omega))
  replace HSxxs := Lib.hid (HSxxs.out.fr hF5 (by omega))
  clear hF5
  have HSxys := Lib.hid hsxys
  have HMxys := Lib.hid hlxys
  have hbxys : mxys ≤ 1048576 := by have h1 := HLys.out; omega
  clear hsxys hlxys
  go_wp2_with fail
  refine ((implWordOfChords_any _ _ _ xs _ _ _ ys _ HSxxs.out.rd HWxs.out hbxxs HSxxs.out.cap HSxys.out.rd HWys.out hbxys HSxys.out.cap).seg).mono ?_
  rintro e w6 ⟨BG, mG, dG, rfl, hlG, hsG, hF6⟩
  have hz6 := hF6.size
  replace HAxs := Lib.hid (RdB.fr HAxs.out hF6 (by omega) (by omega))
  replace HAys := Lib.hid (RdB.fr HAys.out hF6 (by omega) (by omega))
  replace HB := Lib.hid (below_fr HB.out hF6 (by omega) (by omega))
  replace HSW := Lib.hid (HSW.out.fr hF6 (by omega))
  replace HSxxs := Lib.hid (HSxxs.out.fr hF6 (by omega))
  replace HSxys := Lib.hid (HSxys.out.fr hF6 (by omega))
  clear hF6
  have HSG := Lib.hid hsG
  have HMG := Lib.hid hlG
  have hbG : mG ≤ 1048576 := by have h1 := HLEN.out; omega
  clear hsG hlG
  go_wp2_with fail
  refine (eqInts_seg _ _ _ _ _ _ (wordOfChords xs ys).1 (wordOfChords xs ys).1 _ HSG.out.rd HSW.out.rd hbG hbW).mono ?_
  rintro e w7 ⟨rfl, hF7⟩
  have hz7 := hF7.size
  replace HAxs := Lib.hid (RdB.fr HAxs.out hF7 (by omega) (by omega))
  replace HAys := Lib.hid (RdB.fr HAys.out hF7 (by omega) (by omega))
  replace HB := Lib.hid (below_fr HB.out hF7 (by omega) (by omega))
  replace HSW := Lib.hid (HSW.out.fr hF7 (by omega))
  replace HSxxs := Lib.hid (HSxxs.out.fr hF7 (by omega))
  replace HSxys := Lib.hid (HSxys.out.fr hF7 (by omega))
  replace HSG := Lib.hid (HSG.out.fr hF7 (by omega))
  clear hF7
  rw [eq_self_b (wordOfChords xs ys).1]
  go_wp2_with fail
  refine (toInts_seg Axs nxs cxs xs _ (RdB.rd HAxs.out (by omega)) hnxs).mono ?_
  rintro e w8 ⟨Byxs, myxs, dyxs, rfl, hlyxs, hsyxs, hF8⟩
  have hz8 := hF8.size
  replace HAxs := Lib.hid (RdB.fr HAxs.out hF8 (by omega) (by omega))
  replace HAys := Lib.hid (RdB.fr HAys.out hF8 (by omega) (by omega))
  replace HB := Lib.hid (below_fr HB.out hF8 (by omega) (by omega))
  replace HSW := Lib.hid (HSW.out.fr hF8 (by omega))
  replace HSxxs := Lib.hid (HSxxs.out.fr hF8 (by omega))
  replace HSxys := Lib.hid (HSxys.out.fr hF8 (by omega))
  replace HSG := Lib.hid (HSG.out.fr hF8 (by omega))
  clear hF8
  have HSyxs := Lib.hid hsyxs
  have HMyxs := Lib.hid hlyxs
  have hbyxs : myxs ≤ 1048576 := by have h1 := HLxs.out; omega
  clear hsyxs hlyxs
  go_wp2_with fail
  refine (eqInts_seg _ _ _ _ _ _ xs xs _ HSxxs.out.rd HSyxs.out.rd hbxxs hbyxs).mono ?_
  rintro e w9 ⟨rfl, hF9⟩
  have hz9 := hF9.size
  replace HAxs := Lib.hid (RdB.fr HAxs.out hF9 (by omega) (by omega))
  replace HAys := Lib.hid (RdB.fr HAys.out hF9 (by omega) (by omega))
  replace HB := Lib.hid (below_fr HB.out hF9 (by omega) (by omega))
  replace HSW := Lib.hid (HSW.out.fr hF9 (by omega))
  replace HSxxs := Lib.hid (HSxxs.out.fr hF9 (by omega))
  replace HSxys := Lib.hid (HSxys.out.fr hF9 (by omega))
  replace HSG := Lib.hid (HSG.out.fr hF9 (by omega))
  replace HSyxs := Lib.hid (HSyxs.out.fr hF9 (by omega))
  clear hF9
  rw [eq_self_b xs]
  go_wp2_with fail
  refine (toInts_seg Ays nys cys ys _ (RdB.rd HAys.out (by omega)) hnys).mono ?_
  rintro e w10 ⟨Byys, myys, dyys, rfl, hlyys, hsyys, hF10⟩
  have hz10 := hF10.size
  replace HAxs := Lib.hid (RdB.fr HAxs.out hF10 (by omega) (by omega))
  replace HAys := Lib.hid (RdB.fr HAys.out hF10 (by omega) (by omega))
  replace HB := Lib.hid (below_fr HB.out hF10 (by omega) (by omega))
  replace HSW := Lib.hid (HSW.out.fr hF10 (by omega))
  replace HSxxs := Lib.hid (HSxxs.out.fr hF10 (by omega))
  replace HSxys := Lib.hid (HSxys.out.fr hF10 (by omega))
  replace HSG := Lib.hid (HSG.out.fr hF10 (by omega))
  clear hF10
  have HSyys := Lib.hid hsyys
  have HMyys := Lib.hid hlyys
  have hbyys : myys ≤ 1048576 := by have h1 := HLys.out; omega
  clear hsyys hlyys
  go_wp2_with fail
  refine (eqInts_seg _ _ _ _ _ _ ys ys _ HSxys.out.rd HSyys.out.rd hbxys hbyys).mono ?_
  rintro e w11 ⟨rfl, hF11⟩
  have hz11 := hF11.size
  replace HAxs := Lib.hid (RdB.fr HAxs.out hF11 (by omega) (by omega))
  replace HAys := Lib.hid (RdB.fr HAys.out hF11 (by omega) (by omega))
  replace HB := Lib.hid (below_fr HB.out hF11 (by omega) (by omega))
  replace HSW := Lib.hid (HSW.out.fr hF11 (by omega))
  replace HSxxs := Lib.hid (HSxxs.out.fr hF11 (by omega))
  replace HSxys := Lib.hid (HSxys.out.fr hF11 (by omega))
  replace HSG := Lib.hid (HSG.out.fr hF11 (by omega))
  replace HSyys := Lib.hid (HSyys.out.fr hF11 (by omega))
  clear hF11
  rw [eq_self_b ys]
  go_wp2_with fail
  refine (mark_seg _ _ _ xs _ _ _ HSxxs.out HMxxs.out hbxxs _ (by omega) (by omega)).mono ?_
  rintro e w12 ⟨rfl, hsxxs, hF12⟩
  have hz12 := hF12.size
  replace HAxs := Lib.hid (RdB.fr HAxs.out hF12 (by omega) (by omega))
  replace HAys := Lib.hid (RdB.fr HAys.out hF12 (by omega) (by omega))
  replace HB := Lib.hid (below_fr HB.out hF12 (by omega) (by omega))
  replace HSW := Lib.hid (HSW.out.fr hF12 (by omega))
  replace HSxys := Lib.hid (HSxys.out.fr hF12 (by omega))
  replace HSG := Lib.hid (HSG.out.fr hF12 (by omega))
  clear hF12
  clear HSxxs hsxxs
  go_wp2_with fail
  refine (mark_seg _ _ _ ys _ _ _ HSxys.out HMxys.out hbxys _ (by omega) (by omega)).mono ?_
  rintro e w13 ⟨rfl, hsxys, hF13⟩
  have hz13 := hF13.size
  replace HAxs := Lib.hid (RdB.fr HAxs.out hF13 (by omega) (by omega))
  replace HAys := Lib.hid (RdB.fr HAys.out hF13 (by omega) (by omega))
  replace HB := Lib.hid (below_fr HB.out hF13 (by omega) (by omega))
  replace HSW := Lib.hid (HSW.out.fr hF13 (by omega))
  replace HSG := Lib.hid (HSG.out.fr hF13 (by omega))
  clear hF13
  clear HSxys hsxys
  go_wp2_with fail
  refine (eqInts_seg _ _ _ _ _ _ (wordOfChords xs ys).1 (wordOfChords xs ys).1 _ HSG.out.rd HSW.out.rd hbG hbW).mono ?_
  rintro e w14 ⟨rfl, hF14⟩
  have hz14 := hF14.size
  replace HAxs := Lib.hid (RdB.fr HAxs.out hF14 (by omega) (by omega))
  replace HAys := Lib.hid (RdB.fr HAys.out hF14 (by omega) (by omega))
  replace HB := Lib.hid (below_fr HB.out hF14 (by omega) (by omega))
  replace HSW := Lib.hid (HSW.out.fr hF14 (by omega))
  replace HSG := Lib.hid (HSG.out.fr hF14 (by omega))
  clear hF14
  rw [eq_self_b (wordOfChords xs ys).1]
  go_wp2_with fail
  refine (mark_seg _ _ _ _ _ _ _ HSG.out HMG.out hbG _ (by omega) (by omega)).mono ?_
  rintro e w15 ⟨rfl, hsG, hF15⟩
  have hz15 := hF15.size
  replace HAxs := Lib.hid (RdB.fr HAxs.out hF15 (by omega) (by omega))
  replace HAys := Lib.hid (RdB.fr HAys.out hF15 (by omega) (by omega))
  replace HB := Lib.hid (below_fr HB.out hF15 (by omega) (by omega))
  replace HSW := Lib.hid (HSW.out.fr hF15 (by omega))
  clear hF15
  replace HSG := Lib.hid hsG
  clear hsG
  go_wp2_with fail
  refine (held_seg _ _ _ _ _ _ _ HSG.out hbG (by omega) (by omega)).mono ?_
  rintro e w16 ⟨rfl, hF16⟩
  have hz16 := hF16.size
  replace HAxs := Lib.hid (RdB.fr HAxs.out hF16 (by omega) (by omega))
  replace HAys := Lib.hid (RdB.fr HAys.out hF16 (by omega) (by omega))
  replace HB := Lib.hid (below_fr HB.out hF16 (by omega) (by omega))
  replace HSW := Lib.hid (HSW.out.fr hF16 (by omega))
  replace HSG := Lib.hid (HSG.out.fr hF16 (by omega))
  clear hF16
  have hq1 : ((1 + (mG : Int)) != (1 + (mG : Int))) = false := by simp
  go_wp2_with fail
  refine (toInts_seg Axs nxs cxs xs _ (RdB.rd HAxs.out (by omega)) hnxs).mono ?_
  rintro e w17 ⟨Bzxs, mzxs, dzxs, rfl, hlzxs, hszxs, hF17⟩
  have hz17 := hF17.size
  replace HAxs := Lib.hid (RdB.fr HAxs.out hF17 (by omega) (by omega))
  replace HAys := Lib.hid (RdB.fr HAys.out hF17 (by omega) (by omega))
  replace HB := Lib.hid (below_fr HB.out hF17 (by omega) (by omega))
  replace HSW := Lib.hid (HSW.out.fr hF17 (by omega))
  replace HSG := Lib.hid (HSG.out.fr hF17 (by omega))
  clear hF17
  have HSzxs := Lib.hid hszxs
  have HMzxs := Lib.hid hlzxs
  have hbzxs : mzxs ≤ 1048576 := by have h1 := HLxs.out; omega
  clear hszxs hlzxs
  go_wp2_with fail
  refine (toInts_seg Ays nys cys ys _ (RdB.rd HAys.out (by omega)) hnys).mono ?_
  rintro e w18 ⟨Bzys, mzys, dzys, rfl, hlzys, hszys, hF18⟩
  have hz18 := hF18.size
  replace HAxs := Lib.hid (RdB.fr HAxs.out hF18 (by omega) (by omega))
  replace HAys := Lib.hid (RdB.fr HAys.out hF18 (by omega) (by omega))
  replace HB := Lib.hid (below_fr HB.out hF18 (by omega) (by omega))
  replace HSW := Lib.hid (HSW.out.fr hF18 (by omega))
  replace HSG := Lib.hid (HSG.out.fr hF18 (by omega))
  replace HSzxs := Lib.hid (HSzxs.out.fr hF18 (by omega))
  clear hF18
  have HSzys := Lib.hid hszys
  have HMzys := Lib.hid hlzys
  have hbzys : mzys ≤ 1048576 := by have h1 := HLys.out; omega
  clear hszys hlzys
  go_wp2_with fail
  refine ((implWordOfChords_any _ _ _ xs _ _ _ ys _ HSzxs.out.rd HWxs.out hbzxs HSzxs.out.cap HSzys.out.rd HWys.out hbzys HSzys.out.cap).seg).mono ?_
  rintro e w19 ⟨BH, mH, dH, rfl, hlH, hsH, hF19⟩
  have hz19 := hF19.size
  replace HAxs := Lib.hid (RdB.fr HAxs.out hF19 (by omega) (by omega))
  replace HAys := Lib.hid (RdB.fr HAys.out hF19 (by omega) (by omega))
  replace HB := Lib.hid (below_fr HB.out hF19 (by omega) (by omega))
  replace HSW := Lib.hid (HSW.out.fr hF19 (by omega))
  replace HSG := Lib.hid (HSG.out.fr hF19 (by omega))
  replace HSzxs := Lib.hid (HSzxs.out.fr hF19 (by omega))
  replace HSzys := Lib.hid (HSzys.out.fr hF19 (by omega))
  clear hF19
  have HSH := Lib.hid hsH
  have HMH := Lib.hid hlH
  have hbH : mH ≤ 1048576 := by have h1 := HLEN.out; omega
  clear hsH hlH
  go_wp2_with fail
  refine (eqInts_seg _ _ _ _ _ _ (wordOfChords xs ys).1 (wordOfChords xs ys).1 _ HSH.out.rd HSW.out.rd hbH hbW).mono ?_
  rintro e w20 ⟨rfl, hF20⟩
  have hz20 := hF20.size
  replace HAxs := Lib.hid (RdB.fr HAxs.out hF20 (by omega) (by omega))
  replace HAys := Lib.hid (RdB.fr HAys.out hF20 (by omega) (by omega))
  replace HB := Lib.hid (below_fr HB.out hF20 (by omega) (by omega))
  replace HSW := Lib.hid (HSW.out.fr hF20 (by omega))
  replace HSG := Lib.hid (HSG.out.fr hF20 (by omega))
  replace HSH := Lib.hid (HSH.out.fr hF20 (by omega))
  clear hF20
  rw [eq_self_b (wordOfChords xs ys).1]
  go_wp2_with fail
  refine (held_seg _ _ _ _ _ _ _ HSG.out hbG (by omega) (by omega)).mono ?_
  rintro e w21 ⟨rfl, hF21⟩
  have hz21 := hF21.size
  replace HAxs := Lib.hid (RdB.fr HAxs.out hF21 (by omega) (by omega))
  replace HAys := Lib.hid (RdB.fr HAys.out hF21 (by omega) (by omega))
  replace HB := Lib.hid (below_fr HB.out hF21 (by omega) (by omega))
  replace HSW := Lib.hid (HSW.out.fr hF21 (by omega))
  replace HSG := Lib.hid (HSG.out.fr hF21 (by omega))
  replace HSH := Lib.hid (HSH.out.fr hF21 (by omega))
  clear hF21
  go_wp2_with fail
  go_ret
  exact ⟨rfl, HB.out⟩
end Go.Proofs.Ytiacpdglojikpaa
