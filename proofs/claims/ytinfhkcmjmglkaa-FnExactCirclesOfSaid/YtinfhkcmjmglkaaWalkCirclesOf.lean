/- The walk through the law CirclesOf. -/
import Derived.Test.YtinfhkcmjmglkaaFCirclesOf
import Derived.Test.YtinfhkcmjmglkaaSeg
import Derived.Test.YtinfhkcmjmglkaaRow
namespace Go.Proofs.Ytinfhkcmjmglkaa
open Go.ChangeShapes Go.WideShapes Go.ChangeAt Go.RowKit
set_option linter.unusedVariables false
set_option linter.unusedSimpArgs false
set_option maxRecDepth 100000

set_option maxHeartbeats 4000000 in
theorem lawCirclesOf_any (Axs : Option Addr) (nxs cxs : Nat) (xs : List Int) (Ays : Option Addr) (nys cys : Nat) (ys : List Int) (w : World) (hrxs : Rd w Axs nxs xs) (hwxs : Wf xs) (hrys : Rd w Ays nys ys) (hwys : Wf ys) :
    Calls Try.prog 7 #[.slice Axs nxs cxs, .slice Ays nys cys] w fun e w' => e = .returned (.bool true) ∧ Below w.heap.size w w' := by
  have HAxs : Hid (RdB w w.heap.size Axs nxs xs) := Lib.hid hrxs
  have HLxs := Lib.hid hrxs.len
  have HWxs := Lib.hid hwxs
  have HAys : Hid (RdB w w.heap.size Ays nys ys) := Lib.hid hrys
  have HLys := Lib.hid hrys.len
  have HWys := Lib.hid hwys
  have HB : Hid (Below w.heap.size w w) := Lib.hid (Below.refl _ _)
  clear hrxs hwxs hrys hwys
  by_cases hnxs : nxs ≤ 1048576
  case neg =>
    go_enter Try.func7, Try.ntmps7
    go_wp2_with fail
    go_ret
    exact ⟨rfl, Below.refl _ _⟩
  by_cases hnys : nys ≤ 1048576
  case neg =>
    go_enter Try.func7, Try.ntmps7
    go_wp2_with fail
    go_ret
    exact ⟨rfl, Below.refl _ _⟩
  go_enter Try.func7, Try.ntmps7
  have hne0 : (((circlesOf xs ys).1) != ((circlesOf xs ys).1)) = false := by simp
  have hne1 : (((circlesOf xs ys).2) != ((circlesOf xs ys).2)) = false := by simp
  go_wp2_with fail
  refine (toInts_seg Axs nxs cxs xs _ (RdB.rd HAxs.out (by omega)) hnxs).mono ?_
  rintro e w1 ⟨Baxs, maxs, daxs, rfl, hlaxs, hsaxs, hF1⟩
  have hz1 := hF1.size
  replace HAxs := Lib.hid (RdB.fr HAxs.out hF1 (by omega) (by omega))
  replace HAys := Lib.hid (RdB.fr HAys.out hF1 (by omega) (by omega))
  replace HB := Lib.hid (below_fr HB.out hF1 (by omega) (by omega))
  clear hF1
  have HSaxs := Lib.hid hsaxs
  have HMaxs := Lib.hid hlaxs
  have hbaxs : maxs ≤ 1048576 := by have h1 := HLxs.out; omega
  clear hsaxs hlaxs
  go_wp2_with fail
  refine (toInts_seg Ays nys cys ys _ (RdB.rd HAys.out (by omega)) hnys).mono ?_
  rintro e w2 ⟨Bays, mays, days, rfl, hlays, hsays, hF2⟩
  have hz2 := hF2.size
  replace HAxs := Lib.hid (RdB.fr HAxs.out hF2 (by omega) (by omega))
  replace HAys := Lib.hid (RdB.fr HAys.out hF2 (by omega) (by omega))
  replace HB := Lib.hid (below_fr HB.out hF2 (by omega) (by omega))
  replace HSaxs := Lib.hid (HSaxs.out.fr hF2 (by omega))
  clear hF2
  have HSays := Lib.hid hsays
  have HMays := Lib.hid hlays
  have hbays : mays ≤ 1048576 := by have h1 := HLys.out; omega
  clear hsays hlays
  go_wp2_with fail
  refine ((specCirclesOf_any _ _ _ xs _ _ _ ys _ HSaxs.out.rd HWxs.out hbaxs HSaxs.out.cap HSays.out.rd HWys.out hbays HSays.out.cap).seg).mono ?_
  rintro e w3 ⟨rfl, hF3⟩
  have hz3 := hF3.size
  replace HAxs := Lib.hid (RdB.fr HAxs.out hF3 (by omega) (by omega))
  replace HAys := Lib.hid (RdB.fr HAys.out hF3 (by omega) (by omega))
  replace HB := Lib.hid (below_fr HB.out hF3 (by omega) (by omega))
  replace HSaxs := Lib.hid (HSaxs.out.fr hF3 (by omega))
  replace HSays := Lib.hid (HSays.out.fr hF3 (by omega))
  clear hF3
  go_wp2_with fail
  refine (toInts_seg Axs nxs cxs xs _ (RdB.rd HAxs.out (by omega)) hnxs).mono ?_
  rintro e w4 ⟨Bxxs, mxxs, dxxs, rfl, hlxxs, hsxxs, hF4⟩
  have hz4 := hF4.size
  replace HAxs := Lib.hid (RdB.fr HAxs.out hF4 (by omega) (by omega))
  replace HAys := Lib.hid (RdB.fr HAys.out hF4 (by omega) (by omega))
  replace HB := Lib.hid (below_fr HB.out hF4 (by omega) (by omega))
  clear hF4
  have HSxxs := Lib.hid hsxxs
  have HMxxs := Lib.hid hlxxs
  have hbxxs : mxxs ≤ 1048576 := by have h1 := HLxs.out; omega
  clear hsxxs hlxxs
  go_wp2_with fail
  refine (toInts_seg Ays nys cys ys _ (RdB.rd HAys.out (by omega)) hnys).mono ?_
  rintro e w5 ⟨Bxys, mxys, dxys, rfl, hlxys, hsxys, hF5⟩
  have hz5 := hF5.size
  replace HAxs := Lib.hid (RdB.fr HAxs.out hF5 (by omega) (by omega))
  replace HAys := Lib.hid (RdB.fr HAys.out hF5 (by omega) (by omega))
  replace HB := Lib.hid (below_fr HB.out hF5 (by omega) (by omega))
  replace HSxxs := Lib.hid (HSxxs.out.fr hF5 (by omega))
  clear hF5
  have HSxys := Lib.hid hsxys
  have HMxys := Lib.hid hlxys
  have hbxys : mxys ≤ 1048576 := by have h1 := HLys.out; omega
  clear hsxys hlxys
  go_wp2_with fail
  refine ((implCirclesOf_any _ _ _ xs _ _ _ ys _ HSxxs.out.rd HWxs.out hbxxs HSxxs.out.cap HSxys.out.rd HWys.out hbxys HSxys.out.cap).seg).mono ?_
  rintro e w6 ⟨rfl, hF6⟩
  have hz6 := hF6.size
  replace HAxs := Lib.hid (RdB.fr HAxs.out hF6 (by omega) (by omega))
  replace HAys := Lib.hid (RdB.fr HAys.out hF6 (by omega) (by omega))
  replace HB := Lib.hid (below_fr HB.out hF6 (by omega) (by omega))
  replace HSxxs := Lib.hid (HSxxs.out.fr hF6 (by omega))
  replace HSxys := Lib.hid (HSxys.out.fr hF6 (by omega))
  clear hF6
  go_wp2_with fail
  refine (toInts_seg Axs nxs cxs xs _ (RdB.rd HAxs.out (by omega)) hnxs).mono ?_
  rintro e w7 ⟨Byxs, myxs, dyxs, rfl, hlyxs, hsyxs, hF7⟩
  have hz7 := hF7.size
  replace HAxs := Lib.hid (RdB.fr HAxs.out hF7 (by omega) (by omega))
  replace HAys := Lib.hid (RdB.fr HAys.out hF7 (by omega) (by omega))
  replace HB := Lib.hid (below_fr HB.out hF7 (by omega) (by omega))
  replace HSxxs := Lib.hid (HSxxs.out.fr hF7 (by omega))
  replace HSxys := Lib.hid (HSxys.out.fr hF7 (by omega))
  clear hF7
  have HSyxs := Lib.hid hsyxs
  have HMyxs := Lib.hid hlyxs
  have hbyxs : myxs ≤ 1048576 := by have h1 := HLxs.out; omega
  clear hsyxs hlyxs
  go_wp2_with fail
  refine (eqInts_seg _ _ _ _ _ _ xs xs _ HSxxs.out.rd HSyxs.out.rd hbxxs hbyxs).mono ?_
  rintro e w8 ⟨rfl, hF8⟩
  have hz8 := hF8.size
  replace HAxs := Lib.hid (RdB.fr HAxs.out hF8 (by omega) (by omega))
  replace HAys := Lib.hid (RdB.fr HAys.out hF8 (by omega) (by omega))
  replace HB := Lib.hid (below_fr HB.out hF8 (by omega) (by omega))
  replace HSxxs := Lib.hid (HSxxs.out.fr hF8 (by omega))
  replace HSxys := Lib.hid (HSxys.out.fr hF8 (by omega))
  replace HSyxs := Lib.hid (HSyxs.out.fr hF8 (by omega))
  clear hF8
  rw [eq_self_b xs]
  go_wp2_with fail
  refine (toInts_seg Ays nys cys ys _ (RdB.rd HAys.out (by omega)) hnys).mono ?_
  rintro e w9 ⟨Byys, myys, dyys, rfl, hlyys, hsyys, hF9⟩
  have hz9 := hF9.size
  replace HAxs := Lib.hid (RdB.fr HAxs.out hF9 (by omega) (by omega))
  replace HAys := Lib.hid (RdB.fr HAys.out hF9 (by omega) (by omega))
  replace HB := Lib.hid (below_fr HB.out hF9 (by omega) (by omega))
  replace HSxxs := Lib.hid (HSxxs.out.fr hF9 (by omega))
  replace HSxys := Lib.hid (HSxys.out.fr hF9 (by omega))
  clear hF9
  have HSyys := Lib.hid hsyys
  have HMyys := Lib.hid hlyys
  have hbyys : myys ≤ 1048576 := by have h1 := HLys.out; omega
  clear hsyys hlyys
  go_wp2_with fail
  refine (eqInts_seg _ _ _ _ _ _ ys ys _ HSxys.out.rd HSyys.out.rd hbxys hbyys).mono ?_
  rintro e w10 ⟨rfl, hF10⟩
  have hz10 := hF10.size
  replace HAxs := Lib.hid (RdB.fr HAxs.out hF10 (by omega) (by omega))
  replace HAys := Lib.hid (RdB.fr HAys.out hF10 (by omega) (by omega))
  replace HB := Lib.hid (below_fr HB.out hF10 (by omega) (by omega))
  replace HSxxs := Lib.hid (HSxxs.out.fr hF10 (by omega))
  replace HSxys := Lib.hid (HSxys.out.fr hF10 (by omega))
  replace HSyys := Lib.hid (HSyys.out.fr hF10 (by omega))
  clear hF10
  rw [eq_self_b ys]
  go_wp2_with fail
  go_ret
  exact ⟨rfl, HB.out⟩
end Go.Proofs.Ytinfhkcmjmglkaa
