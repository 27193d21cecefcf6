/- FnExactExchangeLegs: for every input the program's ExchangeLegs answers as the model's, writes into no argument, and its answer owns its memory.
   No condition. -/
import Derived.Test.YtdeefgmjlcdpfaaDoorExchImpl
import Derived.Test.YtdeefgmjlcdpfaaDoorDoorRow
import Derived.Test.YtdeefgmjlcdpfaaDoorWeb
import Derived.Test.YtdeefgmjlcdpfaaDoorRow
import Derived.Deep.RegionHeld3
import Derived.Test.YtdeefgmjlcdpfaaDoorWebRow
namespace Go.Proofs.YtdeefgmjlcdpfaaDoor
open Go.ChangeShapes Go.WideShapes Go.ChangeAt Go.RowKit
set_option linter.unusedVariables false
set_option linter.unusedSimpArgs false
set_option maxRecDepth 100000

set_option maxHeartbeats 8000000 in
theorem lawExchangeLegs_any (Aa : Option Addr) (na ca : Nat) (xa : List Int) (Ba : Option Addr) (ma da : Nat) (ra : List (List Int)) (k : Int) (ea : Option Addr) (w : World) (hra : RdWB w w.heap.size Aa na Ba ma xa ra) (hwa : WfW xa ra) (hca : na ≤ 9223372036854775807) (hea : ma ≤ 9223372036854775807) (hik : -9223372036854775808 ≤ k ∧ k ≤ 9223372036854775807) (hg : w.cell? ⟨0, 0, none⟩ = some (.iface 88 (.pointer ea))) (hw0 : 0 < w.heap.size) :
    Calls Tryd.prog 6 #[.agg #[.slice Aa na ca, .slice Ba ma da], .int .i64 k] w fun e w' => e = .returned (.bool true) ∧ Below w.heap.size w w' := by
  obtain ⟨rx, rr, rz, hR⟩ : ∃ rx rr rz, exchL xa ra k = ((rx, rr), rz) := ⟨_, _, _, rfl⟩
  have hnd : FewW rx rr := by have h := (exchL_few xa ra k); rw [hR] at h; exact h
  have HRR := Lib.hid hR
  have HND := Lib.hid hnd
  clear hR hnd
  have hrz : (rz != rz) = false := by simp
  have hq1 : ((1 + (rx.length : Int) + (cells rr : Int)) != (1 + (rx.length : Int) + (cells rr : Int))) = false := by simp
  have hq2 : ¬ (1 + (rx.length : Int) + (cells rr : Int) < 0) := by omega
  obtain ⟨W, hW⟩ : ∃ W, W = w.alloc (.cells #[.slice Aa na ca, .slice Ba ma da] 25) := ⟨_, rfl⟩
  have hF0 : Fr 0 0 w W := by rw [hW]; exact fr_alloc _ _
  have HXa : Hid (Box2 W w.heap.size 25 (.slice Aa na ca) (.slice Ba ma da)) := Lib.hid (by rw [hW]; exact box2_new _ _ _ _)
  have HAa : Hid (RdWB W w.heap.size Aa na Ba ma xa ra) := Lib.hid (RdWB.fr hra hF0 (by omega) (by omega))
  have HWa := Lib.hid hwa
  have HB : Hid (Below w.heap.size w W) := Lib.hid (below_of_fr hF0)
  have HG0 : Hid (W.cell? ⟨0, 0, none⟩ = some (.iface 88 (.pointer ea))) := Lib.hid (((below_of_fr hF0).cell (p := ⟨0, 0, none⟩) hw0).trans hg)
  clear hg
  have hz0 := hF0.size
  have HWW := Lib.hid hW
  clear hW hF0 hra hwa
  go_enter Tryd.func6, Tryd.ntmps6
  by_cases hNa : (needW xa ra : Int) ≤ 1048576
  case neg =>
    have q0HXa := HXa.out.cell0
    have q1HXa := HXa.out.cell1
    go_wp2_with fail
    rw [← HWW.out]
    clear q0HXa q1HXa
    refine (szWeb_seg Aa na ca Ba ma da xa ra 1048576 _ (RdWB.rd HAa.out (by omega)) hca hea (by omega) (by omega)).mono ?_
    rintro e w1 ⟨rfl, hF1⟩
    have hz1 := hF1.size
    replace HAa := Lib.hid (RdWB.fr HAa.out hF1 (by omega) (by omega))
    replace HXa := Lib.hid (HXa.out.fr hF1 (by omega))
    replace HB := Lib.hid (below_fr HB.out hF1 (by omega) (by omega))
    replace HG0 := Lib.hid (glob_fr HG0.out hF1 (by omega) (by omega))
    clear hF1
    rw [show leftW 1048576 xa ra = -1 from by unfold leftW; rw [if_neg (by omega)]]
    go_wp2_with fail
    go_ret
    exact ⟨rfl, HB.out⟩
  have q0HXa := HXa.out.cell0
  have q1HXa := HXa.out.cell1
  go_wp2_with fail
  rw [← HWW.out]
  clear q0HXa q1HXa
  refine (szWeb_seg Aa na ca Ba ma da xa ra 1048576 _ (RdWB.rd HAa.out (by omega)) hca hea (by omega) (by omega)).mono ?_
  rintro e w1 ⟨rfl, hF1⟩
  have hz1 := hF1.size
  replace HAa := Lib.hid (RdWB.fr HAa.out hF1 (by omega) (by omega))
  replace HXa := Lib.hid (HXa.out.fr hF1 (by omega))
  replace HB := Lib.hid (below_fr HB.out hF1 (by omega) (by omega))
  replace HG0 := Lib.hid (glob_fr HG0.out hF1 (by omega) (by omega))
  clear hF1
  rw [show leftW 1048576 xa ra = 1048576 - needW xa ra from by unfold leftW; rw [if_pos (by omega)]]
  have hlta : ¬ (1048576 - (needW xa ra : Int) < 0) := by omega
  have hma : FewW xa ra := few_of_need (by omega)
  have hmsa := few_sum (xs := xa) (rs := ra) (by omega : needW xa ra ≤ 1048576)
  have HMFa := Lib.hid hma
  clear hma
  have q0HXa := HXa.out.cell0
  have q1HXa := HXa.out.cell1
  go_wp2_with fail
  clear q0HXa q1HXa
  refine (toWeb_seg Aa na ca Ba ma da xa ra _ (RdWB.rd HAa.out (by omega)) HMFa.out).mono ?_
  rintro e w2 ⟨Baa, maa, daa, Caa, qaa, faa, rfl, hsaa, hF2⟩
  have hz2 := hF2.size
  replace HAa := Lib.hid (RdWB.fr HAa.out hF2 (by omega) (by omega))
  replace HXa := Lib.hid (HXa.out.fr hF2 (by omega))
  replace HB := Lib.hid (below_fr HB.out hF2 (by omega) (by omega))
  replace HG0 := Lib.hid (glob_fr HG0.out hF2 (by omega) (by omega))
  clear hF2
  have HSaa := Lib.hid hsaa
  clear hsaa
  have q0HXa := HXa.out.cell0
  have q1HXa := HXa.out.cell1
  go_wp2_with fail
  clear q0HXa q1HXa
  refine (GaveW.segr (specExchangeLegs_any _ _ _ _ _ _ xa ra k _ HSaa.out.rdW HWa.out HMFa.out hik) HRR.out).mono ?_
  rintro e w3 ⟨BW, mW, dW, CW, qW, fW, rfl, hsW, hF3⟩
  have hz3 := hF3.size
  replace HAa := Lib.hid (RdWB.fr HAa.out hF3 (by omega) (by omega))
  replace HXa := Lib.hid (HXa.out.fr hF3 (by omega))
  replace HB := Lib.hid (below_fr HB.out hF3 (by omega) (by omega))
  replace HG0 := Lib.hid (glob_fr HG0.out hF3 (by omega) (by omega))
  replace HSaa := Lib.hid (HSaa.out.fr hF3 (by omega))
  clear hF3
  have HSW := Lib.hid hsW
  clear hsW
  obtain ⟨X3, hX3⟩ : ∃ X, X = w3.alloc (.cells #[.slice BW mW dW, .slice CW qW fW] 28) := ⟨_, rfl⟩
  have hG3 : Fr 0 0 w3 X3 := by rw [hX3]; exact fr_alloc _ _
  have HXW : Hid (Box2 X3 w3.heap.size 28 (.slice BW mW dW) (.slice CW qW fW)) := Lib.hid (by rw [hX3]; exact box2_new _ _ _ _)
  have hsz3 : X3.heap.size = w3.heap.size + 1 := by rw [hX3]; simp
  have HH3 := Lib.hid hX3
  have q0HXa := HXa.out.cell0
  have q1HXa := HXa.out.cell1
  have a0HXa := fun o => (HXa.out.alloc o).cell0
  have a1HXa := fun o => (HXa.out.alloc o).cell1
  go_wp2_with fail
  clear q0HXa q1HXa a0HXa a1HXa
  rw [← HH3.out]
  have hzx3 := hG3.size
  replace HAa := Lib.hid (RdWB.fr HAa.out hG3 (by omega) (by omega))
  replace HXa := Lib.hid (HXa.out.fr hG3 (by omega))
  replace HB := Lib.hid (below_fr HB.out hG3 (by omega) (by omega))
  replace HG0 := Lib.hid (glob_fr HG0.out hG3 (by omega) (by omega))
  replace HSaa := Lib.hid (HSaa.out.fr hG3 (by omega))
  replace HSW := Lib.hid (HSW.out.fr hG3 (by omega))
  clear hX3 hG3
  refine (toWeb_seg Aa na ca Ba ma da xa ra _ (RdWB.rd HAa.out (by omega)) HMFa.out).mono ?_
  rintro e w4 ⟨Bxa, mxa, dxa, Cxa, qxa, fxa, rfl, hsxa, hF4⟩
  have hz4 := hF4.size
  replace HAa := Lib.hid (RdWB.fr HAa.out hF4 (by omega) (by omega))
  replace HXa := Lib.hid (HXa.out.fr hF4 (by omega))
  replace HB := Lib.hid (below_fr HB.out hF4 (by omega) (by omega))
  replace HG0 := Lib.hid (glob_fr HG0.out hF4 (by omega) (by omega))
  replace HSW := Lib.hid (HSW.out.fr hF4 (by omega))
  replace HXW := Lib.hid (HXW.out.fr hF4 (by omega))
  clear hF4
  have HSxa := Lib.hid hsxa
  clear hsxa
  obtain ⟨X4, hX4⟩ : ∃ X, X = w4.alloc (.cells #[.slice Bxa mxa dxa, .slice Cxa qxa fxa] 28) := ⟨_, rfl⟩
  have hG4 : Fr 0 0 w4 X4 := by rw [hX4]; exact fr_alloc _ _
  have HXxa : Hid (Box2 X4 w4.heap.size 28 (.slice Bxa mxa dxa) (.slice Cxa qxa fxa)) := Lib.hid (by rw [hX4]; exact box2_new _ _ _ _)
  have hsz4 : X4.heap.size = w4.heap.size + 1 := by rw [hX4]; simp
  have HH4 := Lib.hid hX4
  have q0HXa := HXa.out.cell0
  have q1HXa := HXa.out.cell1
  have q0HXW := HXW.out.cell0
  have q1HXW := HXW.out.cell1
  have a0HXa := fun o => (HXa.out.alloc o).cell0
  have a1HXa := fun o => (HXa.out.alloc o).cell1
  have a0HXW := fun o => (HXW.out.alloc o).cell0
  have a1HXW := fun o => (HXW.out.alloc o).cell1
  go_wp2_with fail
  clear q0HXa q1HXa q0HXW q1HXW a0HXa a1HXa a0HXW a1HXW
  rw [← HH4.out]
  have hzx4 := hG4.size
  replace HAa := Lib.hid (RdWB.fr HAa.out hG4 (by omega) (by omega))
  replace HXa := Lib.hid (HXa.out.fr hG4 (by omega))
  replace HB := Lib.hid (below_fr HB.out hG4 (by omega) (by omega))
  replace HG0 := Lib.hid (glob_fr HG0.out hG4 (by omega) (by omega))
  replace HSW := Lib.hid (HSW.out.fr hG4 (by omega))
  replace HXW := Lib.hid (HXW.out.fr hG4 (by omega))
  replace HSxa := Lib.hid (HSxa.out.fr hG4 (by omega))
  clear hX4 hG4
  have q0HXa := HXa.out.cell0
  have q1HXa := HXa.out.cell1
  have q0HXW := HXW.out.cell0
  have q1HXW := HXW.out.cell1
  have q0HXxa := HXxa.out.cell0
  have q1HXxa := HXxa.out.cell1
  go_wp2_with fail
  clear q0HXa q1HXa q0HXW q1HXW q0HXxa q1HXxa
  refine (GaveW.segr (implExchangeLegs_any _ _ _ _ _ _ xa ra k ea _ HSxa.out.rdW HWa.out HMFa.out hik HG0.out (by omega)) HRR.out).mono ?_
  rintro e w5 ⟨BG, mG, dG, CG, qG, fG, rfl, hsG, hF5⟩
  have hz5 := hF5.size
  replace HAa := Lib.hid (RdWB.fr HAa.out hF5 (by omega) (by omega))
  replace HXa := Lib.hid (HXa.out.fr hF5 (by omega))
  replace HB := Lib.hid (below_fr HB.out hF5 (by omega) (by omega))
  replace HG0 := Lib.hid (glob_fr HG0.out hF5 (by omega) (by omega))
  replace HSW := Lib.hid (HSW.out.fr hF5 (by omega))
  replace HXW := Lib.hid (HXW.out.fr hF5 (by omega))
  replace HSxa := Lib.hid (HSxa.out.fr hF5 (by omega))
  replace HXxa := Lib.hid (HXxa.out.fr hF5 (by omega))
  clear hF5
  have HSG := Lib.hid hsG
  clear hsG
  obtain ⟨X5, hX5⟩ : ∃ X, X = w5.alloc (.cells #[.slice BG mG dG, .slice CG qG fG] 28) := ⟨_, rfl⟩
  have hG5 : Fr 0 0 w5 X5 := by rw [hX5]; exact fr_alloc _ _
  have HXG : Hid (Box2 X5 w5.heap.size 28 (.slice BG mG dG) (.slice CG qG fG)) := Lib.hid (by rw [hX5]; exact box2_new _ _ _ _)
  have hsz5 : X5.heap.size = w5.heap.size + 1 := by rw [hX5]; simp
  have HH5 := Lib.hid hX5
  have q0HXa := HXa.out.cell0
  have q1HXa := HXa.out.cell1
  have q0HXW := HXW.out.cell0
  have q1HXW := HXW.out.cell1
  have q0HXxa := HXxa.out.cell0
  have q1HXxa := HXxa.out.cell1
  have a0HXa := fun o => (HXa.out.alloc o).cell0
  have a1HXa := fun o => (HXa.out.alloc o).cell1
  have a0HXW := fun o => (HXW.out.alloc o).cell0
  have a1HXW := fun o => (HXW.out.alloc o).cell1
  have a0HXxa := fun o => (HXxa.out.alloc o).cell0
  have a1HXxa := fun o => (HXxa.out.alloc o).cell1
  go_wp2_with fail
  clear q0HXa q1HXa q0HXW q1HXW q0HXxa q1HXxa a0HXa a1HXa a0HXW a1HXW a0HXxa a1HXxa
  rw [← HH5.out]
  have hzx5 := hG5.size
  replace HAa := Lib.hid (RdWB.fr HAa.out hG5 (by omega) (by omega))
  replace HXa := Lib.hid (HXa.out.fr hG5 (by omega))
  replace HB := Lib.hid (below_fr HB.out hG5 (by omega) (by omega))
  replace HG0 := Lib.hid (glob_fr HG0.out hG5 (by omega) (by omega))
  replace HSW := Lib.hid (HSW.out.fr hG5 (by omega))
  replace HXW := Lib.hid (HXW.out.fr hG5 (by omega))
  replace HSxa := Lib.hid (HSxa.out.fr hG5 (by omega))
  replace HXxa := Lib.hid (HXxa.out.fr hG5 (by omega))
  replace HSG := Lib.hid (HSG.out.fr hG5 (by omega))
  clear hX5 hG5
  refine (eqWeb_seg _ _ _ _ _ _ _ _ _ _ _ _ _ _ _ _ rx rr _ HSG.out HSW.out HND.out).mono ?_
  rintro e w6 ⟨rfl, hF6⟩
  have hz6 := hF6.size
  replace HAa := Lib.hid (RdWB.fr HAa.out hF6 (by omega) (by omega))
  replace HXa := Lib.hid (HXa.out.fr hF6 (by omega))
  replace HB := Lib.hid (below_fr HB.out hF6 (by omega) (by omega))
  replace HG0 := Lib.hid (glob_fr HG0.out hF6 (by omega) (by omega))
  replace HSW := Lib.hid (HSW.out.fr hF6 (by omega))
  replace HXW := Lib.hid (HXW.out.fr hF6 (by omega))
  replace HSxa := Lib.hid (HSxa.out.fr hF6 (by omega))
  replace HXxa := Lib.hid (HXxa.out.fr hF6 (by omega))
  replace HSG := Lib.hid (HSG.out.fr hF6 (by omega))
  replace HXG := Lib.hid (HXG.out.fr hF6 (by omega))
  clear hF6
  have q0HXa := HXa.out.cell0
  have q1HXa := HXa.out.cell1
  have q0HXW := HXW.out.cell0
  have q1HXW := HXW.out.cell1
  have q0HXxa := HXxa.out.cell0
  have q1HXxa := HXxa.out.cell1
  have q0HXG := HXG.out.cell0
  have q1HXG := HXG.out.cell1
  go_wp2_with fail
  clear q0HXa q1HXa q0HXW q1HXW q0HXxa q1HXxa q0HXG q1HXG
  have HK6 : Hid (∀ X, Fr 0 0 w6 X → X.cell? ⟨w.heap.size, 0, none⟩ = some (.slice Aa na ca) ∧ X.cell? ⟨w.heap.size, 1, none⟩ = some (.slice Ba ma da) ∧ X.cell? ⟨w4.heap.size, 0, none⟩ = some (.slice Bxa mxa dxa) ∧ X.cell? ⟨w4.heap.size, 1, none⟩ = some (.slice Cxa qxa fxa) ∧ Hid (Fr 0 0 w6 X)) := Lib.hid (fun X hX => ⟨(HXa.out.fr hX (by omega)).cell0, (HXa.out.fr hX (by omega)).cell1, (HXxa.out.fr hX (by omega)).cell0, (HXxa.out.fr hX (by omega)).cell1, Lib.hid hX⟩)
  go_region_held3 (fun X => X.cell? ⟨w.heap.size, 0, none⟩ = some (.slice Aa na ca) ∧ X.cell? ⟨w.heap.size, 1, none⟩ = some (.slice Ba ma da) ∧ X.cell? ⟨w4.heap.size, 0, none⟩ = some (.slice Bxa mxa dxa) ∧ X.cell? ⟨w4.heap.size, 1, none⟩ = some (.slice Cxa qxa fxa) ∧ Hid (Fr 0 0 w6 X)) ((refine HK6.out _ ?_; first | exact Hid.out (by assumption) | exact fr_drew _)) (first | (go_at_call 10; obtain ⟨_, _, _, _, hbb⟩ := ‹_ ∧ _ ∧ _ ∧ _ ∧ Hid (Fr 0 0 w6 _)›; refine (toWeb_seg Aa na ca Ba ma da xa ra _ (RdWB.rd (RdWB.fr HAa.out hbb.out (by omega) (by omega)) (by have := hbb.out.size; omega)) HMFa.out).mono ?_; rintro e v2 ⟨By, my, dy, Cy, qy, fy, rfl, hsy, hfy⟩; have HSY := Lib.hid hsy; have HFY := Lib.hid (fr_trans hbb.out hfy); clear hsy hfy hbb) | (go_at_call 12; obtain ⟨_, _, _, _, hbb⟩ := ‹_ ∧ _ ∧ _ ∧ _ ∧ Hid (Fr 0 0 w6 _)›; refine (eqWeb_seg _ _ _ _ _ _ _ _ _ _ _ _ _ _ _ _ xa ra _ (HSxa.out.fr hbb.out (by omega)) HSY.out HMFa.out).mono ?_; rintro e v3 ⟨rfl, hfy⟩; have HFZ := Lib.hid (fr_trans hbb.out hfy); clear hfy hbb))
  have hF7 := HFZ.out
  obtain ⟨w7, hw7⟩ : ∃ x, x = v3 := ⟨_, rfl⟩
  rw [← hw7] at hF7 ⊢
  have hz7 := hF7.size
  replace HAa := Lib.hid (RdWB.fr HAa.out hF7 (by omega) (by omega))
  replace HXa := Lib.hid (HXa.out.fr hF7 (by omega))
  replace HB := Lib.hid (below_fr HB.out hF7 (by omega) (by omega))
  replace HG0 := Lib.hid (glob_fr HG0.out hF7 (by omega) (by omega))
  replace HSW := Lib.hid (HSW.out.fr hF7 (by omega))
  replace HXW := Lib.hid (HXW.out.fr hF7 (by omega))
  replace HSxa := Lib.hid (HSxa.out.fr hF7 (by omega))
  replace HXxa := Lib.hid (HXxa.out.fr hF7 (by omega))
  replace HSG := Lib.hid (HSG.out.fr hF7 (by omega))
  replace HXG := Lib.hid (HXG.out.fr hF7 (by omega))
  clear hF7 HFZ HFY HSY hw7
  have q0HXa := HXa.out.cell0
  have q1HXa := HXa.out.cell1
  have q0HXW := HXW.out.cell0
  have q1HXW := HXW.out.cell1
  have q0HXxa := HXxa.out.cell0
  have q1HXxa := HXxa.out.cell1
  have q0HXG := HXG.out.cell0
  have q1HXG := HXG.out.cell1
  go_wp2_with fail
  clear q0HXa q1HXa q0HXW q1HXW q0HXxa q1HXxa q0HXG q1HXG
  refine (markWeb_seg _ _ _ _ _ _ _ _ xa ra (1) _ HSxa.out HMFa.out (by omega) (by omega)).mono ?_
  rintro e w8 ⟨rfl, hsxa, hF8⟩
  have hz8 := hF8.size
  replace HAa := Lib.hid (RdWB.fr HAa.out hF8 (by omega) (by omega))
  replace HXa := Lib.hid (HXa.out.fr hF8 (by omega))
  replace HB := Lib.hid (below_fr HB.out hF8 (by omega) (by omega))
  replace HG0 := Lib.hid (glob_fr HG0.out hF8 (by omega) (by omega))
  replace HSW := Lib.hid (HSW.out.fr hF8 (by omega))
  replace HXW := Lib.hid (HXW.out.fr hF8 (by omega))
  replace HXxa := Lib.hid (HXxa.out.fr hF8 (by omega))
  replace HSG := Lib.hid (HSG.out.fr hF8 (by omega))
  replace HXG := Lib.hid (HXG.out.fr hF8 (by omega))
  clear hF8
  clear HSxa hsxa
  have hko : ¬ (1 + xa.length + cells ra < (0 : Int)) := by omega
  have q0HXa := HXa.out.cell0
  have q1HXa := HXa.out.cell1
  have q0HXW := HXW.out.cell0
  have q1HXW := HXW.out.cell1
  have q0HXxa := HXxa.out.cell0
  have q1HXxa := HXxa.out.cell1
  have q0HXG := HXG.out.cell0
  have q1HXG := HXG.out.cell1
  go_wp2_with fail
  clear q0HXa q1HXa q0HXW q1HXW q0HXxa q1HXxa q0HXG q1HXG
  refine (eqWeb_seg _ _ _ _ _ _ _ _ _ _ _ _ _ _ _ _ rx rr _ HSG.out HSW.out HND.out).mono ?_
  rintro e w9 ⟨rfl, hF9⟩
  have hz9 := hF9.size
  replace HAa := Lib.hid (RdWB.fr HAa.out hF9 (by omega) (by omega))
  replace HXa := Lib.hid (HXa.out.fr hF9 (by omega))
  replace HB := Lib.hid (below_fr HB.out hF9 (by omega) (by omega))
  replace HG0 := Lib.hid (glob_fr HG0.out hF9 (by omega) (by omega))
  replace HSW := Lib.hid (HSW.out.fr hF9 (by omega))
  replace HXW := Lib.hid (HXW.out.fr hF9 (by omega))
  replace HXxa := Lib.hid (HXxa.out.fr hF9 (by omega))
  replace HSG := Lib.hid (HSG.out.fr hF9 (by omega))
  replace HXG := Lib.hid (HXG.out.fr hF9 (by omega))
  clear hF9
  have q0HXa := HXa.out.cell0
  have q1HXa := HXa.out.cell1
  have q0HXW := HXW.out.cell0
  have q1HXW := HXW.out.cell1
  have q0HXxa := HXxa.out.cell0
  have q1HXxa := HXxa.out.cell1
  have q0HXG := HXG.out.cell0
  have q1HXG := HXG.out.cell1
  go_wp2_with fail
  clear q0HXa q1HXa q0HXW q1HXW q0HXxa q1HXxa q0HXG q1HXG
  refine (markWeb_seg _ _ _ _ _ _ _ _ rx rr 1 _ HSG.out HND.out (by omega) (by omega)).mono ?_
  rintro e w10 ⟨rfl, hsG, hF10⟩
  have hz10 := hF10.size
  replace HAa := Lib.hid (RdWB.fr HAa.out hF10 (by omega) (by omega))
  replace HXa := Lib.hid (HXa.out.fr hF10 (by omega))
  replace HB := Lib.hid (below_fr HB.out hF10 (by omega) (by omega))
  replace HG0 := Lib.hid (glob_fr HG0.out hF10 (by omega) (by omega))
  replace HSW := Lib.hid (HSW.out.fr hF10 (by omega))
  replace HXW := Lib.hid (HXW.out.fr hF10 (by omega))
  replace HXxa := Lib.hid (HXxa.out.fr hF10 (by omega))
  replace HXG := Lib.hid (HXG.out.fr hF10 (by omega))
  clear hF10
  replace HSG := Lib.hid hsG
  clear hsG
  have q0HXa := HXa.out.cell0
  have q1HXa := HXa.out.cell1
  have q0HXW := HXW.out.cell0
  have q1HXW := HXW.out.cell1
  have q0HXxa := HXxa.out.cell0
  have q1HXxa := HXxa.out.cell1
  have q0HXG := HXG.out.cell0
  have q1HXG := HXG.out.cell1
  go_wp2_with fail
  clear q0HXa q1HXa q0HXW q1HXW q0HXxa q1HXxa q0HXG q1HXG
  refine (heldWeb_seg _ _ _ _ _ _ _ _ rx rr 1 _ HSG.out HND.out (by omega) (by omega)).mono ?_
  rintro e w11 ⟨rfl, hF11⟩
  have hz11 := hF11.size
  replace HAa := Lib.hid (RdWB.fr HAa.out hF11 (by omega) (by omega))
  replace HXa := Lib.hid (HXa.out.fr hF11 (by omega))
  replace HB := Lib.hid (below_fr HB.out hF11 (by omega) (by omega))
  replace HG0 := Lib.hid (glob_fr HG0.out hF11 (by omega) (by omega))
  replace HSW := Lib.hid (HSW.out.fr hF11 (by omega))
  replace HXW := Lib.hid (HXW.out.fr hF11 (by omega))
  replace HXxa := Lib.hid (HXxa.out.fr hF11 (by omega))
  replace HXG := Lib.hid (HXG.out.fr hF11 (by omega))
  replace HSG := Lib.hid (HSG.out.fr hF11 (by omega))
  clear hF11
  have q0HXa := HXa.out.cell0
  have q1HXa := HXa.out.cell1
  have q0HXW := HXW.out.cell0
  have q1HXW := HXW.out.cell1
  have q0HXxa := HXxa.out.cell0
  have q1HXxa := HXxa.out.cell1
  have q0HXG := HXG.out.cell0
  have q1HXG := HXG.out.cell1
  go_wp2_with fail
  clear q0HXa q1HXa q0HXW q1HXW q0HXxa q1HXxa q0HXG q1HXG
  refine (toWeb_seg Aa na ca Ba ma da xa ra _ (RdWB.rd HAa.out (by omega)) HMFa.out).mono ?_
  rintro e w12 ⟨Bza, mza, dza, Cza, qza, fza, rfl, hsza, hF12⟩
  have hz12 := hF12.size
  replace HAa := Lib.hid (RdWB.fr HAa.out hF12 (by omega) (by omega))
  replace HXa := Lib.hid (HXa.out.fr hF12 (by omega))
  replace HB := Lib.hid (below_fr HB.out hF12 (by omega) (by omega))
  replace HG0 := Lib.hid (glob_fr HG0.out hF12 (by omega) (by omega))
  replace HSW := Lib.hid (HSW.out.fr hF12 (by omega))
  replace HXW := Lib.hid (HXW.out.fr hF12 (by omega))
  replace HXxa := Lib.hid (HXxa.out.fr hF12 (by omega))
  replace HXG := Lib.hid (HXG.out.fr hF12 (by omega))
  replace HSG := Lib.hid (HSG.out.fr hF12 (by omega))
  clear hF12
  have HSza := Lib.hid hsza
  clear hsza
  have q0HXa := HXa.out.cell0
  have q1HXa := HXa.out.cell1
  have q0HXW := HXW.out.cell0
  have q1HXW := HXW.out.cell1
  have q0HXxa := HXxa.out.cell0
  have q1HXxa := HXxa.out.cell1
  have q0HXG := HXG.out.cell0
  have q1HXG := HXG.out.cell1
  go_wp2_with fail
  clear q0HXa q1HXa q0HXW q1HXW q0HXxa q1HXxa q0HXG q1HXG
  refine (GaveW.segr (implExchangeLegs_any _ _ _ _ _ _ xa ra k ea _ HSza.out.rdW HWa.out HMFa.out hik HG0.out (by omega)) HRR.out).mono ?_
  rintro e w13 ⟨BH, mH, dH, CH, qH, fH, rfl, hsH, hF13⟩
  have hz13 := hF13.size
  replace HAa := Lib.hid (RdWB.fr HAa.out hF13 (by omega) (by omega))
  replace HXa := Lib.hid (HXa.out.fr hF13 (by omega))
  replace HB := Lib.hid (below_fr HB.out hF13 (by omega) (by omega))
  replace HG0 := Lib.hid (glob_fr HG0.out hF13 (by omega) (by omega))
  replace HSW := Lib.hid (HSW.out.fr hF13 (by omega))
  replace HXW := Lib.hid (HXW.out.fr hF13 (by omega))
  replace HXxa := Lib.hid (HXxa.out.fr hF13 (by omega))
  replace HXG := Lib.hid (HXG.out.fr hF13 (by omega))
  replace HSG := Lib.hid (HSG.out.fr hF13 (by omega))
  replace HSza := Lib.hid (HSza.out.fr hF13 (by omega))
  clear hF13
  have HSH := Lib.hid hsH
  clear hsH
  obtain ⟨X13, hX13⟩ : ∃ X, X = w13.alloc (.cells #[.slice BH mH dH, .slice CH qH fH] 28) := ⟨_, rfl⟩
  have hG13 : Fr 0 0 w13 X13 := by rw [hX13]; exact fr_alloc _ _
  have HXH : Hid (Box2 X13 w13.heap.size 28 (.slice BH mH dH) (.slice CH qH fH)) := Lib.hid (by rw [hX13]; exact box2_new _ _ _ _)
  have hsz13 : X13.heap.size = w13.heap.size + 1 := by rw [hX13]; simp
  have HH13 := Lib.hid hX13
  have q0HXa := HXa.out.cell0
  have q1HXa := HXa.out.cell1
  have q0HXW := HXW.out.cell0
  have q1HXW := HXW.out.cell1
  have q0HXxa := HXxa.out.cell0
  have q1HXxa := HXxa.out.cell1
  have q0HXG := HXG.out.cell0
  have q1HXG := HXG.out.cell1
  have a0HXa := fun o => (HXa.out.alloc o).cell0
  have a1HXa := fun o => (HXa.out.alloc o).cell1
  have a0HXW := fun o => (HXW.out.alloc o).cell0
  have a1HXW := fun o => (HXW.out.alloc o).cell1
  have a0HXxa := fun o => (HXxa.out.alloc o).cell0
  have a1HXxa := fun o => (HXxa.out.alloc o).cell1
  have a0HXG := fun o => (HXG.out.alloc o).cell0
  have a1HXG := fun o => (HXG.out.alloc o).cell1
  go_wp2_with fail
  clear q0HXa q1HXa q0HXW q1HXW q0HXxa q1HXxa q0HXG q1HXG a0HXa a1HXa a0HXW a1HXW a0HXxa a1HXxa a0HXG a1HXG
  rw [← HH13.out]
  have hzx13 := hG13.size
  replace HAa := Lib.hid (RdWB.fr HAa.out hG13 (by omega) (by omega))
  replace HXa := Lib.hid (HXa.out.fr hG13 (by omega))
  replace HB := Lib.hid (below_fr HB.out hG13 (by omega) (by omega))
  replace HG0 := Lib.hid (glob_fr HG0.out hG13 (by omega) (by omega))
  replace HSW := Lib.hid (HSW.out.fr hG13 (by omega))
  replace HXW := Lib.hid (HXW.out.fr hG13 (by omega))
  replace HXxa := Lib.hid (HXxa.out.fr hG13 (by omega))
  replace HXG := Lib.hid (HXG.out.fr hG13 (by omega))
  replace HSG := Lib.hid (HSG.out.fr hG13 (by omega))
  replace HSza := Lib.hid (HSza.out.fr hG13 (by omega))
  replace HSH := Lib.hid (HSH.out.fr hG13 (by omega))
  clear hX13 hG13
  refine (eqWeb_seg _ _ _ _ _ _ _ _ _ _ _ _ _ _ _ _ rx rr _ HSH.out HSW.out HND.out).mono ?_
  rintro e w14 ⟨rfl, hF14⟩
  have hz14 := hF14.size
  replace HAa := Lib.hid (RdWB.fr HAa.out hF14 (by omega) (by omega))
  replace HXa := Lib.hid (HXa.out.fr hF14 (by omega))
  replace HB := Lib.hid (below_fr HB.out hF14 (by omega) (by omega))
  replace HG0 := Lib.hid (glob_fr HG0.out hF14 (by omega) (by omega))
  replace HSW := Lib.hid (HSW.out.fr hF14 (by omega))
  replace HXW := Lib.hid (HXW.out.fr hF14 (by omega))
  replace HXxa := Lib.hid (HXxa.out.fr hF14 (by omega))
  replace HXG := Lib.hid (HXG.out.fr hF14 (by omega))
  replace HSG := Lib.hid (HSG.out.fr hF14 (by omega))
  replace HSH := Lib.hid (HSH.out.fr hF14 (by omega))
  replace HXH := Lib.hid (HXH.out.fr hF14 (by omega))
  clear hF14
  have q0HXa := HXa.out.cell0
  have q1HXa := HXa.out.cell1
  have q0HXW := HXW.out.cell0
  have q1HXW := HXW.out.cell1
  have q0HXxa := HXxa.out.cell0
  have q1HXxa := HXxa.out.cell1
  have q0HXG := HXG.out.cell0
  have q1HXG := HXG.out.cell1
  have q0HXH := HXH.out.cell0
  have q1HXH := HXH.out.cell1
  go_wp2_with fail
  clear q0HXa q1HXa q0HXW q1HXW q0HXxa q1HXxa q0HXG q1HXG q0HXH q1HXH
  refine (heldWeb_seg _ _ _ _ _ _ _ _ rx rr 1 _ HSG.out HND.out (by omega) (by omega)).mono ?_
  rintro e w15 ⟨rfl, hF15⟩
  have hz15 := hF15.size
  replace HAa := Lib.hid (RdWB.fr HAa.out hF15 (by omega) (by omega))
  replace HXa := Lib.hid (HXa.out.fr hF15 (by omega))
  replace HB := Lib.hid (below_fr HB.out hF15 (by omega) (by omega))
  replace HG0 := Lib.hid (glob_fr HG0.out hF15 (by omega) (by omega))
  replace HSW := Lib.hid (HSW.out.fr hF15 (by omega))
  replace HXW := Lib.hid (HXW.out.fr hF15 (by omega))
  replace HXxa := Lib.hid (HXxa.out.fr hF15 (by omega))
  replace HXG := Lib.hid (HXG.out.fr hF15 (by omega))
  replace HSG := Lib.hid (HSG.out.fr hF15 (by omega))
  replace HSH := Lib.hid (HSH.out.fr hF15 (by omega))
  replace HXH := Lib.hid (HXH.out.fr hF15 (by omega))
  clear hF15
  go_wp2_with fail
  go_ret
  have hBB := HB.out
  first | exact ⟨rfl, hBB⟩ | (rw [← HWW.out] at hBB; exact ⟨rfl, hBB⟩) | (rw [HWW.out] at hBB; exact ⟨rfl, hBB⟩)

theorem lawExchangeLegs_lifted (os : Os) (started : os.Started) (H : Type) (enc : TypeId × Value → H) :
    ReturnsInHanded {} Tryd.checked os 6 .any (fun w args => (Rows.fnExactExchangeLegsSpec.pre enc Tryd.prog Tryd.f6 [] false w args ∧ laidMetH Tryd.prog Rows.fnExactExchangeLegsRow.laid w) ∧ sizedMet enc Tryd.prog Tryd.f6 (OpenSpec.ofChange Rows.fnExactExchangeLegsSpec) false w args)
      (Rows.fnExactExchangeLegsSpec.post enc Tryd.prog Tryd.f6 false true false false) := by
  refine returnsInHanded_of_change_and (C := Tryd.checked) (X := fun w _ => laidMetH Tryd.prog Rows.fnExactExchangeLegsRow.laid w) (fun _ _ _ hh h => h.of_heap hh) prog_own started (by kernel_rfl) Tryd.func6
    (ChangeSpec.witness_shaped (enc := enc) (C := Tryd.checked) (os := os) (X := fun w _ => laidMetH Tryd.prog Rows.fnExactExchangeLegsRow.laid w) false (World.doorLaid Tryd.prog 200 os) #[.agg #[.slice none 0 0, .slice none 0 0], .int .i64 0] 8 rfl (World.shaped_of_RefB (by kernel_rfl) (by kernel_rfl)) (by kernel_rfl) (by kernel_rfl) (by kernel_rfl) (door_met os _)) ?_
  intro W base args ds gs before hval0 hW _ _ hL _
  have hval : ∀ (j : Nat) t v, Tryd.f6.params[j]? = some t → args[j]? = some v → Value.okWide Tryd.prog W .any base t v := hval0
  have hW' := hW
  obtain ⟨p, q, hA0, hV0, rfl, hfz, hnd⟩ := hW
  have hA : DataW.TrodAll enc Tryd.prog W 0 (fun _ => true) true Tryd.f6.params.toList args.toList ds p := hA0
  have hV : DataW.TrodVars enc Tryd.prog W (fun _ => true) [errName] gs q := hV0
  rw [Tryd.params6] at hA hval
  obtain ⟨v0, vs0, d0, ds0, p0, q0, hargs0, rfl, rfl, h0, r0⟩ := trodAll_cons hA
  obtain ⟨v1, vs1, d1, ds1, p1, q1, hargs1, rfl, rfl, h1, r1⟩ := trodAll_cons r0
  obtain ⟨rfl, rfl, rfl⟩ := trodAll_nil r1
  obtain rfl : args = #[v0, v1] := by cases args; simp_all
  obtain ⟨ea, hv0, hg0⟩ := sentinel_of_laid (show laidMetH Tryd.prog errLaid W from hL)
  obtain ⟨rfl, rfl⟩ := hV.unique (err_read enc hv0 _)
  have hw0 : 0 < W.heap.size := heap_of_cell hg0
  clear hA0 hV0 hval0
  have hlt0 : ∀ x ∈ p0, x.block < W.heap.size := fun x hx => hW'.lt x (by simp [hx])
  obtain ⟨A0, n0, c0, B0, m0, e0, xs0, rs0, rfl, hr0, hwf0, hc0, hd0⟩ := open_web h0 hlt0 (hval 0 _ _ rfl rfl)
  have hh1 := h1
  obtain ⟨k1, rfl, rfl, rfl, wk1⟩ := open_int Tryd.underlying2 (hval 1 _ _ rfl rfl) hh1
  have hk0 : ∀ (W' : World), Below W.heap.size W W' → DataW.Trod enc Tryd.prog W' 0 (fun b => decide (b < W.heap.size)) true 25 (.agg #[.slice A0 n0 c0, .slice B0 m0 e0]) d0 p0 :=
    fun W' hn => Below.trod prog_laidOut (by kernel_rfl) (of_decide_eq_true (by kernel_rfl)) h0 hn hlt0
  refine (lawExchangeLegs_any A0 n0 c0 xs0 B0 m0 e0 rs0 k1 ea W hr0 hwf0 hc0 hd0 (wf_inv wk1) hg0 hw0).mono fun e W' ⟨he, hnx⟩ => ?_
  subst he
  exact ⟨_, rfl, _, _, _, _, _, _, hW', trodAll_cons_mk (shut_bool Tryd.underlying4 _) trodAll_mk0, (trodAll_cons_mk (hk0 _ hnx) (trodAll_cons_mk (shut_int Tryd.underlying2 wk1) trodAll_mk0)), err_read enc (err_kept hnx hv0) _, hnx.frame _, fun h => by cases h⟩

theorem lawExchangeLegs_holds : Rows.FnExactExchangeLegsSaid :=
  OpenClaim.holds_of_wide 6 Tryd.f6 rfl rfl rfl rfl rfl rfl rfl ⟨rfl, rfl, rfl, rfl, rfl⟩ rfl rfl rfl rfl rfl (by kernel_rfl) Tryd.func6 (by kernel_rfl)
    (of_decide_eq_true (by kernel_rfl)) (by unfold Func.isWrapper; first | (rw [if_pos (by decide +kernel)]; kernel_rfl) | (rw [if_neg (by decide +kernel)]; exact ⟨rfl, rfl⟩))
    (fun os started H enc _ => lawExchangeLegs_lifted os started H enc)
theorem lawExchangeLegs_card : Rows.FnExactExchangeLegsCardSaid :=
  Claim7.holds_tied_plain_at .later [] [.sentinel] true Rows.fnExactExchangeLegsCard.stood.harness true
    lawExchangeLegs_holds (fun _ h => by cases h) (by kernel_rfl) (fun _ h => by cases h) fnExactExchangeLegs_row_tie rfl ⟨rfl, rfl⟩ (by kernel_rfl) rfl
    (fun f fn hf hfn => by
      obtain rfl : f = 6 := Option.some.inj ((show Tryd.prog.funcNamed Rows.fnExactExchangeLegsRow.func = some 6 by kernel_rfl).symm.trans hf) |>.symm
      obtain rfl : fn = Tryd.f6 := (Option.some.inj (Tryd.func6.symm.trans hfn)).symm
      exact ⟨by kernel_rfl, fun j t ht => by
        rw [Tryd.params6] at ht
        have hm : t ∈ [25, 2] := by simpa using Array.mem_of_getElem? ht
        have hall : ([25, 2].all fun u => !Tryd.prog.wantsStandIn u) = true := by kernel_rfl
        exact (show Tryd.prog.wantsStandIn t = false by simpa using List.all_eq_true.1 hall t hm)⟩)
    (by kernel_rfl)
end Go.Proofs.YtdeefgmjlcdpfaaDoor
