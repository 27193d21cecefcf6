/- FnExactRotateSum: for every input the program's RotateSum answers as the model's, writes into no argument, and its answer owns its memory.
   No condition. -/
import Derived.Test.YtofcldplgkejiaaSumImpl2
import Derived.Test.YtofcldplgkejiaaSumSpecR
import Derived.Test.YtofcldplgkejiaaSumRow
import Derived.Test.YtofcldplgkejiaaSumGave
import Derived.Test.YtofcldplgkejiaaRow
import Derived.Deep.RegionHeld3
namespace Go.Proofs.Ytofcldplgkejiaa
open Go.ChangeShapes Go.WideShapes Go.ChangeAt Go.RowKit
set_option linter.unusedVariables false
set_option linter.unusedSimpArgs false
set_option maxRecDepth 100000

set_option maxHeartbeats 8000000 in
theorem lawRotateSum_any (pa : Int) (Aa : Option Addr) (na ca : Nat) (ta : Tms) (kk : Int) (w : World) (hra : RdT w Aa na ta) (hwa : WfT ta) (hpa : -9223372036854775808 ≤ pa ∧ pa ≤ 9223372036854775807) (hca : na ≤ 9223372036854775807) (hikk : -9223372036854775808 ≤ kk ∧ kk ≤ 9223372036854775807) :
    Calls Try.prog 11 #[.agg #[.int .i64 pa, .slice Aa na ca], .int .i64 kk] w fun e w' => e = .returned (.bool true) ∧ Below w.heap.size w w' := by
  obtain ⟨rp, rts, rz, hR⟩ : ∃ rp rts rz, rotateSum pa ta kk = ((rp, rts), rz) := ⟨_, _, _, rfl⟩
  have hnd : need rts ≤ 1048576 := by have h := (rotate_need pa ta kk); rw [hR] at h; exact h
  have HRR := Lib.hid hR
  clear hR
  have hrp : (rp != rp) = false := by simp
  have hrz : (rz != rz) = false := by simp
  have hq1 : ((1 + (need rts : Int)) != (1 + (need rts : Int))) = false := by simp
  obtain ⟨W, hW⟩ : ∃ W, W = w.alloc (.cells #[.int .i64 pa, .slice Aa na ca] 36) := ⟨_, rfl⟩
  have hF0 : Fr 0 0 w W := by rw [hW]; exact fr_alloc _ _
  have HXa : Hid (Box2 W (w.heap.size) 36 (.int .i64 pa) (.slice Aa na ca)) := Lib.hid (by rw [hW]; exact box2_new _ _ _ _)
  have HAa : Hid (RdTB W w.heap.size Aa na ta) := Lib.hid (RdTB.fr hra hF0 (by omega) (by omega))
  have HWa := Lib.hid hwa
  have HLa := Lib.hid hra.len
  have HB : Hid (Below w.heap.size w W) := Lib.hid (below_of_fr hF0)
  have hz0 := hF0.size
  have HWW := Lib.hid hW
  clear hW hF0 hra hwa
  go_enter Try.func11, Try.ntmps11
  by_cases hNa : (need ta : Int) ≤ 1048576
  case neg =>
    have q0HXa := HXa.out.cell0
    have q1HXa := HXa.out.cell1
    go_wp2_with fail
    rw [← HWW.out]
    clear q0HXa q1HXa
    refine (szSum_seg pa Aa na ca ta (1048576) _ (RdTB.rd HAa.out (by omega)) hca (by omega) (by omega)).mono ?_
    rintro e w1 ⟨rfl, hF1⟩
    have hz1 := hF1.size
    replace HAa := Lib.hid (RdTB.fr HAa.out hF1 (by omega) (by omega))
    replace HXa := Lib.hid (HXa.out.fr hF1 (by omega))
    replace HB := Lib.hid (below_fr HB.out hF1 (by omega) (by omega))
    clear hF1
    rw [show left (1048576) ta = -1 from by unfold left; rw [if_neg (by omega)]]
    go_wp2_with fail
    go_ret
    exact ⟨rfl, HB.out⟩
  have q0HXa := HXa.out.cell0
  have q1HXa := HXa.out.cell1
  go_wp2_with fail
  rw [← HWW.out]
  clear q0HXa q1HXa
  refine (szSum_seg pa Aa na ca ta (1048576) _ (RdTB.rd HAa.out (by omega)) hca (by omega) (by omega)).mono ?_
  rintro e w1 ⟨rfl, hF1⟩
  have hz1 := hF1.size
  replace HAa := Lib.hid (RdTB.fr HAa.out hF1 (by omega) (by omega))
  replace HXa := Lib.hid (HXa.out.fr hF1 (by omega))
  replace HB := Lib.hid (below_fr HB.out hF1 (by omega) (by omega))
  clear hF1
  rw [show left (1048576) ta = 1048576 - need ta from by unfold left; rw [if_pos (by omega)]]
  have hlta : ¬ (1048576 - (need ta : Int) < 0) := by omega
  have hma : need ta ≤ 1048576 := by omega
  have q0HXa := HXa.out.cell0
  have q1HXa := HXa.out.cell1
  go_wp2_with fail
  clear q0HXa q1HXa
  refine (toSum_seg pa Aa na ca ta _ (RdTB.rd HAa.out (by omega)) hma).mono ?_
  rintro e w2 ⟨Baa, maa, daa, rfl, hsaa, hF2⟩
  have hz2 := hF2.size
  replace HAa := Lib.hid (RdTB.fr HAa.out hF2 (by omega) (by omega))
  replace HXa := Lib.hid (HXa.out.fr hF2 (by omega))
  replace HB := Lib.hid (below_fr HB.out hF2 (by omega) (by omega))
  clear hF2
  have HSaa := Lib.hid hsaa
  clear hsaa
  have q0HXa := HXa.out.cell0
  have q1HXa := HXa.out.cell1
  go_wp2_with fail
  clear q0HXa q1HXa
  refine (GaveS.segr (specRotateSum_any pa _ _ _ ta kk _ HSaa.out.rd HWa.out hma hpa hikk) HRR.out).mono ?_
  rintro e w3 ⟨BW, mW, dW, rfl, hsW, hF3⟩
  have hz3 := hF3.size
  replace HAa := Lib.hid (RdTB.fr HAa.out hF3 (by omega) (by omega))
  replace HXa := Lib.hid (HXa.out.fr hF3 (by omega))
  replace HB := Lib.hid (below_fr HB.out hF3 (by omega) (by omega))
  replace HSaa := Lib.hid (HSaa.out.fr hF3 (by omega))
  clear hF3
  have HSW := Lib.hid hsW
  clear hsW
  obtain ⟨X3, hX3⟩ : ∃ X, X = w3.alloc (.cells #[.int .i64 rp, .slice BW mW dW] 25) := ⟨_, rfl⟩
  have hG3 : Fr 0 0 w3 X3 := by rw [hX3]; exact fr_alloc _ _
  have HXW : Hid (Box2 X3 w3.heap.size 25 (.int .i64 rp) (.slice BW mW dW)) := Lib.hid (by rw [hX3]; exact box2_new _ _ _ _)
  have hsz3 : X3.heap.size = w3.heap.size + 1 := by rw [hX3]; simp
  have HH3 := Lib.hid hX3
  have q0HXa := HXa.out.cell0
  have q1HXa := HXa.out.cell1
  have a0HXa := fun o => (HXa.out.alloc o).cell0
  have a1HXa := fun o => (HXa.out.alloc o).cell1
  go_wp2_with fail
  clear q0HXa q1HXa a0HXa a1HXa
  rw [← HH3.out]
  have hzx3 := hG3.size
  replace HAa := Lib.hid (RdTB.fr HAa.out hG3 (by omega) (by omega))
  replace HXa := Lib.hid (HXa.out.fr hG3 (by omega))
  replace HB := Lib.hid (below_fr HB.out hG3 (by omega) (by omega))
  replace HSaa := Lib.hid (HSaa.out.fr hG3 (by omega))
  replace HSW := Lib.hid (HSW.out.fr hG3 (by omega))
  clear hX3 hG3
  refine (toSum_seg pa Aa na ca ta _ (RdTB.rd HAa.out (by omega)) hma).mono ?_
  rintro e w4 ⟨Bxa, mxa, dxa, rfl, hsxa, hF4⟩
  have hz4 := hF4.size
  replace HAa := Lib.hid (RdTB.fr HAa.out hF4 (by omega) (by omega))
  replace HXa := Lib.hid (HXa.out.fr hF4 (by omega))
  replace HB := Lib.hid (below_fr HB.out hF4 (by omega) (by omega))
  replace HSW := Lib.hid (HSW.out.fr hF4 (by omega))
  replace HXW := Lib.hid (HXW.out.fr hF4 (by omega))
  clear hF4
  have HSxa := Lib.hid hsxa
  clear hsxa
  obtain ⟨X4, hX4⟩ : ∃ X, X = w4.alloc (.cells #[.int .i64 pa, .slice Bxa mxa dxa] 25) := ⟨_, rfl⟩
  have hG4 : Fr 0 0 w4 X4 := by rw [hX4]; exact fr_alloc _ _
  have HXxa : Hid (Box2 X4 w4.heap.size 25 (.int .i64 pa) (.slice Bxa mxa dxa)) := Lib.hid (by rw [hX4]; exact box2_new _ _ _ _)
  have hsz4 : X4.heap.size = w4.heap.size + 1 := by rw [hX4]; simp
  have HH4 := Lib.hid hX4
  have q0HXa := HXa.out.cell0
  have q1HXa := HXa.out.cell1
  have q0HXW := HXW.out.cell0
  have q1HXW := HXW.out.cell1
  have a0HXa := fun o => (HXa.out.alloc o).cell0
  have a1HXa := fun o => (HXa.out.alloc o).cell1
  have a0HXW := fun o => (HXW.out.alloc o).cell0
  have a1HXW := fun o => (HXW.out.alloc o).cell1
  go_wp2_with fail
  clear q0HXa q1HXa q0HXW q1HXW a0HXa a1HXa a0HXW a1HXW
  rw [← HH4.out]
  have hzx4 := hG4.size
  replace HAa := Lib.hid (RdTB.fr HAa.out hG4 (by omega) (by omega))
  replace HXa := Lib.hid (HXa.out.fr hG4 (by omega))
  replace HB := Lib.hid (below_fr HB.out hG4 (by omega) (by omega))
  replace HSW := Lib.hid (HSW.out.fr hG4 (by omega))
  replace HXW := Lib.hid (HXW.out.fr hG4 (by omega))
  replace HSxa := Lib.hid (HSxa.out.fr hG4 (by omega))
  clear hX4 hG4
  have q0HXa := HXa.out.cell0
  have q1HXa := HXa.out.cell1
  have q0HXW := HXW.out.cell0
  have q1HXW := HXW.out.cell1
  have q0HXxa := HXxa.out.cell0
  have q1HXxa := HXxa.out.cell1
  go_wp2_with fail
  clear q0HXa q1HXa q0HXW q1HXW q0HXxa q1HXxa
  refine (GaveS.segr (implRotateSum_any pa _ _ _ ta kk _ HSxa.out.rd HWa.out hma hpa hikk) HRR.out).mono ?_
  rintro e w5 ⟨BG, mG, dG, rfl, hsG, hF5⟩
  have hz5 := hF5.size
  replace HAa := Lib.hid (RdTB.fr HAa.out hF5 (by omega) (by omega))
  replace HXa := Lib.hid (HXa.out.fr hF5 (by omega))
  replace HB := Lib.hid (below_fr HB.out hF5 (by omega) (by omega))
  replace HSW := Lib.hid (HSW.out.fr hF5 (by omega))
  replace HXW := Lib.hid (HXW.out.fr hF5 (by omega))
  replace HSxa := Lib.hid (HSxa.out.fr hF5 (by omega))
  replace HXxa := Lib.hid (HXxa.out.fr hF5 (by omega))
  clear hF5
  have HSG := Lib.hid hsG
  clear hsG
  obtain ⟨X5, hX5⟩ : ∃ X, X = w5.alloc (.cells #[.int .i64 rp, .slice BG mG dG] 25) := ⟨_, rfl⟩
  have hG5 : Fr 0 0 w5 X5 := by rw [hX5]; exact fr_alloc _ _
  have HXG : Hid (Box2 X5 w5.heap.size 25 (.int .i64 rp) (.slice BG mG dG)) := Lib.hid (by rw [hX5]; exact box2_new _ _ _ _)
  have hsz5 : X5.heap.size = w5.heap.size + 1 := by rw [hX5]; simp
  have HH5 := Lib.hid hX5
  have q0HXa := HXa.out.cell0
  have q1HXa := HXa.out.cell1
  have q0HXW := HXW.out.cell0
  have q1HXW := HXW.out.cell1
  have q0HXxa := HXxa.out.cell0
  have q1HXxa := HXxa.out.cell1
  have a0HXa := fun o => (HXa.out.alloc o).cell0
  have a1HXa := fun o => (HXa.out.alloc o).cell1
  have a0HXW := fun o => (HXW.out.alloc o).cell0
  have a1HXW := fun o => (HXW.out.alloc o).cell1
  have a0HXxa := fun o => (HXxa.out.alloc o).cell0
  have a1HXxa := fun o => (HXxa.out.alloc o).cell1
  go_wp2_with fail
  clear q0HXa q1HXa q0HXW q1HXW q0HXxa q1HXxa a0HXa a1HXa a0HXW a1HXW a0HXxa a1HXxa
  rw [← HH5.out]
  have hzx5 := hG5.size
  replace HAa := Lib.hid (RdTB.fr HAa.out hG5 (by omega) (by omega))
  replace HXa := Lib.hid (HXa.out.fr hG5 (by omega))
  replace HB := Lib.hid (below_fr HB.out hG5 (by omega) (by omega))
  replace HSW := Lib.hid (HSW.out.fr hG5 (by omega))
  replace HXW := Lib.hid (HXW.out.fr hG5 (by omega))
  replace HSxa := Lib.hid (HSxa.out.fr hG5 (by omega))
  replace HXxa := Lib.hid (HXxa.out.fr hG5 (by omega))
  replace HSG := Lib.hid (HSG.out.fr hG5 (by omega))
  clear hX5 hG5
  refine (eqSum_seg rp _ _ _ _ _ _ rts _ HSG.out.rd HSW.out.rd hnd).mono ?_
  rintro e w6 ⟨rfl, hF6⟩
  have hz6 := hF6.size
  replace HAa := Lib.hid (RdTB.fr HAa.out hF6 (by omega) (by omega))
  replace HXa := Lib.hid (HXa.out.fr hF6 (by omega))
  replace HB := Lib.hid (below_fr HB.out hF6 (by omega) (by omega))
  replace HSW := Lib.hid (HSW.out.fr hF6 (by omega))
  replace HXW := Lib.hid (HXW.out.fr hF6 (by omega))
  replace HSxa := Lib.hid (HSxa.out.fr hF6 (by omega))
  replace HXxa := Lib.hid (HXxa.out.fr hF6 (by omega))
  replace HSG := Lib.hid (HSG.out.fr hF6 (by omega))
  replace HXG := Lib.hid (HXG.out.fr hF6 (by omega))
  clear hF6
  have q0HXa := HXa.out.cell0
  have q1HXa := HXa.out.cell1
  have q0HXW := HXW.out.cell0
  have q1HXW := HXW.out.cell1
  have q0HXxa := HXxa.out.cell0
  have q1HXxa := HXxa.out.cell1
  have q0HXG := HXG.out.cell0
  have q1HXG := HXG.out.cell1
  go_wp2_with fail
  clear q0HXa q1HXa q0HXW q1HXW q0HXxa q1HXxa q0HXG q1HXG
  have HK6 : Hid (∀ X, Fr 0 0 w6 X → X.cell? ⟨w.heap.size, 0, none⟩ = some (.int .i64 pa) ∧ X.cell? ⟨w.heap.size, 1, none⟩ = some (.slice Aa na ca) ∧ X.cell? ⟨w4.heap.size, 0, none⟩ = some (.int .i64 pa) ∧ X.cell? ⟨w4.heap.size, 1, none⟩ = some (.slice Bxa mxa dxa) ∧ Hid (Fr 0 0 w6 X)) := Lib.hid (fun X hX => ⟨(HXa.out.fr hX (by omega)).cell0, (HXa.out.fr hX (by omega)).cell1, (HXxa.out.fr hX (by omega)).cell0, (HXxa.out.fr hX (by omega)).cell1, Lib.hid hX⟩)
  go_region_held3 (fun X => X.cell? ⟨w.heap.size, 0, none⟩ = some (.int .i64 pa) ∧ X.cell? ⟨w.heap.size, 1, none⟩ = some (.slice Aa na ca) ∧ X.cell? ⟨w4.heap.size, 0, none⟩ = some (.int .i64 pa) ∧ X.cell? ⟨w4.heap.size, 1, none⟩ = some (.slice Bxa mxa dxa) ∧ Hid (Fr 0 0 w6 X)) ((refine HK6.out _ ?_; first | exact Hid.out (by assumption) | exact fr_drew _)) (first | (go_at_call 25; obtain ⟨_, _, _, _, hbb⟩ := ‹_ ∧ _ ∧ _ ∧ _ ∧ Hid (Fr 0 0 w6 _)›; refine (toSum_seg pa Aa na ca ta _ (RdTB.rd (RdTB.fr HAa.out hbb.out (by omega) (by omega)) (by have := hbb.out.size; omega)) hma).mono ?_; rintro e v2 ⟨By, my, dy, rfl, hsy, hfy⟩; have HSY := Lib.hid hsy.rd; have HFY := Lib.hid (fr_trans hbb.out hfy); clear hsy hfy hbb) | (go_at_call 18; obtain ⟨_, _, _, _, hbb⟩ := ‹_ ∧ _ ∧ _ ∧ _ ∧ Hid (Fr 0 0 w6 _)›; refine (eqSum_seg pa _ _ _ _ _ _ ta _ ((HSxa.out.fr hbb.out (by omega)).rd) HSY.out hma).mono ?_; rintro e v3 ⟨rfl, hfy⟩; have HFZ := Lib.hid (fr_trans hbb.out hfy); clear hfy hbb))
  have hF7 := HFZ.out
  obtain ⟨w7, hw7⟩ : ∃ x, x = v3 := ⟨_, rfl⟩
  rw [← hw7] at hF7 ⊢
  have hz7 := hF7.size
  replace HAa := Lib.hid (RdTB.fr HAa.out hF7 (by omega) (by omega))
  replace HXa := Lib.hid (HXa.out.fr hF7 (by omega))
  replace HB := Lib.hid (below_fr HB.out hF7 (by omega) (by omega))
  replace HSW := Lib.hid (HSW.out.fr hF7 (by omega))
  replace HXW := Lib.hid (HXW.out.fr hF7 (by omega))
  replace HSxa := Lib.hid (HSxa.out.fr hF7 (by omega))
  replace HXxa := Lib.hid (HXxa.out.fr hF7 (by omega))
  replace HSG := Lib.hid (HSG.out.fr hF7 (by omega))
  replace HXG := Lib.hid (HXG.out.fr hF7 (by omega))
  clear hF7 HFZ HFY HSY hw7
  have q0HXa := HXa.out.cell0
  have q1HXa := HXa.out.cell1
  have q0HXW := HXW.out.cell0
  have q1HXW := HXW.out.cell1
  have q0HXxa := HXxa.out.cell0
  have q1HXxa := HXxa.out.cell1
  have q0HXG := HXG.out.cell0
  have q1HXG := HXG.out.cell1
  go_wp2_with fail
  clear q0HXa q1HXa q0HXW q1HXW q0HXxa q1HXxa q0HXG q1HXG
  refine (markSum_seg pa _ _ _ _ _ ta (1) _ HSxa.out (by omega) hma (by omega) (by omega)).mono ?_
  rintro e w8 ⟨rfl, hsxa, hF8⟩
  have hz8 := hF8.size
  replace HAa := Lib.hid (RdTB.fr HAa.out hF8 (by omega) (by omega))
  replace HXa := Lib.hid (HXa.out.fr hF8 (by omega))
  replace HB := Lib.hid (below_fr HB.out hF8 (by omega) (by omega))
  replace HSW := Lib.hid (HSW.out.fr hF8 (by omega))
  replace HXW := Lib.hid (HXW.out.fr hF8 (by omega))
  replace HXxa := Lib.hid (HXxa.out.fr hF8 (by omega))
  replace HSG := Lib.hid (HSG.out.fr hF8 (by omega))
  replace HXG := Lib.hid (HXG.out.fr hF8 (by omega))
  clear hF8
  clear HSxa hsxa
  have hko : ¬ (1 + need ta < (0 : Int)) := by omega
  have q0HXa := HXa.out.cell0
  have q1HXa := HXa.out.cell1
  have q0HXW := HXW.out.cell0
  have q1HXW := HXW.out.cell1
  have q0HXxa := HXxa.out.cell0
  have q1HXxa := HXxa.out.cell1
  have q0HXG := HXG.out.cell0
  have q1HXG := HXG.out.cell1
  go_wp2_with fail
  clear q0HXa q1HXa q0HXW q1HXW q0HXxa q1HXxa q0HXG q1HXG
  refine (eqSum_seg rp _ _ _ _ _ _ rts _ HSG.out.rd HSW.out.rd hnd).mono ?_
  rintro e w9 ⟨rfl, hF9⟩
  have hz9 := hF9.size
  replace HAa := Lib.hid (RdTB.fr HAa.out hF9 (by omega) (by omega))
  replace HXa := Lib.hid (HXa.out.fr hF9 (by omega))
  replace HB := Lib.hid (below_fr HB.out hF9 (by omega) (by omega))
  replace HSW := Lib.hid (HSW.out.fr hF9 (by omega))
  replace HXW := Lib.hid (HXW.out.fr hF9 (by omega))
  replace HXxa := Lib.hid (HXxa.out.fr hF9 (by omega))
  replace HSG := Lib.hid (HSG.out.fr hF9 (by omega))
  replace HXG := Lib.hid (HXG.out.fr hF9 (by omega))
  clear hF9
  have q0HXa := HXa.out.cell0
  have q1HXa := HXa.out.cell1
  have q0HXW := HXW.out.cell0
  have q1HXW := HXW.out.cell1
  have q0HXxa := HXxa.out.cell0
  have q1HXxa := HXxa.out.cell1
  have q0HXG := HXG.out.cell0
  have q1HXG := HXG.out.cell1
  go_wp2_with fail
  clear q0HXa q1HXa q0HXW q1HXW q0HXxa q1HXxa q0HXG q1HXG
  refine (markSum_seg rp _ _ _ _ _ rts 1 _ HSG.out (by omega) hnd (by omega) (by omega)).mono ?_
  rintro e w10 ⟨rfl, hsG, hF10⟩
  have hz10 := hF10.size
  replace HAa := Lib.hid (RdTB.fr HAa.out hF10 (by omega) (by omega))
  replace HXa := Lib.hid (HXa.out.fr hF10 (by omega))
  replace HB := Lib.hid (below_fr HB.out hF10 (by omega) (by omega))
  replace HSW := Lib.hid (HSW.out.fr hF10 (by omega))
  replace HXW := Lib.hid (HXW.out.fr hF10 (by omega))
  replace HXxa := Lib.hid (HXxa.out.fr hF10 (by omega))
  replace HXG := Lib.hid (HXG.out.fr hF10 (by omega))
  clear hF10
  replace HSG := Lib.hid hsG
  clear hsG
  have q0HXa := HXa.out.cell0
  have q1HXa := HXa.out.cell1
  have q0HXW := HXW.out.cell0
  have q1HXW := HXW.out.cell1
  have q0HXxa := HXxa.out.cell0
  have q1HXxa := HXxa.out.cell1
  have q0HXG := HXG.out.cell0
  have q1HXG := HXG.out.cell1
  go_wp2_with fail
  clear q0HXa q1HXa q0HXW q1HXW q0HXxa q1HXxa q0HXG q1HXG
  refine (heldSum_seg rp _ _ _ _ _ rts 1 _ HSG.out hnd (by omega) (by omega)).mono ?_
  rintro e w11 ⟨rfl, hF11⟩
  have hz11 := hF11.size
  replace HAa := Lib.hid (RdTB.fr HAa.out hF11 (by omega) (by omega))
  replace HXa := Lib.hid (HXa.out.fr hF11 (by omega))
  replace HB := Lib.hid (below_fr HB.out hF11 (by omega) (by omega))
  replace HSW := Lib.hid (HSW.out.fr hF11 (by omega))
  replace HXW := Lib.hid (HXW.out.fr hF11 (by omega))
  replace HXxa := Lib.hid (HXxa.out.fr hF11 (by omega))
  replace HXG := Lib.hid (HXG.out.fr hF11 (by omega))
  replace HSG := Lib.hid (HSG.out.fr hF11 (by omega))
  clear hF11
  have q0HXa := HXa.out.cell0
  have q1HXa := HXa.out.cell1
  have q0HXW := HXW.out.cell0
  have q1HXW := HXW.out.cell1
  have q0HXxa := HXxa.out.cell0
  have q1HXxa := HXxa.out.cell1
  have q0HXG := HXG.out.cell0
  have q1HXG := HXG.out.cell1
  go_wp2_with fail
  clear q0HXa q1HXa q0HXW q1HXW q0HXxa q1HXxa q0HXG q1HXG
  refine (toSum_seg pa Aa na ca ta _ (RdTB.rd HAa.out (by omega)) hma).mono ?_
  rintro e w12 ⟨Bza, mza, dza, rfl, hsza, hF12⟩
  have hz12 := hF12.size
  replace HAa := Lib.hid (RdTB.fr HAa.out hF12 (by omega) (by omega))
  replace HXa := Lib.hid (HXa.out.fr hF12 (by omega))
  replace HB := Lib.hid (below_fr HB.out hF12 (by omega) (by omega))
  replace HSW := Lib.hid (HSW.out.fr hF12 (by omega))
  replace HXW := Lib.hid (HXW.out.fr hF12 (by omega))
  replace HXxa := Lib.hid (HXxa.out.fr hF12 (by omega))
  replace HXG := Lib.hid (HXG.out.fr hF12 (by omega))
  replace HSG := Lib.hid (HSG.out.fr hF12 (by omega))
  clear hF12
  have HSza := Lib.hid hsza
  clear hsza
  have q0HXa := HXa.out.cell0
  have q1HXa := HXa.out.cell1
  have q0HXW := HXW.out.cell0
  have q1HXW := HXW.out.cell1
  have q0HXxa := HXxa.out.cell0
  have q1HXxa := HXxa.out.cell1
  have q0HXG := HXG.out.cell0
  have q1HXG := HXG.out.cell1
  go_wp2_with fail
  clear q0HXa q1HXa q0HXW q1HXW q0HXxa q1HXxa q0HXG q1HXG
  refine (GaveS.segr (implRotateSum_any pa _ _ _ ta kk _ HSza.out.rd HWa.out hma hpa hikk) HRR.out).mono ?_
  rintro e w13 ⟨BH, mH, dH, rfl, hsH, hF13⟩
  have hz13 := hF13.size
  replace HAa := Lib.hid (RdTB.fr HAa.out hF13 (by omega) (by omega))
  replace HXa := Lib.hid (HXa.out.fr hF13 (by omega))
  replace HB := Lib.hid (below_fr HB.out hF13 (by omega) (by omega))
  replace HSW := Lib.hid (HSW.out.fr hF13 (by omega))
  replace HXW := Lib.hid (HXW.out.fr hF13 (by omega))
  replace HXxa := Lib.hid (HXxa.out.fr hF13 (by omega))
  replace HXG := Lib.hid (HXG.out.fr hF13 (by omega))
  replace HSG := Lib.hid (HSG.out.fr hF13 (by omega))
  replace HSza := Lib.hid (HSza.out.fr hF13 (by omega))
  clear hF13
  have HSH := Lib.hid hsH
  clear hsH
  obtain ⟨X13, hX13⟩ : ∃ X, X = w13.alloc (.cells #[.int .i64 rp, .slice BH mH dH] 25) := ⟨_, rfl⟩
  have hG13 : Fr 0 0 w13 X13 := by rw [hX13]; exact fr_alloc _ _
  have HXH : Hid (Box2 X13 w13.heap.size 25 (.int .i64 rp) (.slice BH mH dH)) := Lib.hid (by rw [hX13]; exact box2_new _ _ _ _)
  have hsz13 : X13.heap.size = w13.heap.size + 1 := by rw [hX13]; simp
  have HH13 := Lib.hid hX13
  have q0HXa := HXa.out.cell0
  have q1HXa := HXa.out.cell1
  have q0HXW := HXW.out.cell0
  have q1HXW := HXW.out.cell1
  have q0HXxa := HXxa.out.cell0
  have q1HXxa := HXxa.out.cell1
  have q0HXG := HXG.out.cell0
  have q1HXG := HXG.out.cell1
  have a0HXa := fun o => (HXa.out.alloc o).cell0
  have a1HXa := fun o => (HXa.out.alloc o).cell1
  have a0HXW := fun o => (HXW.out.alloc o).cell0
  have a1HXW := fun o => (HXW.out.alloc o).cell1
  have a0HXxa := fun o => (HXxa.out.alloc o).cell0
  have a1HXxa := fun o => (HXxa.out.alloc o).cell1
  have a0HXG := fun o => (HXG.out.alloc o).cell0
  have a1HXG := fun o => (HXG.out.alloc o).cell1
  go_wp2_with fail
  clear q0HXa q1HXa q0HXW q1HXW q0HXxa q1HXxa q0HXG q1HXG a0HXa a1HXa a0HXW a1HXW a0HXxa a1HXxa a0HXG a1HXG
  rw [← HH13.out]
  have hzx13 := hG13.size
  replace HAa := Lib.hid (RdTB.fr HAa.out hG13 (by omega) (by omega))
  replace HXa := Lib.hid (HXa.out.fr hG13 (by omega))
  replace HB := Lib.hid (below_fr HB.out hG13 (by omega) (by omega))
  replace HSW := Lib.hid (HSW.out.fr hG13 (by omega))
  replace HXW := Lib.hid (HXW.out.fr hG13 (by omega))
  replace HXxa := Lib.hid (HXxa.out.fr hG13 (by omega))
  replace HXG := Lib.hid (HXG.out.fr hG13 (by omega))
  replace HSG := Lib.hid (HSG.out.fr hG13 (by omega))
  replace HSza := Lib.hid (HSza.out.fr hG13 (by omega))
  replace HSH := Lib.hid (HSH.out.fr hG13 (by omega))
  clear hX13 hG13
  refine (eqSum_seg rp _ _ _ _ _ _ rts _ HSH.out.rd HSW.out.rd hnd).mono ?_
  rintro e w14 ⟨rfl, hF14⟩
  have hz14 := hF14.size
  replace HAa := Lib.hid (RdTB.fr HAa.out hF14 (by omega) (by omega))
  replace HXa := Lib.hid (HXa.out.fr hF14 (by omega))
  replace HB := Lib.hid (below_fr HB.out hF14 (by omega) (by omega))
  replace HSW := Lib.hid (HSW.out.fr hF14 (by omega))
  replace HXW := Lib.hid (HXW.out.fr hF14 (by omega))
  replace HXxa := Lib.hid (HXxa.out.fr hF14 (by omega))
  replace HXG := Lib.hid (HXG.out.fr hF14 (by omega))
  replace HSG := Lib.hid (HSG.out.fr hF14 (by omega))
  replace HSH := Lib.hid (HSH.out.fr hF14 (by omega))
  replace HXH := Lib.hid (HXH.out.fr hF14 (by omega))
  clear hF14
  have q0HXa := HXa.out.cell0
  have q1HXa := HXa.out.cell1
  have q0HXW := HXW.out.cell0
  have q1HXW := HXW.out.cell1
  have q0HXxa := HXxa.out.cell0
  have q1HXxa := HXxa.out.cell1
  have q0HXG := HXG.out.cell0
  have q1HXG := HXG.out.cell1
  have q0HXH := HXH.out.cell0
  have q1HXH := HXH.out.cell1
  go_wp2_with fail
  clear q0HXa q1HXa q0HXW q1HXW q0HXxa q1HXxa q0HXG q1HXG q0HXH q1HXH
  refine (heldSum_seg rp _ _ _ _ _ rts 1 _ HSG.out hnd (by omega) (by omega)).mono ?_
  rintro e w15 ⟨rfl, hF15⟩
  have hz15 := hF15.size
  replace HAa := Lib.hid (RdTB.fr HAa.out hF15 (by omega) (by omega))
  replace HXa := Lib.hid (HXa.out.fr hF15 (by omega))
  replace HB := Lib.hid (below_fr HB.out hF15 (by omega) (by omega))
  replace HSW := Lib.hid (HSW.out.fr hF15 (by omega))
  replace HXW := Lib.hid (HXW.out.fr hF15 (by omega))
  replace HXxa := Lib.hid (HXxa.out.fr hF15 (by omega))
  replace HXG := Lib.hid (HXG.out.fr hF15 (by omega))
  replace HSG := Lib.hid (HSG.out.fr hF15 (by omega))
  replace HSH := Lib.hid (HSH.out.fr hF15 (by omega))
  replace HXH := Lib.hid (HXH.out.fr hF15 (by omega))
  clear hF15
  go_wp2_with fail
  go_ret
  have hBB := HB.out
  first | exact ⟨rfl, hBB⟩ | (rw [← HWW.out] at hBB; exact ⟨rfl, hBB⟩) | (rw [HWW.out] at hBB; exact ⟨rfl, hBB⟩)

theorem lawRotateSum_lifted (os : Os) (started : os.Started) (H : Type) (enc : TypeId × Value → H) :
    ReturnsInHanded {} Try.checked os 11 .any (Rows.fnExactRotateSumSpec.pre6 enc Try.prog Try.f11 Rows.fnExactRotateSumRow.domain false) (Rows.fnExactRotateSumSpec.post enc Try.prog Try.f11 false true false false) := by
  refine returnsInHanded_of_change (C := Try.checked) prog_own started (by kernel_rfl) Try.func11
    (ChangeSpec.witness6 (enc := enc) (C := Try.checked) false ⟨#[], #[.agg #[.int .i64 0, .slice none 0 0], .int .i64 0], []⟩ 8 (by kernel_rfl) (by kernel_rfl) (by kernel_rfl) (by kernel_rfl)) ?_
  intro W base args ds gs before hval0 hW hcnd _
  have hval : ∀ (j : Nat) t v, Try.f11.params[j]? = some t → args[j]? = some v → Value.okWide Try.prog W .any base t v := hval0
  have hW' := hW
  obtain ⟨p, q, hA0, hV, rfl, hfz, hnd⟩ := hW
  have hA : DataW.TrodAll enc Try.prog W 0 (fun _ => true) true Try.f11.params.toList args.toList ds p := hA0
  rw [Try.params11] at hA hval
  obtain ⟨v0, vs0, d0, ds0, p0, q0, hargs0, rfl, rfl, h0, r0⟩ := trodAll_cons hA
  obtain ⟨v1, vs1, d1, ds1, p1, q1, hargs1, rfl, rfl, h1, r1⟩ := trodAll_cons r0
  obtain ⟨rfl, rfl, rfl⟩ := trodAll_nil r1
  obtain rfl : args = #[v0, v1] := by cases args; simp_all
  obtain ⟨rfl, rfl⟩ := trodVars_none hV
  clear hA0 hval0
  simp only [List.append_nil] at hW'
  have hlt0 : ∀ x ∈ p0, x.block < W.heap.size := fun x hx => hW'.lt x (by simp [hx])
  have hlt1 : ∀ x ∈ p1, x.block < W.heap.size := fun x hx => hW'.lt x (by simp [hx])
  obtain ⟨z0, A0, n0, c0, ts0, rfl, hr0, hw0, hp0, hc0, hd0⟩ := open_sum h0 hlt0 (hval 0 _ _ rfl rfl)
  have hh1 := h1
  obtain ⟨k1, rfl, rfl, rfl, wk1⟩ := open_int Try.underlying2 (hval 1 _ _ rfl rfl) hh1
  have hk0 : ∀ (W' : World), Below W.heap.size W W' → DataW.Trod enc Try.prog W' 0 (fun b => decide (b < W.heap.size)) true 36 (.agg #[.int .i64 z0, .slice A0 n0 c0]) d0 p0 :=
    fun W' hn => Below.trod prog_laidOut (by kernel_rfl) (of_decide_eq_true (by kernel_rfl)) h0 hn hlt0
  refine (lawRotateSum_any z0 A0 n0 c0 ts0 k1 W hr0 hw0 hp0 (Nat.le_trans hc0 hd0) (wf_inv wk1)).mono fun e W' ⟨he, hnx⟩ => ?_
  subst he
  exact ⟨_, rfl, _, _, _, _, _, [], hW', trodAll_cons_mk (shut_bool Try.underlying4 _) trodAll_mk0, (trodAll_cons_mk (hk0 _ hnx) (trodAll_cons_mk (shut_int Try.underlying2 wk1) trodAll_mk0)), rfl, hnx.frame _, fun h => by cases h⟩

theorem lawRotateSum_holds : Rows.FnExactRotateSumSaid :=
  OpenClaim.holds_of_wide 11 Try.f11 rfl rfl rfl rfl rfl rfl rfl ⟨rfl, rfl, rfl, rfl, rfl⟩ rfl rfl rfl rfl rfl (by kernel_rfl) Try.func11 (by kernel_rfl)
    (of_decide_eq_true (by kernel_rfl)) (by unfold Func.isWrapper; first | (rw [if_pos (by decide +kernel)]; kernel_rfl) | (rw [if_neg (by decide +kernel)]; exact ⟨rfl, rfl⟩))
    (fun os started H enc _ => lawRotateSum_lifted os started H enc)
end Go.Proofs.Ytofcldplgkejiaa
