/- The walk through the law GaussText. -/
import Derived.Test.YtpeckofpgiabaaaFGaussText
import Derived.Test.YtpeckofpgiabaaaGau
import Derived.Test.YtpeckofpgiabaaaRow
import Derived.Deep.RegionHeld3
namespace Go.Proofs.Ytpeckofpgiabaaa
open Go.ChangeShapes Go.WideShapes Go.ChangeAt Go.RowKit
set_option linter.unusedVariables false
set_option linter.unusedSimpArgs false
set_option maxRecDepth 100000

set_option maxHeartbeats 8000000 in
theorem lawGaussText_any (A B C : Option Addr) (n c m d q f : Nat) (ws hs ss : List Int) (w : World) (hr : RdGB w w.heap.size A n B m C q ws hs ss) (hwf : WfG ws hs ss) (hc : n ≤ 9223372036854775807) (hd : m ≤ 9223372036854775807) (he : q ≤ 9223372036854775807) :
    Calls Try.prog 7 #[.agg #[.slice A n c, .slice B m d, .slice C q f]] w fun e w' => e = .returned (.bool true) ∧ Below w.heap.size w w' := by
  obtain ⟨W, hW⟩ : ∃ W, W = w.alloc (.cells #[.slice A n c, .slice B m d, .slice C q f] 24) := ⟨_, rfl⟩
  have hF0 : Fr 0 0 w W := by rw [hW]; exact fr_alloc _ _
  have HX : Hid (Box3 W w.heap.size 24 (.slice A n c) (.slice B m d) (.slice C q f)) := Lib.hid (by rw [hW]; exact box3_new _ _ _ _ _)
  have HA : Hid (RdGB W w.heap.size A n B m C q ws hs ss) := Lib.hid (RdGB.fr hr hF0 (by omega) (by omega))
  have HWF := Lib.hid hwf
  have HB : Hid (Below w.heap.size w W) := Lib.hid (below_of_fr hF0)
  have hz0 := hF0.size
  have HWW := Lib.hid hW
  clear hW hF0 hr hwf
  go_enter Try.func7, Try.ntmps7
  by_cases hN : (needG ws hs ss : Int) ≤ 1048576
  case neg =>
    have q0HX := HX.out.cell0
    have q1HX := HX.out.cell1
    have q2HX := HX.out.cell2
    go_wp2_with fail
    rw [← HWW.out]
    clear q0HX q1HX q2HX
    refine (szGauss_seg A B C n c m d q f ws hs ss 1048576 _ (RdGB.rd HA.out (by omega)) hc hd he (by omega) (by omega)).mono ?_
    rintro e w1 ⟨rfl, hF1⟩
    have hz1 := hF1.size
    replace HA := Lib.hid (RdGB.fr HA.out hF1 (by omega) (by omega))
    replace HX := Lib.hid (HX.out.fr hF1 (by omega))
    replace HB := Lib.hid (below_fr HB.out hF1 (by omega) (by omega))
    clear hF1
    rw [show leftG 1048576 ws hs ss = -1 from by unfold leftG; rw [if_neg (by omega)]]
    go_wp2_with fail
    go_ret
    exact ⟨rfl, HB.out⟩
  have q0HX := HX.out.cell0
  have q1HX := HX.out.cell1
  have q2HX := HX.out.cell2
  go_wp2_with fail
  rw [← HWW.out]
  clear q0HX q1HX q2HX
  refine (szGauss_seg A B C n c m d q f ws hs ss 1048576 _ (RdGB.rd HA.out (by omega)) hc hd he (by omega) (by omega)).mono ?_
  rintro e w1 ⟨rfl, hF1⟩
  have hz1 := hF1.size
  replace HA := Lib.hid (RdGB.fr HA.out hF1 (by omega) (by omega))
  replace HX := Lib.hid (HX.out.fr hF1 (by omega))
  replace HB := Lib.hid (below_fr HB.out hF1 (by omega) (by omega))
  clear hF1
  rw [show leftG 1048576 ws hs ss = 1048576 - needG ws hs ss from by unfold leftG; rw [if_pos (by omega)]]
  have hlt : ¬ (1048576 - (needG ws hs ss : Int) < 0) := by omega
  have hnl : needG ws hs ss ≤ 1048576 := by omega
  have hm : FewG ws hs ss := hnl
  have HMF := Lib.hid hm
  clear hm
  have hne0 : (((gaussText ws hs ss).1).toList != ((gaussText ws hs ss).1).toList) = false := by simp
  have hnf0 : (((gaussText ws hs ss).1).toList == ((gaussText ws hs ss).1).toList) = true := by simp
  have hne1 : (((gaussText ws hs ss).2) != ((gaussText ws hs ss).2)) = false := by simp
  have q0HX := HX.out.cell0
  have q1HX := HX.out.cell1
  have q2HX := HX.out.cell2
  go_wp2_with fail
  clear q0HX q1HX q2HX
  refine (toGauss_seg A B C n c m d q f ws hs ss _ (RdGB.rd HA.out (by omega)) HMF.out).mono ?_
  rintro e w2 ⟨Aa, na, ca, Ba, ma, da, Ca, qa, fa, rfl, hsa, hF2⟩
  have hz2 := hF2.size
  replace HA := Lib.hid (RdGB.fr HA.out hF2 (by omega) (by omega))
  replace HX := Lib.hid (HX.out.fr hF2 (by omega))
  replace HB := Lib.hid (below_fr HB.out hF2 (by omega) (by omega))
  clear hF2
  have HSa := Lib.hid hsa
  clear hsa
  have q0HX := HX.out.cell0
  have q1HX := HX.out.cell1
  have q2HX := HX.out.cell2
  go_wp2_with fail
  clear q0HX q1HX q2HX
  refine ((specGaussText_any _ _ _ _ _ _ _ _ _ ws hs ss _ HSa.out.rdG HWF.out HMF.out).seg).mono ?_
  rintro e w3 ⟨rfl, hF3⟩
  have hz3 := hF3.size
  replace HA := Lib.hid (RdGB.fr HA.out hF3 (by omega) (by omega))
  replace HX := Lib.hid (HX.out.fr hF3 (by omega))
  replace HB := Lib.hid (below_fr HB.out hF3 (by omega) (by omega))
  replace HSa := Lib.hid (HSa.out.fr hF3 (by omega))
  clear hF3
  have q0HX := HX.out.cell0
  have q1HX := HX.out.cell1
  have q2HX := HX.out.cell2
  go_wp2_with fail
  clear q0HX q1HX q2HX
  refine (toGauss_seg A B C n c m d q f ws hs ss _ (RdGB.rd HA.out (by omega)) HMF.out).mono ?_
  rintro e w4 ⟨Ax, nx, cx, Bx, mx, dx, Cx, qx, fx, rfl, hsx, hF4⟩
  have hz4 := hF4.size
  replace HA := Lib.hid (RdGB.fr HA.out hF4 (by omega) (by omega))
  replace HX := Lib.hid (HX.out.fr hF4 (by omega))
  replace HB := Lib.hid (below_fr HB.out hF4 (by omega) (by omega))
  clear hF4
  have HSx := Lib.hid hsx
  clear hsx
  obtain ⟨X4, hX4⟩ : ∃ X, X = w4.alloc (.cells #[.slice Ax nx cx, .slice Bx mx dx, .slice Cx qx fx] 27) := ⟨_, rfl⟩
  have hG4 : Fr 0 0 w4 X4 := by rw [hX4]; exact fr_alloc _ _
  have HXx : Hid (Box3 X4 w4.heap.size 27 (.slice Ax nx cx) (.slice Bx mx dx) (.slice Cx qx fx)) := Lib.hid (by rw [hX4]; exact box3_new _ _ _ _ _)
  have hsz4 : X4.heap.size = w4.heap.size + 1 := by rw [hX4]; simp
  have HH4 := Lib.hid hX4
  have q0HX := HX.out.cell0
  have a0HX := fun o => (HX.out.alloc o).cell0
  have q1HX := HX.out.cell1
  have a1HX := fun o => (HX.out.alloc o).cell1
  have q2HX := HX.out.cell2
  have a2HX := fun o => (HX.out.alloc o).cell2
  go_wp2_with fail
  clear q0HX a0HX q1HX a1HX q2HX a2HX
  rw [← HH4.out]
  have hzx4 := hG4.size
  replace HA := Lib.hid (RdGB.fr HA.out hG4 (by omega) (by omega))
  replace HX := Lib.hid (HX.out.fr hG4 (by omega))
  replace HB := Lib.hid (below_fr HB.out hG4 (by omega) (by omega))
  replace HSx := Lib.hid (HSx.out.fr hG4 (by omega))
  clear hX4 hG4
  refine ((implGaussText_any _ _ _ _ _ _ _ _ _ ws hs ss _ HSx.out.rdG HWF.out HMF.out).seg).mono ?_
  rintro e w5 ⟨rfl, hF5⟩
  have hz5 := hF5.size
  replace HA := Lib.hid (RdGB.fr HA.out hF5 (by omega) (by omega))
  replace HX := Lib.hid (HX.out.fr hF5 (by omega))
  replace HB := Lib.hid (below_fr HB.out hF5 (by omega) (by omega))
  replace HSx := Lib.hid (HSx.out.fr hF5 (by omega))
  replace HXx := Lib.hid (HXx.out.fr hF5 (by omega))
  clear hF5
  have q0HX := HX.out.cell0
  have q1HX := HX.out.cell1
  have q2HX := HX.out.cell2
  have q0HXx := HXx.out.cell0
  have q1HXx := HXx.out.cell1
  have q2HXx := HXx.out.cell2
  go_wp2_with fail
  clear q0HX q1HX q2HX q0HXx q1HXx q2HXx
  have HK5 : Hid (∀ X, Fr 0 0 w5 X → X.cell? ⟨w.heap.size, 0, none⟩ = some (.slice A n c) ∧ X.cell? ⟨w.heap.size, 1, none⟩ = some (.slice B m d) ∧ X.cell? ⟨w.heap.size, 2, none⟩ = some (.slice C q f) ∧ X.cell? ⟨w4.heap.size, 0, none⟩ = some (.slice Ax nx cx) ∧ X.cell? ⟨w4.heap.size, 1, none⟩ = some (.slice Bx mx dx) ∧ X.cell? ⟨w4.heap.size, 2, none⟩ = some (.slice Cx qx fx) ∧ Hid (Fr 0 0 w5 X)) := Lib.hid (fun X hX => ⟨(HX.out.fr hX (by omega)).cell0, (HX.out.fr hX (by omega)).cell1, (HX.out.fr hX (by omega)).cell2, (HXx.out.fr hX (by omega)).cell0, (HXx.out.fr hX (by omega)).cell1, (HXx.out.fr hX (by omega)).cell2, Lib.hid hX⟩)
  go_region_held3 (fun X => X.cell? ⟨w.heap.size, 0, none⟩ = some (.slice A n c) ∧ X.cell? ⟨w.heap.size, 1, none⟩ = some (.slice B m d) ∧ X.cell? ⟨w.heap.size, 2, none⟩ = some (.slice C q f) ∧ X.cell? ⟨w4.heap.size, 0, none⟩ = some (.slice Ax nx cx) ∧ X.cell? ⟨w4.heap.size, 1, none⟩ = some (.slice Bx mx dx) ∧ X.cell? ⟨w4.heap.size, 2, none⟩ = some (.slice Cx qx fx) ∧ Hid (Fr 0 0 w5 X)) ((refine HK5.out _ ?_; first | exact Hid.out (by assumption) | exact fr_drew _)) (first | (go_at_call 11; obtain ⟨_, _, _, _, _, _, hbb⟩ := ‹_ ∧ _ ∧ _ ∧ _ ∧ _ ∧ _ ∧ Hid (Fr 0 0 w5 _)›; refine (toGauss_seg A B C n c m d q f ws hs ss _ (RdGB.rd (RdGB.fr HA.out hbb.out (by omega) (by omega)) (by have := hbb.out.size; omega)) HMF.out).mono ?_; rintro e v2 ⟨Ay, ny, cy, By, my, dy, Cy, qy, fy, rfl, hsy, hfy⟩; have HSY := Lib.hid hsy; have HFY := Lib.hid (fr_trans hbb.out hfy); clear hsy hfy hbb) | (go_at_call 13; obtain ⟨_, _, _, _, _, _, hbb⟩ := ‹_ ∧ _ ∧ _ ∧ _ ∧ _ ∧ _ ∧ Hid (Fr 0 0 w5 _)›; refine (eqGauss_seg _ _ _ _ _ _ _ _ _ _ _ _ _ _ _ _ _ _ _ _ _ _ ws hs ss _ (HSx.out.fr hbb.out (by omega)) HSY.out HMF.out).mono ?_; rintro e v3 ⟨rfl, hfy⟩; have HFZ := Lib.hid (fr_trans hbb.out hfy); clear hfy hbb))
  have hF9 := HFZ.out
  replace HB := Lib.hid (below_fr HB.out hF9 (by omega) (by omega))
  clear hF9 HFZ HFY HSY
  go_wp2_with fail
  go_ret
  exact ⟨rfl, HB.out⟩
end Go.Proofs.Ytpeckofpgiabaaa
