/- The walk through the law RemovePair. -/
import Derived.Test.YtiedekdghdgocaaDoorFRemovePair
import Derived.Test.YtiedekdghdgocaaDoorFSRemovePair
import Derived.Test.YtiedekdghdgocaaDoorMoveRow
import Derived.Test.YtiedekdghdgocaaDoorGau
import Derived.Test.YtiedekdghdgocaaDoorRow
import Derived.Deep.RegionHeld3
namespace Go.Proofs.YtiedekdghdgocaaDoor
open Go.ChangeShapes Go.WideShapes Go.ChangeAt Go.RowKit
set_option linter.unusedVariables false
set_option linter.unusedSimpArgs false
set_option maxRecDepth 100000

set_option maxHeartbeats 8000000 in
theorem lawRemovePair_any (A B C : Option Addr) (n c m d q f : Nat) (ws hs ss : List Int) (i : Int) (k : Int) (w : World) (hr : RdGB w w.heap.size A n B m C q ws hs ss) (hwf : WfG ws hs ss) (hc : n ≤ 9223372036854775807) (hd : m ≤ 9223372036854775807) (he : q ≤ 9223372036854775807) (hii : -9223372036854775808 ≤ i ∧ i ≤ 9223372036854775807) (hik : -9223372036854775808 ≤ k ∧ k ≤ 9223372036854775807) (hg : w.cell? ⟨0, 0, none⟩ = some (.iface 100 (.agg #[.pointer (some ⟨1, 55, none⟩)]))) :
    Calls Tryd.prog 4 #[.agg #[.slice A n c, .slice B m d, .slice C q f], .int .i64 i, .int .i64 k] w fun e w' => e = .returned (.bool true) ∧ Below w.heap.size w w' := by
  obtain ⟨W, hW⟩ : ∃ W, W = w.alloc (.cells #[.slice A n c, .slice B m d, .slice C q f] 24) := ⟨_, rfl⟩
  have hF0 : Fr 0 0 w W := by rw [hW]; exact fr_alloc _ _
  have HX : Hid (Box3 W w.heap.size 24 (.slice A n c) (.slice B m d) (.slice C q f)) := Lib.hid (by rw [hW]; exact box3_new _ _ _ _ _)
  have HA : Hid (RdGB W w.heap.size A n B m C q ws hs ss) := Lib.hid (RdGB.fr hr hF0 (by omega) (by omega))
  have HWF := Lib.hid hwf
  have HB : Hid (Below w.heap.size w W) := Lib.hid (below_of_fr hF0)
  have hw0 := heap_pos hg
  have HG0 : Hid (W.cell? ⟨0, 0, none⟩ = some (.iface 100 (.agg #[.pointer (some ⟨1, 55, none⟩)]))) := Lib.hid (glob_kept hg hF0 hw0 (by omega))
  have hz0 := hF0.size
  have HWW := Lib.hid hW
  clear hW hF0 hr hwf hg
  obtain ⟨rw, rh, rs, rz, hR⟩ : ∃ rw rh rs rz, removePairOf ws hs ss i k = ((rw, rh, rs), rz) := ⟨_, _, _, _, rfl⟩
  have HRR := Lib.hid hR
  have hrz : (rz != rz) = false := by simp
  clear hR
  go_enter Tryd.func4, Tryd.ntmps4
  by_cases hN : (needG ws hs ss : Int) ≤ 1048576
  case neg =>
    have q0HX := HX.out.cell0
    have q1HX := HX.out.cell1
    have q2HX := HX.out.cell2
    go_wp2_with fail
    rw [← HWW.out]
    clear q0HX q1HX q2HX
    refine (szGauss_seg A B C n c m d q f ws hs ss 1048576 _ (RdGB.rd HA.out (by omega)) hc hd he (by omega) (by omega)).mono ?_
    rintro e w1 ⟨rfl, hF1⟩
    have hz1 := hF1.size
    replace HA := Lib.hid (RdGB.fr HA.out hF1 (by omega) (by omega))
    replace HX := Lib.hid (HX.out.fr hF1 (by omega))
    replace HB := Lib.hid (below_fr HB.out hF1 (by omega) (by omega))
    replace HG0 := Lib.hid (glob_kept HG0.out hF1 (by omega) (by omega))
    clear hF1
    rw [show leftG 1048576 ws hs ss = -1 from by unfold leftG; rw [if_neg (by omega)]]
    go_wp2_with fail
    go_ret
    exact ⟨rfl, HB.out⟩
  have q0HX := HX.out.cell0
  have q1HX := HX.out.cell1
  have q2HX := HX.out.cell2
  go_wp2_with fail
  rw [← HWW.out]
  clear q0HX q1HX q2HX
  refine (szGauss_seg A B C n c m d q f ws hs ss 1048576 _ (RdGB.rd HA.out (by omega)) hc hd he (by omega) (by omega)).mono ?_
  rintro e w1 ⟨rfl, hF1⟩
  have hz1 := hF1.size
  replace HA := Lib.hid (RdGB.fr HA.out hF1 (by omega) (by omega))
  replace HX := Lib.hid (HX.out.fr hF1 (by omega))
  replace HB := Lib.hid (below_fr HB.out hF1 (by omega) (by omega))
  replace HG0 := Lib.hid (glob_kept HG0.out hF1 (by omega) (by omega))
  clear hF1
  rw [show leftG 1048576 ws hs ss = 1048576 - needG ws hs ss from by unfold leftG; rw [if_pos (by omega)]]
  have hlt : ¬ (1048576 - (needG ws hs ss : Int) < 0) := by omega
  have hnl : needG ws hs ss ≤ 1048576 := by omega
  have hm : FewG ws hs ss := hnl
  have HMF := Lib.hid hm
  clear hm
  have hnd : FewG rw rh rs := by have h := removePairOf_few (i := i) (k := k) hnl; rw [HRR.out] at h; exact h
  have hnr : needG rw rh rs ≤ 1048576 := hnd
  have HND := Lib.hid hnd
  have hq1 : ((1 + (needG rw rh rs : Int)) != (1 + (needG rw rh rs : Int))) = false := by simp
  have hq2 : ¬ (1 + (needG rw rh rs : Int) < 0) := by omega
  have hko : ¬ (1 + (needG ws hs ss : Int) < 0) := by omega
  clear hnd
  have q0HX := HX.out.cell0
  have q1HX := HX.out.cell1
  have q2HX := HX.out.cell2
  go_wp2_with fail
  clear q0HX q1HX q2HX
  refine (toGauss_seg A B C n c m d q f ws hs ss _ (RdGB.rd HA.out (by omega)) HMF.out).mono ?_
  rintro e w2 ⟨Aa, na, ca, Ba, ma, da, Ca, qa, fa, rfl, hsa, hF2⟩
  have hz2 := hF2.size
  replace HA := Lib.hid (RdGB.fr HA.out hF2 (by omega) (by omega))
  replace HX := Lib.hid (HX.out.fr hF2 (by omega))
  replace HB := Lib.hid (below_fr HB.out hF2 (by omega) (by omega))
  replace HG0 := Lib.hid (glob_kept HG0.out hF2 (by omega) (by omega))
  clear hF2
  have HSa := Lib.hid hsa
  clear hsa
  have q0HX := HX.out.cell0
  have q1HX := HX.out.cell1
  have q2HX := HX.out.cell2
  go_wp2_with fail
  clear q0HX q1HX q2HX
  refine (GaveG.segr (specRemovePair_any _ _ _ _ _ _ _ _ _ ws hs ss i k _ HSa.out.rdG HWF.out HMF.out hii hik) HRR.out).mono ?_
  rintro e w3 ⟨AW, nW, cW, BW, mW, dW, CW, qW, fW, rfl, hsW, hF3⟩
  have hz3 := hF3.size
  replace HA := Lib.hid (RdGB.fr HA.out hF3 (by omega) (by omega))
  replace HX := Lib.hid (HX.out.fr hF3 (by omega))
  replace HB := Lib.hid (below_fr HB.out hF3 (by omega) (by omega))
  replace HG0 := Lib.hid (glob_kept HG0.out hF3 (by omega) (by omega))
  replace HSa := Lib.hid (HSa.out.fr hF3 (by omega))
  clear hF3
  have HSW := Lib.hid hsW
  clear hsW
  obtain ⟨X3, hX3⟩ : ∃ X, X = w3.alloc (.cells #[.slice AW nW cW, .slice BW mW dW, .slice CW qW fW] 26) := ⟨_, rfl⟩
  have hG3 : Fr 0 0 w3 X3 := by rw [hX3]; exact fr_alloc _ _
  have HXW : Hid (Box3 X3 w3.heap.size 26 (.slice AW nW cW) (.slice BW mW dW) (.slice CW qW fW)) := Lib.hid (by rw [hX3]; exact box3_new _ _ _ _ _)
  have hsz3 : X3.heap.size = w3.heap.size + 1 := by rw [hX3]; simp
  have HH3 := Lib.hid hX3
  have q0HX := HX.out.cell0
  have a0HX := fun o => (HX.out.alloc o).cell0
  have q1HX := HX.out.cell1
  have a1HX := fun o => (HX.out.alloc o).cell1
  have q2HX := HX.out.cell2
  have a2HX := fun o => (HX.out.alloc o).cell2
  go_wp2_with fail
  clear q0HX a0HX q1HX a1HX q2HX a2HX
  rw [← HH3.out]
  have hzx3 := hG3.size
  replace HA := Lib.hid (RdGB.fr HA.out hG3 (by omega) (by omega))
  replace HX := Lib.hid (HX.out.fr hG3 (by omega))
  replace HB := Lib.hid (below_fr HB.out hG3 (by omega) (by omega))
  replace HG0 := Lib.hid (glob_kept HG0.out hG3 (by omega) (by omega))
  replace HSa := Lib.hid (HSa.out.fr hG3 (by omega))
  replace HSW := Lib.hid (HSW.out.fr hG3 (by omega))
  clear hX3 hG3
  refine (toGauss_seg A B C n c m d q f ws hs ss _ (RdGB.rd HA.out (by omega)) HMF.out).mono ?_
  rintro e w4 ⟨Ax, nx, cx, Bx, mx, dx, Cx, qx, fx, rfl, hsx, hF4⟩
  have hz4 := hF4.size
  replace HA := Lib.hid (RdGB.fr HA.out hF4 (by omega) (by omega))
  replace HX := Lib.hid (HX.out.fr hF4 (by omega))
  replace HB := Lib.hid (below_fr HB.out hF4 (by omega) (by omega))
  replace HG0 := Lib.hid (glob_kept HG0.out hF4 (by omega) (by omega))
  replace HSW := Lib.hid (HSW.out.fr hF4 (by omega))
  replace HXW := Lib.hid (HXW.out.fr hF4 (by omega))
  clear hF4
  have HSx := Lib.hid hsx
  clear hsx
  obtain ⟨X4, hX4⟩ : ∃ X, X = w4.alloc (.cells #[.slice Ax nx cx, .slice Bx mx dx, .slice Cx qx fx] 26) := ⟨_, rfl⟩
  have hG4 : Fr 0 0 w4 X4 := by rw [hX4]; exact fr_alloc _ _
  have HXx : Hid (Box3 X4 w4.heap.size 26 (.slice Ax nx cx) (.slice Bx mx dx) (.slice Cx qx fx)) := Lib.hid (by rw [hX4]; exact box3_new _ _ _ _ _)
  have hsz4 : X4.heap.size = w4.heap.size + 1 := by rw [hX4]; simp
  have HH4 := Lib.hid hX4
  have q0HX := HX.out.cell0
  have a0HX := fun o => (HX.out.alloc o).cell0
  have q1HX := HX.out.cell1
  have a1HX := fun o => (HX.out.alloc o).cell1
  have q2HX := HX.out.cell2
  have a2HX := fun o => (HX.out.alloc o).cell2
  have q0HXW := HXW.out.cell0
  have a0HXW := fun o => (HXW.out.alloc o).cell0
  have q1HXW := HXW.out.cell1
  have a1HXW := fun o => (HXW.out.alloc o).cell1
  have q2HXW := HXW.out.cell2
  have a2HXW := fun o => (HXW.out.alloc o).cell2
  go_wp2_with fail
  clear q0HX a0HX q1HX a1HX q2HX a2HX q0HXW a0HXW q1HXW a1HXW q2HXW a2HXW
  rw [← HH4.out]
  have hzx4 := hG4.size
  replace HA := Lib.hid (RdGB.fr HA.out hG4 (by omega) (by omega))
  replace HX := Lib.hid (HX.out.fr hG4 (by omega))
  replace HB := Lib.hid (below_fr HB.out hG4 (by omega) (by omega))
  replace HG0 := Lib.hid (glob_kept HG0.out hG4 (by omega) (by omega))
  replace HSW := Lib.hid (HSW.out.fr hG4 (by omega))
  replace HXW := Lib.hid (HXW.out.fr hG4 (by omega))
  replace HSx := Lib.hid (HSx.out.fr hG4 (by omega))
  clear hX4 hG4
  refine (GaveG.segr (implRemovePair_any _ _ _ _ _ _ _ _ _ ws hs ss i k  _ HSx.out.rdG HWF.out HMF.out hii hik HG0.out) HRR.out).mono ?_
  rintro e w5 ⟨AG, nG, cG, BG, mG, dG, CG, qG, fG, rfl, hsG, hF5⟩
  have hz5 := hF5.size
  replace HA := Lib.hid (RdGB.fr HA.out hF5 (by omega) (by omega))
  replace HX := Lib.hid (HX.out.fr hF5 (by omega))
  replace HB := Lib.hid (below_fr HB.out hF5 (by omega) (by omega))
  replace HG0 := Lib.hid (glob_kept HG0.out hF5 (by omega) (by omega))
  replace HSW := Lib.hid (HSW.out.fr hF5 (by omega))
  replace HXW := Lib.hid (HXW.out.fr hF5 (by omega))
  replace HSx := Lib.hid (HSx.out.fr hF5 (by omega))
  replace HXx := Lib.hid (HXx.out.fr hF5 (by omega))
  clear hF5
  have HSG := Lib.hid hsG
  clear hsG
  obtain ⟨X5, hX5⟩ : ∃ X, X = w5.alloc (.cells #[.slice AG nG cG, .slice BG mG dG, .slice CG qG fG] 26) := ⟨_, rfl⟩
  have hG5 : Fr 0 0 w5 X5 := by rw [hX5]; exact fr_alloc _ _
  have HXG : Hid (Box3 X5 w5.heap.size 26 (.slice AG nG cG) (.slice BG mG dG) (.slice CG qG fG)) := Lib.hid (by rw [hX5]; exact box3_new _ _ _ _ _)
  have hsz5 : X5.heap.size = w5.heap.size + 1 := by rw [hX5]; simp
  have HH5 := Lib.hid hX5
  have q0HX := HX.out.cell0
  have a0HX := fun o => (HX.out.alloc o).cell0
  have q1HX := HX.out.cell1
  have a1HX := fun o => (HX.out.alloc o).cell1
  have q2HX := HX.out.cell2
  have a2HX := fun o => (HX.out.alloc o).cell2
  have q0HXW := HXW.out.cell0
  have a0HXW := fun o => (HXW.out.alloc o).cell0
  have q1HXW := HXW.out.cell1
  have a1HXW := fun o => (HXW.out.alloc o).cell1
  have q2HXW := HXW.out.cell2
  have a2HXW := fun o => (HXW.out.alloc o).cell2
  have q0HXx := HXx.out.cell0
  have a0HXx := fun o => (HXx.out.alloc o).cell0
  have q1HXx := HXx.out.cell1
  have a1HXx := fun o => (HXx.out.alloc o).cell1
  have q2HXx := HXx.out.cell2
  have a2HXx := fun o => (HXx.out.alloc o).cell2
  go_wp2_with fail
  clear q0HX a0HX q1HX a1HX q2HX a2HX q0HXW a0HXW q1HXW a1HXW q2HXW a2HXW q0HXx a0HXx q1HXx a1HXx q2HXx a2HXx
  rw [← HH5.out]
  have hzx5 := hG5.size
  replace HA := Lib.hid (RdGB.fr HA.out hG5 (by omega) (by omega))
  replace HX := Lib.hid (HX.out.fr hG5 (by omega))
  replace HB := Lib.hid (below_fr HB.out hG5 (by omega) (by omega))
  replace HG0 := Lib.hid (glob_kept HG0.out hG5 (by omega) (by omega))
  replace HSW := Lib.hid (HSW.out.fr hG5 (by omega))
  replace HXW := Lib.hid (HXW.out.fr hG5 (by omega))
  replace HSx := Lib.hid (HSx.out.fr hG5 (by omega))
  replace HXx := Lib.hid (HXx.out.fr hG5 (by omega))
  replace HSG := Lib.hid (HSG.out.fr hG5 (by omega))
  clear hX5 hG5
  refine (eqGauss_seg _ _ _ _ _ _ _ _ _ _ _ _ _ _ _ _ _ _ _ _ _ _ rw rh rs _ HSG.out HSW.out HND.out).mono ?_
  rintro e w6 ⟨rfl, hF6⟩
  have hz6 := hF6.size
  replace HA := Lib.hid (RdGB.fr HA.out hF6 (by omega) (by omega))
  replace HX := Lib.hid (HX.out.fr hF6 (by omega))
  replace HB := Lib.hid (below_fr HB.out hF6 (by omega) (by omega))
  replace HG0 := Lib.hid (glob_kept HG0.out hF6 (by omega) (by omega))
  replace HSW := Lib.hid (HSW.out.fr hF6 (by omega))
  replace HXW := Lib.hid (HXW.out.fr hF6 (by omega))
  replace HSx := Lib.hid (HSx.out.fr hF6 (by omega))
  replace HXx := Lib.hid (HXx.out.fr hF6 (by omega))
  replace HSG := Lib.hid (HSG.out.fr hF6 (by omega))
  replace HXG := Lib.hid (HXG.out.fr hF6 (by omega))
  clear hF6
  have q0HX := HX.out.cell0
  have q1HX := HX.out.cell1
  have q2HX := HX.out.cell2
  have q0HXW := HXW.out.cell0
  have q1HXW := HXW.out.cell1
  have q2HXW := HXW.out.cell2
  have q0HXx := HXx.out.cell0
  have q1HXx := HXx.out.cell1
  have q2HXx := HXx.out.cell2
  have q0HXG := HXG.out.cell0
  have q1HXG := HXG.out.cell1
  have q2HXG := HXG.out.cell2
  go_wp2_with fail
  clear q0HX q1HX q2HX q0HXW q1HXW q2HXW q0HXx q1HXx q2HXx q0HXG q1HXG q2HXG
  have HK6 : Hid (∀ X, Fr 0 0 w6 X → X.cell? ⟨w.heap.size, 0, none⟩ = some (.slice A n c) ∧ X.cell? ⟨w.heap.size, 1, none⟩ = some (.slice B m d) ∧ X.cell? ⟨w.heap.size, 2, none⟩ = some (.slice C q f) ∧ X.cell? ⟨w4.heap.size, 0, none⟩ = some (.slice Ax nx cx) ∧ X.cell? ⟨w4.heap.size, 1, none⟩ = some (.slice Bx mx dx) ∧ X.cell? ⟨w4.heap.size, 2, none⟩ = some (.slice Cx qx fx) ∧ Hid (Fr 0 0 w6 X)) := Lib.hid (fun X hX => ⟨(HX.out.fr hX (by omega)).cell0, (HX.out.fr hX (by omega)).cell1, (HX.out.fr hX (by omega)).cell2, (HXx.out.fr hX (by omega)).cell0, (HXx.out.fr hX (by omega)).cell1, (HXx.out.fr hX (by omega)).cell2, Lib.hid hX⟩)
  go_region_held3 (fun X => X.cell? ⟨w.heap.size, 0, none⟩ = some (.slice A n c) ∧ X.cell? ⟨w.heap.size, 1, none⟩ = some (.slice B m d) ∧ X.cell? ⟨w.heap.size, 2, none⟩ = some (.slice C q f) ∧ X.cell? ⟨w4.heap.size, 0, none⟩ = some (.slice Ax nx cx) ∧ X.cell? ⟨w4.heap.size, 1, none⟩ = some (.slice Bx mx dx) ∧ X.cell? ⟨w4.heap.size, 2, none⟩ = some (.slice Cx qx fx) ∧ Hid (Fr 0 0 w6 X)) ((refine HK6.out _ ?_; first | exact Hid.out (by assumption) | exact fr_drew _)) (first | (go_at_call 7; obtain ⟨_, _, _, _, _, _, hbb⟩ := ‹_ ∧ _ ∧ _ ∧ _ ∧ _ ∧ _ ∧ Hid (Fr 0 0 w6 _)›; refine (toGauss_seg A B C n c m d q f ws hs ss _ (RdGB.rd (RdGB.fr HA.out hbb.out (by omega) (by omega)) (by have := hbb.out.size; omega)) HMF.out).mono ?_; rintro e v2 ⟨Ay, ny, cy, By, my, dy, Cy, qy, fy, rfl, hsy, hfy⟩; have HSY := Lib.hid hsy; have HFY := Lib.hid (fr_trans hbb.out hfy); clear hsy hfy hbb) | (go_at_call 9; obtain ⟨_, _, _, _, _, _, hbb⟩ := ‹_ ∧ _ ∧ _ ∧ _ ∧ _ ∧ _ ∧ Hid (Fr 0 0 w6 _)›; refine (eqGauss_seg _ _ _ _ _ _ _ _ _ _ _ _ _ _ _ _ _ _ _ _ _ _ ws hs ss _ (HSx.out.fr hbb.out (by omega)) HSY.out HMF.out).mono ?_; rintro e v3 ⟨rfl, hfy⟩; have HFZ := Lib.hid (fr_trans hbb.out hfy); clear hfy hbb))
  have hF7 := HFZ.out
  obtain ⟨w7, hw7⟩ : ∃ x, x = v3 := ⟨_, rfl⟩
  rw [← hw7] at hF7 ⊢
  have hz7 := hF7.size
  replace HA := Lib.hid (RdGB.fr HA.out hF7 (by omega) (by omega))
  replace HX := Lib.hid (HX.out.fr hF7 (by omega))
  replace HB := Lib.hid (below_fr HB.out hF7 (by omega) (by omega))
  replace HG0 := Lib.hid (glob_kept HG0.out hF7 (by omega) (by omega))
  replace HSW := Lib.hid (HSW.out.fr hF7 (by omega))
  replace HXW := Lib.hid (HXW.out.fr hF7 (by omega))
  replace HSx := Lib.hid (HSx.out.fr hF7 (by omega))
  replace HXx := Lib.hid (HXx.out.fr hF7 (by omega))
  replace HSG := Lib.hid (HSG.out.fr hF7 (by omega))
  replace HXG := Lib.hid (HXG.out.fr hF7 (by omega))
  clear hF7 HFZ HFY HSY hw7
  have q0HX := HX.out.cell0
  have q1HX := HX.out.cell1
  have q2HX := HX.out.cell2
  have q0HXW := HXW.out.cell0
  have q1HXW := HXW.out.cell1
  have q2HXW := HXW.out.cell2
  have q0HXx := HXx.out.cell0
  have q1HXx := HXx.out.cell1
  have q2HXx := HXx.out.cell2
  have q0HXG := HXG.out.cell0
  have q1HXG := HXG.out.cell1
  have q2HXG := HXG.out.cell2
  go_wp2_with fail
  clear q0HX q1HX q2HX q0HXW q1HXW q2HXW q0HXx q1HXx q2HXx q0HXG q1HXG q2HXG
  refine (markGauss_seg _ _ _ _ _ _ _ _ _ _ _ ws hs ss 1 _ HSx.out HMF.out (by omega) (by omega)).mono ?_
  rintro e w8 ⟨rfl, hsx, hF8⟩
  have hz8 := hF8.size
  replace HA := Lib.hid (RdGB.fr HA.out hF8 (by omega) (by omega))
  replace HX := Lib.hid (HX.out.fr hF8 (by omega))
  replace HB := Lib.hid (below_fr HB.out hF8 (by omega) (by omega))
  replace HG0 := Lib.hid (glob_kept HG0.out hF8 (by omega) (by omega))
  replace HSW := Lib.hid (HSW.out.fr hF8 (by omega))
  replace HXW := Lib.hid (HXW.out.fr hF8 (by omega))
  replace HXx := Lib.hid (HXx.out.fr hF8 (by omega))
  replace HSG := Lib.hid (HSG.out.fr hF8 (by omega))
  replace HXG := Lib.hid (HXG.out.fr hF8 (by omega))
  clear hF8
  clear HSx hsx
  have q0HX := HX.out.cell0
  have q1HX := HX.out.cell1
  have q2HX := HX.out.cell2
  have q0HXW := HXW.out.cell0
  have q1HXW := HXW.out.cell1
  have q2HXW := HXW.out.cell2
  have q0HXx := HXx.out.cell0
  have q1HXx := HXx.out.cell1
  have q2HXx := HXx.out.cell2
  have q0HXG := HXG.out.cell0
  have q1HXG := HXG.out.cell1
  have q2HXG := HXG.out.cell2
  go_wp2_with fail
  clear q0HX q1HX q2HX q0HXW q1HXW q2HXW q0HXx q1HXx q2HXx q0HXG q1HXG q2HXG
  refine (eqGauss_seg _ _ _ _ _ _ _ _ _ _ _ _ _ _ _ _ _ _ _ _ _ _ rw rh rs _ HSG.out HSW.out HND.out).mono ?_
  rintro e w9 ⟨rfl, hF9⟩
  have hz9 := hF9.size
  replace HA := Lib.hid (RdGB.fr HA.out hF9 (by omega) (by omega))
  replace HX := Lib.hid (HX.out.fr hF9 (by omega))
  replace HB := Lib.hid (below_fr HB.out hF9 (by omega) (by omega))
  replace HG0 := Lib.hid (glob_kept HG0.out hF9 (by omega) (by omega))
  replace HSW := Lib.hid (HSW.out.fr hF9 (by omega))
  replace HXW := Lib.hid (HXW.out.fr hF9 (by omega))
  replace HXx := Lib.hid (HXx.out.fr hF9 (by omega))
  replace HSG := Lib.hid (HSG.out.fr hF9 (by omega))
  replace HXG := Lib.hid (HXG.out.fr hF9 (by omega))
  clear hF9
  have q0HX := HX.out.cell0
  have q1HX := HX.out.cell1
  have q2HX := HX.out.cell2
  have q0HXW := HXW.out.cell0
  have q1HXW := HXW.out.cell1
  have q2HXW := HXW.out.cell2
  have q0HXx := HXx.out.cell0
  have q1HXx := HXx.out.cell1
  have q2HXx := HXx.out.cell2
  have q0HXG := HXG.out.cell0
  have q1HXG := HXG.out.cell1
  have q2HXG := HXG.out.cell2
  go_wp2_with fail
  clear q0HX q1HX q2HX q0HXW q1HXW q2HXW q0HXx q1HXx q2HXx q0HXG q1HXG q2HXG
  refine (markGauss_seg _ _ _ _ _ _ _ _ _ _ _ rw rh rs 1 _ HSG.out HND.out (by omega) (by omega)).mono ?_
  rintro e w10 ⟨rfl, hsG, hF10⟩
  have hz10 := hF10.size
  replace HA := Lib.hid (RdGB.fr HA.out hF10 (by omega) (by omega))
  replace HX := Lib.hid (HX.out.fr hF10 (by omega))
  replace HB := Lib.hid (below_fr HB.out hF10 (by omega) (by omega))
  replace HG0 := Lib.hid (glob_kept HG0.out hF10 (by omega) (by omega))
  replace HSW := Lib.hid (HSW.out.fr hF10 (by omega))
  replace HXW := Lib.hid (HXW.out.fr hF10 (by omega))
  replace HXx := Lib.hid (HXx.out.fr hF10 (by omega))
  replace HXG := Lib.hid (HXG.out.fr hF10 (by omega))
  clear hF10
  replace HSG := Lib.hid hsG
  clear hsG
  have q0HX := HX.out.cell0
  have q1HX := HX.out.cell1
  have q2HX := HX.out.cell2
  have q0HXW := HXW.out.cell0
  have q1HXW := HXW.out.cell1
  have q2HXW := HXW.out.cell2
  have q0HXx := HXx.out.cell0
  have q1HXx := HXx.out.cell1
  have q2HXx := HXx.out.cell2
  have q0HXG := HXG.out.cell0
  have q1HXG := HXG.out.cell1
  have q2HXG := HXG.out.cell2
  go_wp2_with fail
  clear q0HX q1HX q2HX q0HXW q1HXW q2HXW q0HXx q1HXx q2HXx q0HXG q1HXG q2HXG
  refine (heldGauss_seg _ _ _ _ _ _ _ _ _ _ _ rw rh rs 1 _ HSG.out HND.out (by omega) (by omega)).mono ?_
  rintro e w11 ⟨rfl, hF11⟩
  have hz11 := hF11.size
  replace HA := Lib.hid (RdGB.fr HA.out hF11 (by omega) (by omega))
  replace HX := Lib.hid (HX.out.fr hF11 (by omega))
  replace HB := Lib.hid (below_fr HB.out hF11 (by omega) (by omega))
  replace HG0 := Lib.hid (glob_kept HG0.out hF11 (by omega) (by omega))
  replace HSW := Lib.hid (HSW.out.fr hF11 (by omega))
  replace HXW := Lib.hid (HXW.out.fr hF11 (by omega))
  replace HXx := Lib.hid (HXx.out.fr hF11 (by omega))
  replace HXG := Lib.hid (HXG.out.fr hF11 (by omega))
  replace HSG := Lib.hid (HSG.out.fr hF11 (by omega))
  clear hF11
  have q0HX := HX.out.cell0
  have q1HX := HX.out.cell1
  have q2HX := HX.out.cell2
  have q0HXW := HXW.out.cell0
  have q1HXW := HXW.out.cell1
  have q2HXW := HXW.out.cell2
  have q0HXx := HXx.out.cell0
  have q1HXx := HXx.out.cell1
  have q2HXx := HXx.out.cell2
  have q0HXG := HXG.out.cell0
  have q1HXG := HXG.out.cell1
  have q2HXG := HXG.out.cell2
  go_wp2_with fail
  clear q0HX q1HX q2HX q0HXW q1HXW q2HXW q0HXx q1HXx q2HXx q0HXG q1HXG q2HXG
  refine (toGauss_seg A B C n c m d q f ws hs ss _ (RdGB.rd HA.out (by omega)) HMF.out).mono ?_
  rintro e w12 ⟨Az, nz, cz, Bz, mz, dz, Cz, qz, fz, rfl, hsz, hF12⟩
  have hz12 := hF12.size
  replace HA := Lib.hid (RdGB.fr HA.out hF12 (by omega) (by omega))
  replace HX := Lib.hid (HX.out.fr hF12 (by omega))
  replace HB := Lib.hid (below_fr HB.out hF12 (by omega) (by omega))
  replace HG0 := Lib.hid (glob_kept HG0.out hF12 (by omega) (by omega))
  replace HSW := Lib.hid (HSW.out.fr hF12 (by omega))
  replace HXW := Lib.hid (HXW.out.fr hF12 (by omega))
  replace HXx := Lib.hid (HXx.out.fr hF12 (by omega))
  replace HXG := Lib.hid (HXG.out.fr hF12 (by omega))
  replace HSG := Lib.hid (HSG.out.fr hF12 (by omega))
  clear hF12
  have HSz := Lib.hid hsz
  clear hsz
  have q0HX := HX.out.cell0
  have q1HX := HX.out.cell1
  have q2HX := HX.out.cell2
  have q0HXW := HXW.out.cell0
  have q1HXW := HXW.out.cell1
  have q2HXW := HXW.out.cell2
  have q0HXx := HXx.out.cell0
  have q1HXx := HXx.out.cell1
  have q2HXx := HXx.out.cell2
  have q0HXG := HXG.out.cell0
  have q1HXG := HXG.out.cell1
  have q2HXG := HXG.out.cell2
  go_wp2_with fail
  clear q0HX q1HX q2HX q0HXW q1HXW q2HXW q0HXx q1HXx q2HXx q0HXG q1HXG q2HXG
  refine (GaveG.segr (implRemovePair_any _ _ _ _ _ _ _ _ _ ws hs ss i k  _ HSz.out.rdG HWF.out HMF.out hii hik HG0.out) HRR.out).mono ?_
  rintro e w13 ⟨AH, nH, cH, BH, mH, dH, CH, qH, fH, rfl, hsH, hF13⟩
  have hz13 := hF13.size
  replace HA := Lib.hid (RdGB.fr HA.out hF13 (by omega) (by omega))
  replace HX := Lib.hid (HX.out.fr hF13 (by omega))
  replace HB := Lib.hid (below_fr HB.out hF13 (by omega) (by omega))
  replace HG0 := Lib.hid (glob_kept HG0.out hF13 (by omega) (by omega))
  replace HSW := Lib.hid (HSW.out.fr hF13 (by omega))
  replace HXW := Lib.hid (HXW.out.fr hF13 (by omega))
  replace HXx := Lib.hid (HXx.out.fr hF13 (by omega))
  replace HXG := Lib.hid (HXG.out.fr hF13 (by omega))
  replace HSG := Lib.hid (HSG.out.fr hF13 (by omega))
  replace HSz := Lib.hid (HSz.out.fr hF13 (by omega))
  clear hF13
  have HSH := Lib.hid hsH
  clear hsH
  obtain ⟨X13, hX13⟩ : ∃ X, X = w13.alloc (.cells #[.slice AH nH cH, .slice BH mH dH, .slice CH qH fH] 26) := ⟨_, rfl⟩
  have hG13 : Fr 0 0 w13 X13 := by rw [hX13]; exact fr_alloc _ _
  have HXH : Hid (Box3 X13 w13.heap.size 26 (.slice AH nH cH) (.slice BH mH dH) (.slice CH qH fH)) := Lib.hid (by rw [hX13]; exact box3_new _ _ _ _ _)
  have hsz13 : X13.heap.size = w13.heap.size + 1 := by rw [hX13]; simp
  have HH13 := Lib.hid hX13
  have q0HX := HX.out.cell0
  have a0HX := fun o => (HX.out.alloc o).cell0
  have q1HX := HX.out.cell1
  have a1HX := fun o => (HX.out.alloc o).cell1
  have q2HX := HX.out.cell2
  have a2HX := fun o => (HX.out.alloc o).cell2
  have q0HXW := HXW.out.cell0
  have a0HXW := fun o => (HXW.out.alloc o).cell0
  have q1HXW := HXW.out.cell1
  have a1HXW := fun o => (HXW.out.alloc o).cell1
  have q2HXW := HXW.out.cell2
  have a2HXW := fun o => (HXW.out.alloc o).cell2
  have q0HXx := HXx.out.cell0
  have a0HXx := fun o => (HXx.out.alloc o).cell0
  have q1HXx := HXx.out.cell1
  have a1HXx := fun o => (HXx.out.alloc o).cell1
  have q2HXx := HXx.out.cell2
  have a2HXx := fun o => (HXx.out.alloc o).cell2
  have q0HXG := HXG.out.cell0
  have a0HXG := fun o => (HXG.out.alloc o).cell0
  have q1HXG := HXG.out.cell1
  have a1HXG := fun o => (HXG.out.alloc o).cell1
  have q2HXG := HXG.out.cell2
  have a2HXG := fun o => (HXG.out.alloc o).cell2
  go_wp2_with fail
  clear q0HX a0HX q1HX a1HX q2HX a2HX q0HXW a0HXW q1HXW a1HXW q2HXW a2HXW q0HXx a0HXx q1HXx a1HXx q2HXx a2HXx q0HXG a0HXG q1HXG a1HXG q2HXG a2HXG
  rw [← HH13.out]
  have hzx13 := hG13.size
  replace HA := Lib.hid (RdGB.fr HA.out hG13 (by omega) (by omega))
  replace HX := Lib.hid (HX.out.fr hG13 (by omega))
  replace HB := Lib.hid (below_fr HB.out hG13 (by omega) (by omega))
  replace HG0 := Lib.hid (glob_kept HG0.out hG13 (by omega) (by omega))
  replace HSW := Lib.hid (HSW.out.fr hG13 (by omega))
  replace HXW := Lib.hid (HXW.out.fr hG13 (by omega))
  replace HXx := Lib.hid (HXx.out.fr hG13 (by omega))
  replace HXG := Lib.hid (HXG.out.fr hG13 (by omega))
  replace HSG := Lib.hid (HSG.out.fr hG13 (by omega))
  replace HSz := Lib.hid (HSz.out.fr hG13 (by omega))
  replace HSH := Lib.hid (HSH.out.fr hG13 (by omega))
  clear hX13 hG13
  refine (eqGauss_seg _ _ _ _ _ _ _ _ _ _ _ _ _ _ _ _ _ _ _ _ _ _ rw rh rs _ HSH.out HSW.out HND.out).mono ?_
  rintro e w14 ⟨rfl, hF14⟩
  have hz14 := hF14.size
  replace HA := Lib.hid (RdGB.fr HA.out hF14 (by omega) (by omega))
  replace HX := Lib.hid (HX.out.fr hF14 (by omega))
  replace HB := Lib.hid (below_fr HB.out hF14 (by omega) (by omega))
  replace HG0 := Lib.hid (glob_kept HG0.out hF14 (by omega) (by omega))
  replace HSW := Lib.hid (HSW.out.fr hF14 (by omega))
  replace HXW := Lib.hid (HXW.out.fr hF14 (by omega))
  replace HXx := Lib.hid (HXx.out.fr hF14 (by omega))
  replace HXG := Lib.hid (HXG.out.fr hF14 (by omega))
  replace HSG := Lib.hid (HSG.out.fr hF14 (by omega))
  replace HSH := Lib.hid (HSH.out.fr hF14 (by omega))
  replace HXH := Lib.hid (HXH.out.fr hF14 (by omega))
  clear hF14
  have q0HX := HX.out.cell0
  have q1HX := HX.out.cell1
  have q2HX := HX.out.cell2
  have q0HXW := HXW.out.cell0
  have q1HXW := HXW.out.cell1
  have q2HXW := HXW.out.cell2
  have q0HXx := HXx.out.cell0
  have q1HXx := HXx.out.cell1
  have q2HXx := HXx.out.cell2
  have q0HXG := HXG.out.cell0
  have q1HXG := HXG.out.cell1
  have q2HXG := HXG.out.cell2
  have q0HXH := HXH.out.cell0
  have q1HXH := HXH.out.cell1
  have q2HXH := HXH.out.cell2
  go_wp2_with fail
  clear q0HX q1HX q2HX q0HXW q1HXW q2HXW q0HXx q1HXx q2HXx q0HXG q1HXG q2HXG q0HXH q1HXH q2HXH
  refine (heldGauss_seg _ _ _ _ _ _ _ _ _ _ _ rw rh rs 1 _ HSG.out HND.out (by omega) (by omega)).mono ?_
  rintro e w15 ⟨rfl, hF15⟩
  have hz15 := hF15.size
  replace HA := Lib.hid (RdGB.fr HA.out hF15 (by omega) (by omega))
  replace HX := Lib.hid (HX.out.fr hF15 (by omega))
  replace HB := Lib.hid (below_fr HB.out hF15 (by omega) (by omega))
  replace HG0 := Lib.hid (glob_kept HG0.out hF15 (by omega) (by omega))
  replace HSW := Lib.hid (HSW.out.fr hF15 (by omega))
  replace HXW := Lib.hid (HXW.out.fr hF15 (by omega))
  replace HXx := Lib.hid (HXx.out.fr hF15 (by omega))
  replace HXG := Lib.hid (HXG.out.fr hF15 (by omega))
  replace HSG := Lib.hid (HSG.out.fr hF15 (by omega))
  replace HSH := Lib.hid (HSH.out.fr hF15 (by omega))
  replace HXH := Lib.hid (HXH.out.fr hF15 (by omega))
  clear hF15
  go_wp2_with fail
  go_ret
  exact ⟨rfl, HB.out⟩
end Go.Proofs.YtiedekdghdgocaaDoor
