/- The walk through the law NamedWeb. -/
import Derived.Test.YtdeefgmjlcdpfaaFNamedWeb
import Derived.Test.YtdeefgmjlcdpfaaWeb
import Derived.Test.YtdeefgmjlcdpfaaRow
import Derived.Deep.RegionHeld3
namespace Go.Proofs.Ytdeefgmjlcdpfaa
open Go.ChangeShapes Go.WideShapes Go.ChangeAt Go.RowKit
set_option linter.unusedVariables false
set_option linter.unusedSimpArgs false
set_option maxRecDepth 100000

set_option maxHeartbeats 8000000 in
theorem lawNamedWeb_any (nm : ByteArray) (w : World) (htnm : nm.size ≤ maxLen) :
    Calls Try.prog 6 #[.string nm] w fun e w' => e = .returned (.bool true) ∧ Below w.heap.size w w' := by
  obtain ⟨rx, rr, rz, hR⟩ : ∃ rx rr rz, namedWeb nm = ((rx, rr), rz) := ⟨_, _, _, rfl⟩
  have hnd : FewW rx rr := by have h := (namedWeb_few nm); rw [hR] at h; exact h
  have HRR := Lib.hid hR
  have HND := Lib.hid hnd
  clear hR hnd
  have hrz : (rz != rz) = false := by simp
  have hq1 : ((1 + (rx.length : Int) + (cells rr : Int)) != (1 + (rx.length : Int) + (cells rr : Int))) = false := by simp
  have hq2 : ¬ (1 + (rx.length : Int) + (cells rr : Int) < 0) := by omega
  obtain ⟨W, hW⟩ : ∃ W, W = w := ⟨_, rfl⟩
  have hF0 : Fr 0 0 w W := by rw [hW]; exact ⟨rfl, rfl, rfl, Nat.le_refl _, fun _ _ _ => rfl⟩
  have HB : Hid (Below w.heap.size w W) := Lib.hid (below_of_fr hF0)
  have hz0 := hF0.size
  have HWW := Lib.hid hW
  clear hW hF0 
  unfold maxLen at htnm
  by_cases hnnm : nm.size ≤ 1048576
  case neg =>
    go_enter Try.func6, Try.ntmps6
    go_wp2_with fail
    go_ret
    have hB := HB.out
    rw [HWW.out] at hB
    exact ⟨rfl, hB⟩
  rw [← HWW.out]
  go_enter Try.func6, Try.ntmps6
  go_wp2_with fail
  refine (GaveW.segr (specNamedWeb_any nm _ hnnm) HRR.out).mono ?_
  rintro e w1 ⟨BW, mW, dW, CW, qW, fW, rfl, hsW, hF1⟩
  have hz1 := hF1.size
  replace HB := Lib.hid (below_fr HB.out hF1 (by omega) (by omega))
  clear hF1
  have HSW := Lib.hid hsW
  clear hsW
  obtain ⟨X1, hX1⟩ : ∃ X, X = w1.alloc (.cells #[.slice BW mW dW, .slice CW qW fW] 41) := ⟨_, rfl⟩
  have hG1 : Fr 0 0 w1 X1 := by rw [hX1]; exact fr_alloc _ _
  have HXW : Hid (Box2 X1 w1.heap.size 41 (.slice BW mW dW) (.slice CW qW fW)) := Lib.hid (by rw [hX1]; exact box2_new _ _ _ _)
  have hsz1 : X1.heap.size = w1.heap.size + 1 := by rw [hX1]; simp
  have HH1 := Lib.hid hX1
  go_wp2_with fail
  rw [← HH1.out]
  have hzx1 := hG1.size
  replace HB := Lib.hid (below_fr HB.out hG1 (by omega) (by omega))
  replace HSW := Lib.hid (HSW.out.fr hG1 (by omega))
  clear hX1 hG1
  refine (GaveW.segr (implNamedWeb_any nm _ hnnm) HRR.out).mono ?_
  rintro e w2 ⟨BG, mG, dG, CG, qG, fG, rfl, hsG, hF2⟩
  have hz2 := hF2.size
  replace HB := Lib.hid (below_fr HB.out hF2 (by omega) (by omega))
  replace HSW := Lib.hid (HSW.out.fr hF2 (by omega))
  replace HXW := Lib.hid (HXW.out.fr hF2 (by omega))
  clear hF2
  have HSG := Lib.hid hsG
  clear hsG
  obtain ⟨X2, hX2⟩ : ∃ X, X = w2.alloc (.cells #[.slice BG mG dG, .slice CG qG fG] 41) := ⟨_, rfl⟩
  have hG2 : Fr 0 0 w2 X2 := by rw [hX2]; exact fr_alloc _ _
  have HXG : Hid (Box2 X2 w2.heap.size 41 (.slice BG mG dG) (.slice CG qG fG)) := Lib.hid (by rw [hX2]; exact box2_new _ _ _ _)
  have hsz2 : X2.heap.size = w2.heap.size + 1 := by rw [hX2]; simp
  have HH2 := Lib.hid hX2
  have q0HXW := HXW.out.cell0
  have q1HXW := HXW.out.cell1
  have a0HXW := fun o => (HXW.out.alloc o).cell0
  have a1HXW := fun o => (HXW.out.alloc o).cell1
  go_wp2_with fail
  clear q0HXW q1HXW a0HXW a1HXW
  rw [← HH2.out]
  have hzx2 := hG2.size
  replace HB := Lib.hid (below_fr HB.out hG2 (by omega) (by omega))
  replace HSW := Lib.hid (HSW.out.fr hG2 (by omega))
  replace HXW := Lib.hid (HXW.out.fr hG2 (by omega))
  replace HSG := Lib.hid (HSG.out.fr hG2 (by omega))
  clear hX2 hG2
  refine (eqWeb_seg _ _ _ _ _ _ _ _ _ _ _ _ _ _ _ _ rx rr _ HSG.out HSW.out HND.out).mono ?_
  rintro e w3 ⟨rfl, hF3⟩
  have hz3 := hF3.size
  replace HB := Lib.hid (below_fr HB.out hF3 (by omega) (by omega))
  replace HSW := Lib.hid (HSW.out.fr hF3 (by omega))
  replace HXW := Lib.hid (HXW.out.fr hF3 (by omega))
  replace HSG := Lib.hid (HSG.out.fr hF3 (by omega))
  replace HXG := Lib.hid (HXG.out.fr hF3 (by omega))
  clear hF3
  have q0HXW := HXW.out.cell0
  have q1HXW := HXW.out.cell1
  have q0HXG := HXG.out.cell0
  have q1HXG := HXG.out.cell1
  go_wp2_with fail
  clear q0HXW q1HXW q0HXG q1HXG
  refine (markWeb_seg _ _ _ _ _ _ _ _ rx rr 1 _ HSG.out HND.out (by omega) (by omega)).mono ?_
  rintro e w4 ⟨rfl, hsG, hF4⟩
  have hz4 := hF4.size
  replace HB := Lib.hid (below_fr HB.out hF4 (by omega) (by omega))
  replace HSW := Lib.hid (HSW.out.fr hF4 (by omega))
  replace HXW := Lib.hid (HXW.out.fr hF4 (by omega))
  replace HXG := Lib.hid (HXG.out.fr hF4 (by omega))
  clear hF4
  replace HSG := Lib.hid hsG
  clear hsG
  have q0HXW := HXW.out.cell0
  have q1HXW := HXW.out.cell1
  have q0HXG := HXG.out.cell0
  have q1HXG := HXG.out.cell1
  go_wp2_with fail
  clear q0HXW q1HXW q0HXG q1HXG
  refine (heldWeb_seg _ _ _ _ _ _ _ _ rx rr 1 _ HSG.out HND.out (by omega) (by omega)).mono ?_
  rintro e w5 ⟨rfl, hF5⟩
  have hz5 := hF5.size
  replace HB := Lib.hid (below_fr HB.out hF5 (by omega) (by omega))
  replace HSW := Lib.hid (HSW.out.fr hF5 (by omega))
  replace HXW := Lib.hid (HXW.out.fr hF5 (by omega))
  replace HXG := Lib.hid (HXG.out.fr hF5 (by omega))
  replace HSG := Lib.hid (HSG.out.fr hF5 (by omega))
  clear hF5
  have q0HXW := HXW.out.cell0
  have q1HXW := HXW.out.cell1
  have q0HXG := HXG.out.cell0
  have q1HXG := HXG.out.cell1
  go_wp2_with fail
  clear q0HXW q1HXW q0HXG q1HXG
  refine (GaveW.segr (implNamedWeb_any nm _ hnnm) HRR.out).mono ?_
  rintro e w6 ⟨BH, mH, dH, CH, qH, fH, rfl, hsH, hF6⟩
  have hz6 := hF6.size
  replace HB := Lib.hid (below_fr HB.out hF6 (by omega) (by omega))
  replace HSW := Lib.hid (HSW.out.fr hF6 (by omega))
  replace HXW := Lib.hid (HXW.out.fr hF6 (by omega))
  replace HXG := Lib.hid (HXG.out.fr hF6 (by omega))
  replace HSG := Lib.hid (HSG.out.fr hF6 (by omega))
  clear hF6
  have HSH := Lib.hid hsH
  clear hsH
  obtain ⟨X6, hX6⟩ : ∃ X, X = w6.alloc (.cells #[.slice BH mH dH, .slice CH qH fH] 41) := ⟨_, rfl⟩
  have hG6 : Fr 0 0 w6 X6 := by rw [hX6]; exact fr_alloc _ _
  have HXH : Hid (Box2 X6 w6.heap.size 41 (.slice BH mH dH) (.slice CH qH fH)) := Lib.hid (by rw [hX6]; exact box2_new _ _ _ _)
  have hsz6 : X6.heap.size = w6.heap.size + 1 := by rw [hX6]; simp
  have HH6 := Lib.hid hX6
  have q0HXW := HXW.out.cell0
  have q1HXW := HXW.out.cell1
  have q0HXG := HXG.out.cell0
  have q1HXG := HXG.out.cell1
  have a0HXW := fun o => (HXW.out.alloc o).cell0
  have a1HXW := fun o => (HXW.out.alloc o).cell1
  have a0HXG := fun o => (HXG.out.alloc o).cell0
  have a1HXG := fun o => (HXG.out.alloc o).cell1
  go_wp2_with fail
  clear q0HXW q1HXW q0HXG q1HXG a0HXW a1HXW a0HXG a1HXG
  rw [← HH6.out]
  have hzx6 := hG6.size
  replace HB := Lib.hid (below_fr HB.out hG6 (by omega) (by omega))
  replace HSW := Lib.hid (HSW.out.fr hG6 (by omega))
  replace HXW := Lib.hid (HXW.out.fr hG6 (by omega))
  replace HXG := Lib.hid (HXG.out.fr hG6 (by omega))
  replace HSG := Lib.hid (HSG.out.fr hG6 (by omega))
  replace HSH := Lib.hid (HSH.out.fr hG6 (by omega))
  clear hX6 hG6
  refine (eqWeb_seg _ _ _ _ _ _ _ _ _ _ _ _ _ _ _ _ rx rr _ HSH.out HSW.out HND.out).mono ?_
  rintro e w7 ⟨rfl, hF7⟩
  have hz7 := hF7.size
  replace HB := Lib.hid (below_fr HB.out hF7 (by omega) (by omega))
  replace HSW := Lib.hid (HSW.out.fr hF7 (by omega))
  replace HXW := Lib.hid (HXW.out.fr hF7 (by omega))
  replace HXG := Lib.hid (HXG.out.fr hF7 (by omega))
  replace HSG := Lib.hid (HSG.out.fr hF7 (by omega))
  replace HSH := Lib.hid (HSH.out.fr hF7 (by omega))
  replace HXH := Lib.hid (HXH.out.fr hF7 (by omega))
  clear hF7
  have q0HXW := HXW.out.cell0
  have q1HXW := HXW.out.cell1
  have q0HXG := HXG.out.cell0
  have q1HXG := HXG.out.cell1
  have q0HXH := HXH.out.cell0
  have q1HXH := HXH.out.cell1
  go_wp2_with fail
  clear q0HXW q1HXW q0HXG q1HXG q0HXH q1HXH
  refine (heldWeb_seg _ _ _ _ _ _ _ _ rx rr 1 _ HSG.out HND.out (by omega) (by omega)).mono ?_
  rintro e w8 ⟨rfl, hF8⟩
  have hz8 := hF8.size
  replace HB := Lib.hid (below_fr HB.out hF8 (by omega) (by omega))
  replace HSW := Lib.hid (HSW.out.fr hF8 (by omega))
  replace HXW := Lib.hid (HXW.out.fr hF8 (by omega))
  replace HXG := Lib.hid (HXG.out.fr hF8 (by omega))
  replace HSG := Lib.hid (HSG.out.fr hF8 (by omega))
  replace HSH := Lib.hid (HSH.out.fr hF8 (by omega))
  replace HXH := Lib.hid (HXH.out.fr hF8 (by omega))
  clear hF8
  go_wp2_with fail
  go_ret
  have hBB := HB.out
  first | exact ⟨rfl, hBB⟩ | (rw [← HWW.out] at hBB; exact ⟨rfl, hBB⟩) | (rw [HWW.out] at hBB; exact ⟨rfl, hBB⟩)
end Go.Proofs.Ytdeefgmjlcdpfaa
