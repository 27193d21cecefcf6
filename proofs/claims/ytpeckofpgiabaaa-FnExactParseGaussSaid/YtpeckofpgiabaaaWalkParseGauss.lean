/- The walk through the law ParseGauss. -/
import Derived.Test.YtpeckofpgiabaaaFParseGauss
import Derived.Test.YtpeckofpgiabaaaGau
import Derived.Test.YtpeckofpgiabaaaRow
namespace Go.Proofs.Ytpeckofpgiabaaa
open Go.ChangeShapes Go.WideShapes Go.ChangeAt Go.RowKit
set_option linter.unusedVariables false
set_option linter.unusedSimpArgs false
set_option maxRecDepth 100000

set_option maxHeartbeats 8000000 in
theorem lawParseGauss_any (tx : ByteArray) (w : World) (ht : tx.size ≤ maxLen) :
    Calls Try.prog 8 #[.string tx] w fun e w' => e = .returned (.bool true) ∧ Below w.heap.size w w' := by
  obtain ⟨rw, rh, rs, rz, hR⟩ : ∃ rw rh rs rz, parseGauss tx = ((rw, rh, rs), rz) := ⟨_, _, _, _, rfl⟩
  have hnd : FewG rw rh rs := by have h := parseG_few tx; rw [hR] at h; exact h
  have hnr : needG rw rh rs ≤ 1048576 := hnd
  have HRR := Lib.hid hR
  have HND := Lib.hid hnd
  have hrz : (rz != rz) = false := by simp
  have hq1 : ((1 + (needG rw rh rs : Int)) != (1 + (needG rw rh rs : Int))) = false := by simp
  have hq2 : ¬ (1 + (needG rw rh rs : Int) < 0) := by omega
  clear hR hnd
  have HB : Hid (Below w.heap.size w w) := Lib.hid (Below.refl _ _)
  unfold maxLen at ht
  by_cases hn : tx.size ≤ 1048576
  case neg =>
    go_enter Try.func8, Try.ntmps8
    go_wp2_with fail
    go_ret
    exact ⟨rfl, Below.refl _ _⟩
  go_enter Try.func8, Try.ntmps8
  go_wp2_with fail
  refine (GaveG.segr (specParseGauss_any tx _ hn) HRR.out).mono ?_
  rintro e w1 ⟨AW, nW, cW, BW, mW, dW, CW, qW, fW, rfl, hsW, hF1⟩
  have hz1 := hF1.size
  replace HB := Lib.hid (below_fr HB.out hF1 (by omega) (by omega))
  clear hF1
  have HSW := Lib.hid hsW
  clear hsW
  obtain ⟨X1, hX1⟩ : ∃ X, X = w1.alloc (.cells #[.slice AW nW cW, .slice BW mW dW, .slice CW qW fW] 27) := ⟨_, rfl⟩
  have hG1 : Fr 0 0 w1 X1 := by rw [hX1]; exact fr_alloc _ _
  have HXW : Hid (Box3 X1 w1.heap.size 27 (.slice AW nW cW) (.slice BW mW dW) (.slice CW qW fW)) := Lib.hid (by rw [hX1]; exact box3_new _ _ _ _ _)
  have hsz1 : X1.heap.size = w1.heap.size + 1 := by rw [hX1]; simp
  have HH1 := Lib.hid hX1
  go_wp2_with fail
  rw [← HH1.out]
  have hzx1 := hG1.size
  replace HB := Lib.hid (below_fr HB.out hG1 (by omega) (by omega))
  replace HSW := Lib.hid (HSW.out.fr hG1 (by omega))
  clear hX1 hG1
  refine (GaveG.segr (implParseGauss_any tx _ hn) HRR.out).mono ?_
  rintro e w2 ⟨AG, nG, cG, BG, mG, dG, CG, qG, fG, rfl, hsG, hF2⟩
  have hz2 := hF2.size
  replace HB := Lib.hid (below_fr HB.out hF2 (by omega) (by omega))
  replace HSW := Lib.hid (HSW.out.fr hF2 (by omega))
  replace HXW := Lib.hid (HXW.out.fr hF2 (by omega))
  clear hF2
  have HSG := Lib.hid hsG
  clear hsG
  obtain ⟨X2, hX2⟩ : ∃ X, X = w2.alloc (.cells #[.slice AG nG cG, .slice BG mG dG, .slice CG qG fG] 27) := ⟨_, rfl⟩
  have hG2 : Fr 0 0 w2 X2 := by rw [hX2]; exact fr_alloc _ _
  have HXG : Hid (Box3 X2 w2.heap.size 27 (.slice AG nG cG) (.slice BG mG dG) (.slice CG qG fG)) := Lib.hid (by rw [hX2]; exact box3_new _ _ _ _ _)
  have hsz2 : X2.heap.size = w2.heap.size + 1 := by rw [hX2]; simp
  have HH2 := Lib.hid hX2
  have q0HXW := HXW.out.cell0
  have a0HXW := fun o => (HXW.out.alloc o).cell0
  have q1HXW := HXW.out.cell1
  have a1HXW := fun o => (HXW.out.alloc o).cell1
  have q2HXW := HXW.out.cell2
  have a2HXW := fun o => (HXW.out.alloc o).cell2
  go_wp2_with fail
  clear q0HXW a0HXW q1HXW a1HXW q2HXW a2HXW
  rw [← HH2.out]
  have hzx2 := hG2.size
  replace HB := Lib.hid (below_fr HB.out hG2 (by omega) (by omega))
  replace HSW := Lib.hid (HSW.out.fr hG2 (by omega))
  replace HXW := Lib.hid (HXW.out.fr hG2 (by omega))
  replace HSG := Lib.hid (HSG.out.fr hG2 (by omega))
  clear hX2 hG2
  refine (eqGauss_seg _ _ _ _ _ _ _ _ _ _ _ _ _ _ _ _ _ _ _ _ _ _ rw rh rs _ HSG.out HSW.out HND.out).mono ?_
  rintro e w3 ⟨rfl, hF3⟩
  have hz3 := hF3.size
  replace HB := Lib.hid (below_fr HB.out hF3 (by omega) (by omega))
  replace HSW := Lib.hid (HSW.out.fr hF3 (by omega))
  replace HXW := Lib.hid (HXW.out.fr hF3 (by omega))
  replace HSG := Lib.hid (HSG.out.fr hF3 (by omega))
  replace HXG := Lib.hid (HXG.out.fr hF3 (by omega))
  clear hF3
  have q0HXW := HXW.out.cell0
  have q1HXW := HXW.out.cell1
  have q2HXW := HXW.out.cell2
  have q0HXG := HXG.out.cell0
  have q1HXG := HXG.out.cell1
  have q2HXG := HXG.out.cell2
  go_wp2_with fail
  clear q0HXW q1HXW q2HXW q0HXG q1HXG q2HXG
  refine (markGauss_seg _ _ _ _ _ _ _ _ _ _ _ rw rh rs 1 _ HSG.out HND.out (by omega) (by omega)).mono ?_
  rintro e w4 ⟨rfl, hsG, hF4⟩
  have hz4 := hF4.size
  replace HB := Lib.hid (below_fr HB.out hF4 (by omega) (by omega))
  replace HSW := Lib.hid (HSW.out.fr hF4 (by omega))
  replace HXW := Lib.hid (HXW.out.fr hF4 (by omega))
  replace HXG := Lib.hid (HXG.out.fr hF4 (by omega))
  clear hF4
  replace HSG := Lib.hid hsG
  clear hsG
  have q0HXW := HXW.out.cell0
  have q1HXW := HXW.out.cell1
  have q2HXW := HXW.out.cell2
  have q0HXG := HXG.out.cell0
  have q1HXG := HXG.out.cell1
  have q2HXG := HXG.out.cell2
  go_wp2_with fail
  clear q0HXW q1HXW q2HXW q0HXG q1HXG q2HXG
  refine (heldGauss_seg _ _ _ _ _ _ _ _ _ _ _ rw rh rs 1 _ HSG.out HND.out (by omega) (by omega)).mono ?_
  rintro e w5 ⟨rfl, hF5⟩
  have hz5 := hF5.size
  replace HB := Lib.hid (below_fr HB.out hF5 (by omega) (by omega))
  replace HSW := Lib.hid (HSW.out.fr hF5 (by omega))
  replace HXW := Lib.hid (HXW.out.fr hF5 (by omega))
  replace HXG := Lib.hid (HXG.out.fr hF5 (by omega))
  replace HSG := Lib.hid (HSG.out.fr hF5 (by omega))
  clear hF5
  have q0HXW := HXW.out.cell0
  have q1HXW := HXW.out.cell1
  have q2HXW := HXW.out.cell2
  have q0HXG := HXG.out.cell0
  have q1HXG := HXG.out.cell1
  have q2HXG := HXG.out.cell2
  go_wp2_with fail
  clear q0HXW q1HXW q2HXW q0HXG q1HXG q2HXG
  refine (GaveG.segr (implParseGauss_any tx _ hn) HRR.out).mono ?_
  rintro e w6 ⟨AH, nH, cH, BH, mH, dH, CH, qH, fH, rfl, hsH, hF6⟩
  have hz6 := hF6.size
  replace HB := Lib.hid (below_fr HB.out hF6 (by omega) (by omega))
  replace HSW := Lib.hid (HSW.out.fr hF6 (by omega))
  replace HXW := Lib.hid (HXW.out.fr hF6 (by omega))
  replace HXG := Lib.hid (HXG.out.fr hF6 (by omega))
  replace HSG := Lib.hid (HSG.out.fr hF6 (by omega))
  clear hF6
  have HSH := Lib.hid hsH
  clear hsH
  obtain ⟨X6, hX6⟩ : ∃ X, X = w6.alloc (.cells #[.slice AH nH cH, .slice BH mH dH, .slice CH qH fH] 27) := ⟨_, rfl⟩
  have hG6 : Fr 0 0 w6 X6 := by rw [hX6]; exact fr_alloc _ _
  have HXH : Hid (Box3 X6 w6.heap.size 27 (.slice AH nH cH) (.slice BH mH dH) (.slice CH qH fH)) := Lib.hid (by rw [hX6]; exact box3_new _ _ _ _ _)
  have hsz6 : X6.heap.size = w6.heap.size + 1 := by rw [hX6]; simp
  have HH6 := Lib.hid hX6
  have q0HXW := HXW.out.cell0
  have a0HXW := fun o => (HXW.out.alloc o).cell0
  have q1HXW := HXW.out.cell1
  have a1HXW := fun o => (HXW.out.alloc o).cell1
  have q2HXW := HXW.out.cell2
  have a2HXW := fun o => (HXW.out.alloc o).cell2
  have q0HXG := HXG.out.cell0
  have a0HXG := fun o => (HXG.out.alloc o).cell0
  have q1HXG := HXG.out.cell1
  have a1HXG := fun o => (HXG.out.alloc o).cell1
  have q2HXG := HXG.out.cell2
  have a2HXG := fun o => (HXG.out.alloc o).cell2
  go_wp2_with fail
  clear q0HXW a0HXW q1HXW a1HXW q2HXW a2HXW q0HXG a0HXG q1HXG a1HXG q2HXG a2HXG
  rw [← HH6.out]
  have hzx6 := hG6.size
  replace HB := Lib.hid (below_fr HB.out hG6 (by omega) (by omega))
  replace HSW := Lib.hid (HSW.out.fr hG6 (by omega))
  replace HXW := Lib.hid (HXW.out.fr hG6 (by omega))
  replace HXG := Lib.hid (HXG.out.fr hG6 (by omega))
  replace HSG := Lib.hid (HSG.out.fr hG6 (by omega))
  replace HSH := Lib.hid (HSH.out.fr hG6 (by omega))
  clear hX6 hG6
  refine (eqGauss_seg _ _ _ _ _ _ _ _ _ _ _ _ _ _ _ _ _ _ _ _ _ _ rw rh rs _ HSH.out HSW.out HND.out).mono ?_
  rintro e w7 ⟨rfl, hF7⟩
  have hz7 := hF7.size
  replace HB := Lib.hid (below_fr HB.out hF7 (by omega) (by omega))
  replace HSW := Lib.hid (HSW.out.fr hF7 (by omega))
  replace HXW := Lib.hid (HXW.out.fr hF7 (by omega))
  replace HXG := Lib.hid (HXG.out.fr hF7 (by omega))
  replace HSG := Lib.hid (HSG.out.fr hF7 (by omega))
  replace HSH := Lib.hid (HSH.out.fr hF7 (by omega))
  replace HXH := Lib.hid (HXH.out.fr hF7 (by omega))
  clear hF7
  have q0HXW := HXW.out.cell0
  have q1HXW := HXW.out.cell1
  have q2HXW := HXW.out.cell2
  have q0HXG := HXG.out.cell0
  have q1HXG := HXG.out.cell1
  have q2HXG := HXG.out.cell2
  have q0HXH := HXH.out.cell0
  have q1HXH := HXH.out.cell1
  have q2HXH := HXH.out.cell2
  go_wp2_with fail
  clear q0HXW q1HXW q2HXW q0HXG q1HXG q2HXG q0HXH q1HXH q2HXH
  refine (heldGauss_seg _ _ _ _ _ _ _ _ _ _ _ rw rh rs 1 _ HSG.out HND.out (by omega) (by omega)).mono ?_
  rintro e w8 ⟨rfl, hF8⟩
  have hz8 := hF8.size
  replace HB := Lib.hid (below_fr HB.out hF8 (by omega) (by omega))
  replace HSW := Lib.hid (HSW.out.fr hF8 (by omega))
  replace HXW := Lib.hid (HXW.out.fr hF8 (by omega))
  replace HXG := Lib.hid (HXG.out.fr hF8 (by omega))
  replace HSG := Lib.hid (HSG.out.fr hF8 (by omega))
  replace HSH := Lib.hid (HSH.out.fr hF8 (by omega))
  replace HXH := Lib.hid (HXH.out.fr hF8 (by omega))
  clear hF8
  go_wp2_with fail
  go_ret
  exact ⟨rfl, HB.out⟩
end Go.Proofs.Ytpeckofpgiabaaa
