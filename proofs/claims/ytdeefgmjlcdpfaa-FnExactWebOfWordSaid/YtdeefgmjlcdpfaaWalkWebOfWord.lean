/- The walk through the law WebOfWord. -/
import Derived.Test.YtdeefgmjlcdpfaaFWebOfWord
import Derived.Test.YtdeefgmjlcdpfaaWeb
import Derived.Test.YtdeefgmjlcdpfaaRow
import Derived.Deep.RegionHeld3
namespace Go.Proofs.Ytdeefgmjlcdpfaa
open Go.ChangeShapes Go.WideShapes Go.ChangeAt Go.RowKit
set_option linter.unusedVariables false
set_option linter.unusedSimpArgs false
set_option maxRecDepth 100000

set_option maxHeartbeats 8000000 in
theorem lawWebOfWord_any (Axs : Option Addr) (nxs cxs : Nat) (xs : List Int) (w : World) (hrxs : Rd w Axs nxs xs) (hwxs : Wf xs) :
    Calls Try.prog 7 #[.slice Axs nxs cxs] w fun e w' => e = .returned (.bool true) ∧ Below w.heap.size w w' := by
  obtain ⟨rx, rr, rz, hR⟩ : ∃ rx rr rz, webOfWord xs = ((rx, rr), rz) := ⟨_, _, _, rfl⟩
  have hnd : FewW rx rr := by have h := (webOfWord_few xs); rw [hR] at h; exact h
  have HRR := Lib.hid hR
  have HND := Lib.hid hnd
  clear hR hnd
  have hrz : (rz != rz) = false := by simp
  have hq1 : ((1 + (rx.length : Int) + (cells rr : Int)) != (1 + (rx.length : Int) + (cells rr : Int))) = false := by simp
  have hq2 : ¬ (1 + (rx.length : Int) + (cells rr : Int) < 0) := by omega
  obtain ⟨W, hW⟩ : ∃ W, W = w := ⟨_, rfl⟩
  have hF0 : Fr 0 0 w W := by rw [hW]; exact ⟨rfl, rfl, rfl, Nat.le_refl _, fun _ _ _ => rfl⟩
  have HAxs : Hid (RdB W w.heap.size Axs nxs xs) := Lib.hid (RdB.fr hrxs hF0 (by omega) (by omega))
  have HLxs := Lib.hid hrxs.len
  have HWxs := Lib.hid hwxs
  have HB : Hid (Below w.heap.size w W) := Lib.hid (below_of_fr hF0)
  have hz0 := hF0.size
  have HWW := Lib.hid hW
  clear hW hF0 hrxs hwxs
  by_cases hnxs : nxs ≤ 1048576
  case neg =>
    go_enter Try.func7, Try.ntmps7
    go_wp2_with fail
    go_ret
    have hB := HB.out
    rw [HWW.out] at hB
    exact ⟨rfl, hB⟩
  rw [← HWW.out]
  go_enter Try.func7, Try.ntmps7
  go_wp2_with fail
  refine (toInts_seg Axs nxs cxs xs _ (RdB.rd HAxs.out (by omega)) hnxs).mono ?_
  rintro e w1 ⟨Baxs, maxs, daxs, rfl, hlaxs, hsaxs, hF1⟩
  have hz1 := hF1.size
  replace HAxs := Lib.hid (RdB.fr HAxs.out hF1 (by omega) (by omega))
  replace HB := Lib.hid (below_fr HB.out hF1 (by omega) (by omega))
  clear hF1
  have HSaxs := Lib.hid hsaxs
  have HMaxs := Lib.hid hlaxs
  have hbaxs : maxs ≤ 1048576 := by have h1 := HLxs.out; omega
  clear hsaxs hlaxs
  go_wp2_with fail
  refine (GaveW.segr (specWebOfWord_any _ _ _ xs _ HSaxs.out.rd HWxs.out hbaxs HSaxs.out.cap) HRR.out).mono ?_
  rintro e w2 ⟨BW, mW, dW, CW, qW, fW, rfl, hsW, hF2⟩
  have hz2 := hF2.size
  replace HAxs := Lib.hid (RdB.fr HAxs.out hF2 (by omega) (by omega))
  replace HB := Lib.hid (below_fr HB.out hF2 (by omega) (by omega))
  replace HSaxs := Lib.hid (HSaxs.out.fr hF2 (by omega))
  clear hF2
  have HSW := Lib.hid hsW
  clear hsW
  obtain ⟨X2, hX2⟩ : ∃ X, X = w2.alloc (.cells #[.slice BW mW dW, .slice CW qW fW] 41) := ⟨_, rfl⟩
  have hG2 : Fr 0 0 w2 X2 := by rw [hX2]; exact fr_alloc _ _
  have HXW : Hid (Box2 X2 w2.heap.size 41 (.slice BW mW dW) (.slice CW qW fW)) := Lib.hid (by rw [hX2]; exact box2_new _ _ _ _)
  have hsz2 : X2.heap.size = w2.heap.size + 1 := by rw [hX2]; simp
  have HH2 := Lib.hid hX2
  go_wp2_with fail
  rw [← HH2.out]
  have hzx2 := hG2.size
  replace HAxs := Lib.hid (RdB.fr HAxs.out hG2 (by omega) (by omega))
  replace HB := Lib.hid (below_fr HB.out hG2 (by omega) (by omega))
  replace HSaxs := Lib.hid (HSaxs.out.fr hG2 (by omega))
  replace HSW := Lib.hid (HSW.out.fr hG2 (by omega))
  clear hX2 hG2
  refine (toInts_seg Axs nxs cxs xs _ (RdB.rd HAxs.out (by omega)) hnxs).mono ?_
  rintro e w3 ⟨Bxxs, mxxs, dxxs, rfl, hlxxs, hsxxs, hF3⟩
  have hz3 := hF3.size
  replace HAxs := Lib.hid (RdB.fr HAxs.out hF3 (by omega) (by omega))
  replace HB := Lib.hid (below_fr HB.out hF3 (by omega) (by omega))
  replace HSW := Lib.hid (HSW.out.fr hF3 (by omega))
  replace HXW := Lib.hid (HXW.out.fr hF3 (by omega))
  clear hF3
  have HSxxs := Lib.hid hsxxs
  have HMxxs := Lib.hid hlxxs
  have hbxxs : mxxs ≤ 1048576 := by have h1 := HLxs.out; omega
  clear hsxxs hlxxs
  have q0HXW := HXW.out.cell0
  have q1HXW := HXW.out.cell1
  go_wp2_with fail
  clear q0HXW q1HXW
  refine (GaveW.segr (implWebOfWord_any _ _ _ xs _ HSxxs.out.rd HWxs.out hbxxs HSxxs.out.cap) HRR.out).mono ?_
  rintro e w4 ⟨BG, mG, dG, CG, qG, fG, rfl, hsG, hF4⟩
  have hz4 := hF4.size
  replace HAxs := Lib.hid (RdB.fr HAxs.out hF4 (by omega) (by omega))
  replace HB := Lib.hid (below_fr HB.out hF4 (by omega) (by omega))
  replace HSW := Lib.hid (HSW.out.fr hF4 (by omega))
  replace HXW := Lib.hid (HXW.out.fr hF4 (by omega))
  replace HSxxs := Lib.hid (HSxxs.out.fr hF4 (by omega))
  clear hF4
  have HSG := Lib.hid hsG
  clear hsG
  obtain ⟨X4, hX4⟩ : ∃ X, X = w4.alloc (.cells #[.slice BG mG dG, .slice CG qG fG] 41) := ⟨_, rfl⟩
  have hG4 : Fr 0 0 w4 X4 := by rw [hX4]; exact fr_alloc _ _
  have HXG : Hid (Box2 X4 w4.heap.size 41 (.slice BG mG dG) (.slice CG qG fG)) := Lib.hid (by rw [hX4]; exact box2_new _ _ _ _)
  have hsz4 : X4.heap.size = w4.heap.size + 1 := by rw [hX4]; simp
  have HH4 := Lib.hid hX4
  have q0HXW := HXW.out.cell0
  have q1HXW := HXW.out.cell1
  have a0HXW := fun o => (HXW.out.alloc o).cell0
  have a1HXW := fun o => (HXW.out.alloc o).cell1
  go_wp2_with fail
  clear q0HXW q1HXW a0HXW a1HXW
  rw [← HH4.out]
  have hzx4 := hG4.size
  replace HAxs := Lib.hid (RdB.fr HAxs.out hG4 (by omega) (by omega))
  replace HB := Lib.hid (below_fr HB.out hG4 (by omega) (by omega))
  replace HSW := Lib.hid (HSW.out.fr hG4 (by omega))
  replace HXW := Lib.hid (HXW.out.fr hG4 (by omega))
  replace HSxxs := Lib.hid (HSxxs.out.fr hG4 (by omega))
  replace HSG := Lib.hid (HSG.out.fr hG4 (by omega))
  clear hX4 hG4
  refine (eqWeb_seg _ _ _ _ _ _ _ _ _ _ _ _ _ _ _ _ rx rr _ HSG.out HSW.out HND.out).mono ?_
  rintro e w5 ⟨rfl, hF5⟩
  have hz5 := hF5.size
  replace HAxs := Lib.hid (RdB.fr HAxs.out hF5 (by omega) (by omega))
  replace HB := Lib.hid (below_fr HB.out hF5 (by omega) (by omega))
  replace HSW := Lib.hid (HSW.out.fr hF5 (by omega))
  replace HXW := Lib.hid (HXW.out.fr hF5 (by omega))
  replace HSxxs := Lib.hid (HSxxs.out.fr hF5 (by omega))
  replace HSG := Lib.hid (HSG.out.fr hF5 (by omega))
  replace HXG := Lib.hid (HXG.out.fr hF5 (by omega))
  clear hF5
  have q0HXW := HXW.out.cell0
  have q1HXW := HXW.out.cell1
  have q0HXG := HXG.out.cell0
  have q1HXG := HXG.out.cell1
  go_wp2_with fail
  clear q0HXW q1HXW q0HXG q1HXG
  refine (toInts_seg Axs nxs cxs xs _ (RdB.rd HAxs.out (by omega)) hnxs).mono ?_
  rintro e w6 ⟨Byxs, myxs, dyxs, rfl, hlyxs, hsyxs, hF6⟩
  have hz6 := hF6.size
  replace HAxs := Lib.hid (RdB.fr HAxs.out hF6 (by omega) (by omega))
  replace HB := Lib.hid (below_fr HB.out hF6 (by omega) (by omega))
  replace HSW := Lib.hid (HSW.out.fr hF6 (by omega))
  replace HXW := Lib.hid (HXW.out.fr hF6 (by omega))
  replace HSxxs := Lib.hid (HSxxs.out.fr hF6 (by omega))
  replace HSG := Lib.hid (HSG.out.fr hF6 (by omega))
  replace HXG := Lib.hid (HXG.out.fr hF6 (by omega))
  clear hF6
  have HSyxs := Lib.hid hsyxs
  have HMyxs := Lib.hid hlyxs
  have hbyxs : myxs ≤ 1048576 := by have h1 := HLxs.out; omega
  clear hsyxs hlyxs
  have q0HXW := HXW.out.cell0
  have q1HXW := HXW.out.cell1
  have q0HXG := HXG.out.cell0
  have q1HXG := HXG.out.cell1
  go_wp2_with fail
  clear q0HXW q1HXW q0HXG q1HXG
  refine (eqInts_seg _ _ _ _ _ _ xs xs _ HSxxs.out.rd HSyxs.out.rd hbxxs hbyxs).mono ?_
  rintro e w7 ⟨rfl, hF7⟩
  have hz7 := hF7.size
  replace HAxs := Lib.hid (RdB.fr HAxs.out hF7 (by omega) (by omega))
  replace HB := Lib.hid (below_fr HB.out hF7 (by omega) (by omega))
  replace HSW := Lib.hid (HSW.out.fr hF7 (by omega))
  replace HXW := Lib.hid (HXW.out.fr hF7 (by omega))
  replace HSxxs := Lib.hid (HSxxs.out.fr hF7 (by omega))
  replace HSG := Lib.hid (HSG.out.fr hF7 (by omega))
  replace HXG := Lib.hid (HXG.out.fr hF7 (by omega))
  replace HSyxs := Lib.hid (HSyxs.out.fr hF7 (by omega))
  clear hF7
  rw [eq_self_b xs]
  have q0HXW := HXW.out.cell0
  have q1HXW := HXW.out.cell1
  have q0HXG := HXG.out.cell0
  have q1HXG := HXG.out.cell1
  go_wp2_with fail
  clear q0HXW q1HXW q0HXG q1HXG
  refine (mark_seg _ _ _ xs _ _ _ HSxxs.out HMxxs.out hbxxs _ (by omega) (by omega)).mono ?_
  rintro e w8 ⟨rfl, hsxxs, hF8⟩
  have hz8 := hF8.size
  replace HAxs := Lib.hid (RdB.fr HAxs.out hF8 (by omega) (by omega))
  replace HB := Lib.hid (below_fr HB.out hF8 (by omega) (by omega))
  replace HSW := Lib.hid (HSW.out.fr hF8 (by omega))
  replace HXW := Lib.hid (HXW.out.fr hF8 (by omega))
  replace HSG := Lib.hid (HSG.out.fr hF8 (by omega))
  replace HXG := Lib.hid (HXG.out.fr hF8 (by omega))
  clear hF8
  clear HSxxs hsxxs
  have q0HXW := HXW.out.cell0
  have q1HXW := HXW.out.cell1
  have q0HXG := HXG.out.cell0
  have q1HXG := HXG.out.cell1
  go_wp2_with fail
  clear q0HXW q1HXW q0HXG q1HXG
  refine (eqWeb_seg _ _ _ _ _ _ _ _ _ _ _ _ _ _ _ _ rx rr _ HSG.out HSW.out HND.out).mono ?_
  rintro e w9 ⟨rfl, hF9⟩
  have hz9 := hF9.size
  replace HAxs := Lib.hid (RdB.fr HAxs.out hF9 (by omega) (by omega))
  replace HB := Lib.hid (below_fr HB.out hF9 (by omega) (by omega))
  replace HSW := Lib.hid (HSW.out.fr hF9 (by omega))
  replace HXW := Lib.hid (HXW.out.fr hF9 (by omega))
  replace HSG := Lib.hid (HSG.out.fr hF9 (by omega))
  replace HXG := Lib.hid (HXG.out.fr hF9 (by omega))
  clear hF9
  have q0HXW := HXW.out.cell0
  have q1HXW := HXW.out.cell1
  have q0HXG := HXG.out.cell0
  have q1HXG := HXG.out.cell1
  go_wp2_with fail
  clear q0HXW q1HXW q0HXG q1HXG
  refine (markWeb_seg _ _ _ _ _ _ _ _ rx rr 1 _ HSG.out HND.out (by omega) (by omega)).mono ?_
  rintro e w10 ⟨rfl, hsG, hF10⟩
  have hz10 := hF10.size
  replace HAxs := Lib.hid (RdB.fr HAxs.out hF10 (by omega) (by omega))
  replace HB := Lib.hid (below_fr HB.out hF10 (by omega) (by omega))
  replace HSW := Lib.hid (HSW.out.fr hF10 (by omega))
  replace HXW := Lib.hid (HXW.out.fr hF10 (by omega))
  replace HXG := Lib.hid (HXG.out.fr hF10 (by omega))
  clear hF10
  replace HSG := Lib.hid hsG
  clear hsG
  have q0HXW := HXW.out.cell0
  have q1HXW := HXW.out.cell1
  have q0HXG := HXG.out.cell0
  have q1HXG := HXG.out.cell1
  go_wp2_with fail
  clear q0HXW q1HXW q0HXG q1HXG
  refine (heldWeb_seg _ _ _ _ _ _ _ _ rx rr 1 _ HSG.out HND.out (by omega) (by omega)).mono ?_
  rintro e w11 ⟨rfl, hF11⟩
  have hz11 := hF11.size
  replace HAxs := Lib.hid (RdB.fr HAxs.out hF11 (by omega) (by omega))
  replace HB := Lib.hid (below_fr HB.out hF11 (by omega) (by omega))
  replace HSW := Lib.hid (HSW.out.fr hF11 (by omega))
  replace HXW := Lib.hid (HXW.out.fr hF11 (by omega))
  replace HXG := Lib.hid (HXG.out.fr hF11 (by omega))
  replace HSG := Lib.hid (HSG.out.fr hF11 (by omega))
  clear hF11
  have q0HXW := HXW.out.cell0
  have q1HXW := HXW.out.cell1
  have q0HXG := HXG.out.cell0
  have q1HXG := HXG.out.cell1
  go_wp2_with fail
  clear q0HXW q1HXW q0HXG q1HXG
  refine (toInts_seg Axs nxs cxs xs _ (RdB.rd HAxs.out (by omega)) hnxs).mono ?_
  rintro e w12 ⟨Bzxs, mzxs, dzxs, rfl, hlzxs, hszxs, hF12⟩
  have hz12 := hF12.size
  replace HAxs := Lib.hid (RdB.fr HAxs.out hF12 (by omega) (by omega))
  replace HB := Lib.hid (below_fr HB.out hF12 (by omega) (by omega))
  replace HSW := Lib.hid (HSW.out.fr hF12 (by omega))
  replace HXW := Lib.hid (HXW.out.fr hF12 (by omega))
  replace HXG := Lib.hid (HXG.out.fr hF12 (by omega))
  replace HSG := Lib.hid (HSG.out.fr hF12 (by omega))
  clear hF12
  have HSzxs := Lib.hid hszxs
  have HMzxs := Lib.hid hlzxs
  have hbzxs : mzxs ≤ 1048576 := by have h1 := HLxs.out; omega
  clear hszxs hlzxs
  have q0HXW := HXW.out.cell0
  have q1HXW := HXW.out.cell1
  have q0HXG := HXG.out.cell0
  have q1HXG := HXG.out.cell1
  go_wp2_with fail
  clear q0HXW q1HXW q0HXG q1HXG
  refine (GaveW.segr (implWebOfWord_any _ _ _ xs _ HSzxs.out.rd HWxs.out hbzxs HSzxs.out.cap) HRR.out).mono ?_
  rintro e w13 ⟨BH, mH, dH, CH, qH, fH, rfl, hsH, hF13⟩
  have hz13 := hF13.size
  replace HAxs := Lib.hid (RdB.fr HAxs.out hF13 (by omega) (by omega))
  replace HB := Lib.hid (below_fr HB.out hF13 (by omega) (by omega))
  replace HSW := Lib.hid (HSW.out.fr hF13 (by omega))
  replace HXW := Lib.hid (HXW.out.fr hF13 (by omega))
  replace HXG := Lib.hid (HXG.out.fr hF13 (by omega))
  replace HSG := Lib.hid (HSG.out.fr hF13 (by omega))
  replace HSzxs := Lib.hid (HSzxs.out.fr hF13 (by omega))
  clear hF13
  have HSH := Lib.hid hsH
  clear hsH
  obtain ⟨X13, hX13⟩ : ∃ X, X = w13.alloc (.cells #[.slice BH mH dH, .slice CH qH fH] 41) := ⟨_, rfl⟩
  have hG13 : Fr 0 0 w13 X13 := by rw [hX13]; exact fr_alloc _ _
  have HXH : Hid (Box2 X13 w13.heap.size 41 (.slice BH mH dH) (.slice CH qH fH)) := Lib.hid (by rw [hX13]; exact box2_new _ _ _ _)
  have hsz13 : X13.heap.size = w13.heap.size + 1 := by rw [hX13]; simp
  have HH13 := Lib.hid hX13
  have q0HXW := HXW.out.cell0
  have q1HXW := HXW.out.cell1
  have q0HXG := HXG.out.cell0
  have q1HXG := HXG.out.cell1
  have a0HXW := fun o => (HXW.out.alloc o).cell0
  have a1HXW := fun o => (HXW.out.alloc o).cell1
  have a0HXG := fun o => (HXG.out.alloc o).cell0
  have a1HXG := fun o => (HXG.out.alloc o).cell1
  go_wp2_with fail
  clear q0HXW q1HXW q0HXG q1HXG a0HXW a1HXW a0HXG a1HXG
  rw [← HH13.out]
  have hzx13 := hG13.size
  replace HAxs := Lib.hid (RdB.fr HAxs.out hG13 (by omega) (by omega))
  replace HB := Lib.hid (below_fr HB.out hG13 (by omega) (by omega))
  replace HSW := Lib.hid (HSW.out.fr hG13 (by omega))
  replace HXW := Lib.hid (HXW.out.fr hG13 (by omega))
  replace HXG := Lib.hid (HXG.out.fr hG13 (by omega))
  replace HSG := Lib.hid (HSG.out.fr hG13 (by omega))
  replace HSzxs := Lib.hid (HSzxs.out.fr hG13 (by omega))
  replace HSH := Lib.hid (HSH.out.fr hG13 (by omega))
  clear hX13 hG13
  refine (eqWeb_seg _ _ _ _ _ _ _ _ _ _ _ _ _ _ _ _ rx rr _ HSH.out HSW.out HND.out).mono ?_
  rintro e w14 ⟨rfl, hF14⟩
  have hz14 := hF14.size
  replace HAxs := Lib.hid (RdB.fr HAxs.out hF14 (by omega) (by omega))
  replace HB := Lib.hid (below_fr HB.out hF14 (by omega) (by omega))
  replace HSW := Lib.hid (HSW.out.fr hF14 (by omega))
  replace HXW := Lib.hid (HXW.out.fr hF14 (by omega))
  replace HXG := Lib.hid (HXG.out.fr hF14 (by omega))
  replace HSG := Lib.hid (HSG.out.fr hF14 (by omega))
  replace HSH := Lib.hid (HSH.out.fr hF14 (by omega))
  replace HXH := Lib.hid (HXH.out.fr hF14 (by omega))
  clear hF14
  have q0HXW := HXW.out.cell0
  have q1HXW := HXW.out.cell1
  have q0HXG := HXG.out.cell0
  have q1HXG := HXG.out.cell1
  have q0HXH := HXH.out.cell0
  have q1HXH := HXH.out.cell1
  go_wp2_with fail
  clear q0HXW q1HXW q0HXG q1HXG q0HXH q1HXH
  refine (heldWeb_seg _ _ _ _ _ _ _ _ rx rr 1 _ HSG.out HND.out (by omega) (by omega)).mono ?_
  rintro e w15 ⟨rfl, hF15⟩
  have hz15 := hF15.size
  replace HAxs := Lib.hid (RdB.fr HAxs.out hF15 (by omega) (by omega))
  replace HB := Lib.hid (below_fr HB.out hF15 (by omega) (by omega))
  replace HSW := Lib.hid (HSW.out.fr hF15 (by omega))
  replace HXW := Lib.hid (HXW.out.fr hF15 (by omega))
  replace HXG := Lib.hid (HXG.out.fr hF15 (by omega))
  replace HSG := Lib.hid (HSG.out.fr hF15 (by omega))
  replace HSH := Lib.hid (HSH.out.fr hF15 (by omega))
  replace HXH := Lib.hid (HXH.out.fr hF15 (by omega))
  clear hF15
  go_wp2_with fail
  go_ret
  have hBB := HB.out
  first | exact ⟨rfl, hBB⟩ | (rw [← HWW.out] at hBB; exact ⟨rfl, hBB⟩) | (rw [HWW.out] at hBB; exact ⟨rfl, hBB⟩)
end Go.Proofs.Ytdeefgmjlcdpfaa
