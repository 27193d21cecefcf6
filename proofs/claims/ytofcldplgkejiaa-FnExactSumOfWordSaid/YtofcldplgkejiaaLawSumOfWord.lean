/- FnExactSumOfWord: for every input the program's SumOfWord answers as the model's, writes into no argument, and its answer owns its memory.
   No condition. -/
import Derived.Test.YtofcldplgkejiaaFCircleSum
import Derived.Test.YtofcldplgkejiaaSumRow
import Derived.Test.YtofcldplgkejiaaSumGave
import Derived.Test.YtofcldplgkejiaaRow
import Derived.Deep.RegionHeld3
namespace Go.Proofs.Ytofcldplgkejiaa
open Go.ChangeShapes Go.WideShapes Go.ChangeAt Go.RowKit
set_option linter.unusedVariables false
set_option linter.unusedSimpArgs false
set_option maxRecDepth 100000

set_option maxHeartbeats 8000000 in
theorem lawSumOfWord_any (pp : Int) (Axs : Option Addr) (nxs cxs : Nat) (xs : List Int) (vv : Int) (w : World) (hipp : -9223372036854775808 ≤ pp ∧ pp ≤ 9223372036854775807) (hrxs : Rd w Axs nxs xs) (hwxs : Wf xs) (hivv : -9223372036854775808 ≤ vv ∧ vv ≤ 9223372036854775807) :
    Calls Try.prog 3 #[.int .i64 pp, .slice Axs nxs cxs, .int .i64 vv] w fun e w' => e = .returned (.bool true) ∧ Below w.heap.size w w' := by
  obtain ⟨rp, rts, rz, hR⟩ : ∃ rp rts rz, sumOfWord pp xs vv = ((rp, rts), rz) := ⟨_, _, _, rfl⟩
  have hnd : need rts ≤ 1048576 := by have h := (sumOfWord_need pp xs vv); rw [hR] at h; exact h
  have HRR := Lib.hid hR
  clear hR
  have hrp : (rp != rp) = false := by simp
  have hrz : (rz != rz) = false := by simp
  have hq1 : ((1 + (need rts : Int)) != (1 + (need rts : Int))) = false := by simp
  obtain ⟨W, hW⟩ : ∃ W, W = w := ⟨_, rfl⟩
  have hF0 : Fr 0 0 w W := by rw [hW]; exact ⟨rfl, rfl, rfl, Nat.le_refl _, fun _ _ _ => rfl⟩
  have HAxs : Hid (RdB W w.heap.size Axs nxs xs) := Lib.hid (RdB.fr hrxs hF0 (by omega) (by omega))
  have HLxs := Lib.hid hrxs.len
  have HWxs := Lib.hid hwxs
  have HB : Hid (Below w.heap.size w W) := Lib.hid (below_of_fr hF0)
  have hz0 := hF0.size
  have HWW := Lib.hid hW
  clear hW hF0 hrxs hwxs
  by_cases hnxs : nxs ≤ 1048576
  case neg =>
    go_enter Try.func3, Try.ntmps3
    go_wp2_with fail
    go_ret
    have hB := HB.out
    rw [HWW.out] at hB
    exact ⟨rfl, hB⟩
  rw [← HWW.out]
  go_enter Try.func3, Try.ntmps3
  go_wp2_with fail
  refine (toInts_seg Axs nxs cxs xs _ (RdB.rd HAxs.out (by omega)) hnxs).mono ?_
  rintro e w1 ⟨Baxs, maxs, daxs, rfl, hlaxs, hsaxs, hF1⟩
  have hz1 := hF1.size
  replace HAxs := Lib.hid (RdB.fr HAxs.out hF1 (by omega) (by omega))
  replace HB := Lib.hid (below_fr HB.out hF1 (by omega) (by omega))
  clear hF1
  have HSaxs := Lib.hid hsaxs
  have HMaxs := Lib.hid hlaxs
  have hbaxs : maxs ≤ 1048576 := by have h1 := HLxs.out; omega
  clear hsaxs hlaxs
  go_wp2_with fail
  refine (GaveS.segr (specSumOfWord_any pp _ _ _ xs vv _ hipp HSaxs.out.rd HWxs.out hbaxs HSaxs.out.cap hivv) HRR.out).mono ?_
  rintro e w2 ⟨BW, mW, dW, rfl, hsW, hF2⟩
  have hz2 := hF2.size
  replace HAxs := Lib.hid (RdB.fr HAxs.out hF2 (by omega) (by omega))
  replace HB := Lib.hid (below_fr HB.out hF2 (by omega) (by omega))
  replace HSaxs := Lib.hid (HSaxs.out.fr hF2 (by omega))
  clear hF2
  have HSW := Lib.hid hsW
  clear hsW
  obtain ⟨X2, hX2⟩ : ∃ X, X = w2.alloc (.cells #[.int .i64 rp, .slice BW mW dW] 25) := ⟨_, rfl⟩
  have hG2 : Fr 0 0 w2 X2 := by rw [hX2]; exact fr_alloc _ _
  have HXW : Hid (Box2 X2 w2.heap.size 25 (.int .i64 rp) (.slice BW mW dW)) := Lib.hid (by rw [hX2]; exact box2_new _ _ _ _)
  have hsz2 : X2.heap.size = w2.heap.size + 1 := by rw [hX2]; simp
  have HH2 := Lib.hid hX2
  go_wp2_with fail
  rw [← HH2.out]
  have hzx2 := hG2.size
  replace HAxs := Lib.hid (RdB.fr HAxs.out hG2 (by omega) (by omega))
  replace HB := Lib.hid (below_fr HB.out hG2 (by omega) (by omega))
  replace HSaxs := Lib.hid (HSaxs.out.fr hG2 (by omega))
  replace HSW := Lib.hid (HSW.out.fr hG2 (by omega))
  clear hX2 hG2
  refine (toInts_seg Axs nxs cxs xs _ (RdB.rd HAxs.out (by omega)) hnxs).mono ?_
  rintro e w3 ⟨Bxxs, mxxs, dxxs, rfl, hlxxs, hsxxs, hF3⟩
  have hz3 := hF3.size
  replace HAxs := Lib.hid (RdB.fr HAxs.out hF3 (by omega) (by omega))
  replace HB := Lib.hid (below_fr HB.out hF3 (by omega) (by omega))
  replace HSW := Lib.hid (HSW.out.fr hF3 (by omega))
  replace HXW := Lib.hid (HXW.out.fr hF3 (by omega))
  clear hF3
  have HSxxs := Lib.hid hsxxs
  have HMxxs := Lib.hid hlxxs
  have hbxxs : mxxs ≤ 1048576 := by have h1 := HLxs.out; omega
  clear hsxxs hlxxs
  have q0HXW := HXW.out.cell0
  have q1HXW := HXW.out.cell1
  go_wp2_with fail
  clear q0HXW q1HXW
  refine (GaveS.segr (implSumOfWord_any pp _ _ _ xs vv _ hipp HSxxs.out.rd HWxs.out hbxxs HSxxs.out.cap hivv) HRR.out).mono ?_
  rintro e w4 ⟨BG, mG, dG, rfl, hsG, hF4⟩
  have hz4 := hF4.size
  replace HAxs := Lib.hid (RdB.fr HAxs.out hF4 (by omega) (by omega))
  replace HB := Lib.hid (below_fr HB.out hF4 (by omega) (by omega))
  replace HSW := Lib.hid (HSW.out.fr hF4 (by omega))
  replace HXW := Lib.hid (HXW.out.fr hF4 (by omega))
  replace HSxxs := Lib.hid (HSxxs.out.fr hF4 (by omega))
  clear hF4
  have HSG := Lib.hid hsG
  clear hsG
  obtain ⟨X4, hX4⟩ : ∃ X, X = w4.alloc (.cells #[.int .i64 rp, .slice BG mG dG] 25) := ⟨_, rfl⟩
  have hG4 : Fr 0 0 w4 X4 := by rw [hX4]; exact fr_alloc _ _
  have HXG : Hid (Box2 X4 w4.heap.size 25 (.int .i64 rp) (.slice BG mG dG)) := Lib.hid (by rw [hX4]; exact box2_new _ _ _ _)
  have hsz4 : X4.heap.size = w4.heap.size + 1 := by rw [hX4]; simp
  have HH4 := Lib.hid hX4
  have q0HXW := HXW.out.cell0
  have q1HXW := HXW.out.cell1
  have a0HXW := fun o => (HXW.out.alloc o).cell0
  have a1HXW := fun o => (HXW.out.alloc o).cell1
  go_wp2_with fail
  clear q0HXW q1HXW a0HXW a1HXW
  rw [← HH4.out]
  have hzx4 := hG4.size
  replace HAxs := Lib.hid (RdB.fr HAxs.out hG4 (by omega) (by omega))
  replace HB := Lib.hid (below_fr HB.out hG4 (by omega) (by omega))
  replace HSW := Lib.hid (HSW.out.fr hG4 (by omega))
  replace HXW := Lib.hid (HXW.out.fr hG4 (by omega))
  replace HSxxs := Lib.hid (HSxxs.out.fr hG4 (by omega))
  replace HSG := Lib.hid (HSG.out.fr hG4 (by omega))
  clear hX4 hG4
  refine (eqSum_seg rp _ _ _ _ _ _ rts _ HSG.out.rd HSW.out.rd hnd).mono ?_
  rintro e w5 ⟨rfl, hF5⟩
  have hz5 := hF5.size
  replace HAxs := Lib.hid (RdB.fr HAxs.out hF5 (by omega) (by omega))
  replace HB := Lib.hid (below_fr HB.out hF5 (by omega) (by omega))
  replace HSW := Lib.hid (HSW.out.fr hF5 (by omega))
  replace HXW := Lib.hid (HXW.out.fr hF5 (by omega))
  replace HSxxs := Lib.hid (HSxxs.out.fr hF5 (by omega))
  replace HSG := Lib.hid (HSG.out.fr hF5 (by omega))
  replace HXG := Lib.hid (HXG.out.fr hF5 (by omega))
  clear hF5
  have q0HXW := HXW.out.cell0
  have q1HXW := HXW.out.cell1
  have q0HXG := HXG.out.cell0
  have q1HXG := HXG.out.cell1
  go_wp2_with fail
  clear q0HXW q1HXW q0HXG q1HXG
  refine (toInts_seg Axs nxs cxs xs _ (RdB.rd HAxs.out (by omega)) hnxs).mono ?_
  rintro e w6 ⟨Byxs, myxs, dyxs, rfl, hlyxs, hsyxs, hF6⟩
  have hz6 := hF6.size
  replace HAxs := Lib.hid (RdB.fr HAxs.out hF6 (by omega) (by omega))
  replace HB := Lib.hid (below_fr HB.out hF6 (by omega) (by omega))
  replace HSW := Lib.hid (HSW.out.fr hF6 (by omega))
  replace HXW := Lib.hid (HXW.out.fr hF6 (by omega))
  replace HSxxs := Lib.hid (HSxxs.out.fr hF6 (by omega))
  replace HSG := Lib.hid (HSG.out.fr hF6 (by omega))
  replace HXG := Lib.hid (HXG.out.fr hF6 (by omega))
  clear hF6
  have HSyxs := Lib.hid hsyxs
  have HMyxs := Lib.hid hlyxs
  have hbyxs : myxs ≤ 1048576 := by have h1 := HLxs.out; omega
  clear hsyxs hlyxs
  have q0HXW := HXW.out.cell0
  have q1HXW := HXW.out.cell1
  have q0HXG := HXG.out.cell0
  have q1HXG := HXG.out.cell1
  go_wp2_with fail
  clear q0HXW q1HXW q0HXG q1HXG
  refine (eqInts_seg _ _ _ _ _ _ xs xs _ HSxxs.out.rd HSyxs.out.rd hbxxs hbyxs).mono ?_
  rintro e w7 ⟨rfl, hF7⟩
  have hz7 := hF7.size
  replace HAxs := Lib.hid (RdB.fr HAxs.out hF7 (by omega) (by omega))
  replace HB := Lib.hid (below_fr HB.out hF7 (by omega) (by omega))
  replace HSW := Lib.hid (HSW.out.fr hF7 (by omega))
  replace HXW := Lib.hid (HXW.out.fr hF7 (by omega))
  replace HSxxs := Lib.hid (HSxxs.out.fr hF7 (by omega))
  replace HSG := Lib.hid (HSG.out.fr hF7 (by omega))
  replace HXG := Lib.hid (HXG.out.fr hF7 (by omega))
  replace HSyxs := Lib.hid (HSyxs.out.fr hF7 (by omega))
  clear hF7
  rw [eq_self_b xs]
  have q0HXW := HXW.out.cell0
  have q1HXW := HXW.out.cell1
  have q0HXG := HXG.out.cell0
  have q1HXG := HXG.out.cell1
  go_wp2_with fail
  clear q0HXW q1HXW q0HXG q1HXG
  refine (mark_seg _ _ _ xs _ _ _ HSxxs.out HMxxs.out hbxxs _ (by omega) (by omega)).mono ?_
  rintro e w8 ⟨rfl, hsxxs, hF8⟩
  have hz8 := hF8.size
  replace HAxs := Lib.hid (RdB.fr HAxs.out hF8 (by omega) (by omega))
  replace HB := Lib.hid (below_fr HB.out hF8 (by omega) (by omega))
  replace HSW := Lib.hid (HSW.out.fr hF8 (by omega))
  replace HXW := Lib.hid (HXW.out.fr hF8 (by omega))
  replace HSG := Lib.hid (HSG.out.fr hF8 (by omega))
  replace HXG := Lib.hid (HXG.out.fr hF8 (by omega))
  clear hF8
  clear HSxxs hsxxs
  have q0HXW := HXW.out.cell0
  have q1HXW := HXW.out.cell1
  have q0HXG := HXG.out.cell0
  have q1HXG := HXG.out.cell1
  go_wp2_with fail
  clear q0HXW q1HXW q0HXG q1HXG
  refine (eqSum_seg rp _ _ _ _ _ _ rts _ HSG.out.rd HSW.out.rd hnd).mono ?_
  rintro e w9 ⟨rfl, hF9⟩
  have hz9 := hF9.size
  replace HAxs := Lib.hid (RdB.fr HAxs.out hF9 (by omega) (by omega))
  replace HB := Lib.hid (below_fr HB.out hF9 (by omega) (by omega))
  replace HSW := Lib.hid (HSW.out.fr hF9 (by omega))
  replace HXW := Lib.hid (HXW.out.fr hF9 (by omega))
  replace HSG := Lib.hid (HSG.out.fr hF9 (by omega))
  replace HXG := Lib.hid (HXG.out.fr hF9 (by omega))
  clear hF9
  have q0HXW := HXW.out.cell0
  have q1HXW := HXW.out.cell1
  have q0HXG := HXG.out.cell0
  have q1HXG := HXG.out.cell1
  go_wp2_with fail
  clear q0HXW q1HXW q0HXG q1HXG
  refine (markSum_seg rp _ _ _ _ _ rts 1 _ HSG.out (by omega) hnd (by omega) (by omega)).mono ?_
  rintro e w10 ⟨rfl, hsG, hF10⟩
  have hz10 := hF10.size
  replace HAxs := Lib.hid (RdB.fr HAxs.out hF10 (by omega) (by omega))
  replace HB := Lib.hid (below_fr HB.out hF10 (by omega) (by omega))
  replace HSW := Lib.hid (HSW.out.fr hF10 (by omega))
  replace HXW := Lib.hid (HXW.out.fr hF10 (by omega))
  replace HXG := Lib.hid (HXG.out.fr hF10 (by omega))
  clear hF10
  replace HSG := Lib.hid hsG
  clear hsG
  have q0HXW := HXW.out.cell0
  have q1HXW := HXW.out.cell1
  have q0HXG := HXG.out.cell0
  have q1HXG := HXG.out.cell1
  go_wp2_with fail
  clear q0HXW q1HXW q0HXG q1HXG
  refine (heldSum_seg rp _ _ _ _ _ rts 1 _ HSG.out hnd (by omega) (by omega)).mono ?_
  rintro e w11 ⟨rfl, hF11⟩
  have hz11 := hF11.size
  replace HAxs := Lib.hid (RdB.fr HAxs.out hF11 (by omega) (by omega))
  replace HB := Lib.hid (below_fr HB.out hF11 (by omega) (by omega))
  replace HSW := Lib.hid (HSW.out.fr hF11 (by omega))
  replace HXW := Lib.hid (HXW.out.fr hF11 (by omega))
  replace HXG := Lib.hid (HXG.out.fr hF11 (by omega))
  replace HSG := Lib.hid (HSG.out.fr hF11 (by omega))
  clear hF11
  have q0HXW := HXW.out.cell0
  have q1HXW := HXW.out.cell1
  have q0HXG := HXG.out.cell0
  have q1HXG := HXG.out.cell1
  go_wp2_with fail
  clear q0HXW q1HXW q0HXG q1HXG
  refine (toInts_seg Axs nxs cxs xs _ (RdB.rd HAxs.out (by omega)) hnxs).mono ?_
  rintro e w12 ⟨Bzxs, mzxs, dzxs, rfl, hlzxs, hszxs, hF12⟩
  have hz12 := hF12.size
  replace HAxs := Lib.hid (RdB.fr HAxs.out hF12 (by omega) (by omega))
  replace HB := Lib.hid (below_fr HB.out hF12 (by omega) (by omega))
  replace HSW := Lib.hid (HSW.out.fr hF12 (by omega))
  replace HXW := Lib.hid (HXW.out.fr hF12 (by omega))
  replace HXG := Lib.hid (HXG.out.fr hF12 (by omega))
  replace HSG := Lib.hid (HSG.out.fr hF12 (by omega))
  clear hF12
  have HSzxs := Lib.hid hszxs
  have HMzxs := Lib.hid hlzxs
  have hbzxs : mzxs ≤ 1048576 := by have h1 := HLxs.out; omega
  clear hszxs hlzxs
  have q0HXW := HXW.out.cell0
  have q1HXW := HXW.out.cell1
  have q0HXG := HXG.out.cell0
  have q1HXG := HXG.out.cell1
  go_wp2_with fail
  clear q0HXW q1HXW q0HXG q1HXG
  refine (GaveS.segr (implSumOfWord_any pp _ _ _ xs vv _ hipp HSzxs.out.rd HWxs.out hbzxs HSzxs.out.cap hivv) HRR.out).mono ?_
  rintro e w13 ⟨BH, mH, dH, rfl, hsH, hF13⟩
  have hz13 := hF13.size
  replace HAxs := Lib.hid (RdB.fr HAxs.out hF13 (by omega) (by omega))
  replace HB := Lib.hid (below_fr HB.out hF13 (by omega) (by omega))
  replace HSW := Lib.hid (HSW.out.fr hF13 (by omega))
  replace HXW := Lib.hid (HXW.out.fr hF13 (by omega))
  replace HXG := Lib.hid (HXG.out.fr hF13 (by omega))
  replace HSG := Lib.hid (HSG.out.fr hF13 (by omega))
  replace HSzxs := Lib.hid (HSzxs.out.fr hF13 (by omega))
  clear hF13
  have HSH := Lib.hid hsH
  clear hsH
  obtain ⟨X13, hX13⟩ : ∃ X, X = w13.alloc (.cells #[.int .i64 rp, .slice BH mH dH] 25) := ⟨_, rfl⟩
  have hG13 : Fr 0 0 w13 X13 := by rw [hX13]; exact fr_alloc _ _
  have HXH : Hid (Box2 X13 w13.heap.size 25 (.int .i64 rp) (.slice BH mH dH)) := Lib.hid (by rw [hX13]; exact box2_new _ _ _ _)
  have hsz13 : X13.heap.size = w13.heap.size + 1 := by rw [hX13]; simp
  have HH13 := Lib.hid hX13
  have q0HXW := HXW.out.cell0
  have q1HXW := HXW.out.cell1
  have q0HXG := HXG.out.cell0
  have q1HXG := HXG.out.cell1
  have a0HXW := fun o => (HXW.out.alloc o).cell0
  have a1HXW := fun o => (HXW.out.alloc o).cell1
  have a0HXG := fun o => (HXG.out.alloc o).cell0
  have a1HXG := fun o => (HXG.out.alloc o).cell1
  go_wp2_with fail
  clear q0HXW q1HXW q0HXG q1HXG a0HXW a1HXW a0HXG a1HXG
  rw [← HH13.out]
  have hzx13 := hG13.size
  replace HAxs := Lib.hid (RdB.fr HAxs.out hG13 (by omega) (by omega))
  replace HB := Lib.hid (below_fr HB.out hG13 (by omega) (by omega))
  replace HSW := Lib.hid (HSW.out.fr hG13 (by omega))
  replace HXW := Lib.hid (HXW.out.fr hG13 (by omega))
  replace HXG := Lib.hid (HXG.out.fr hG13 (by omega))
  replace HSG := Lib.hid (HSG.out.fr hG13 (by omega))
  replace HSzxs := Lib.hid (HSzxs.out.fr hG13 (by omega))
  replace HSH := Lib.hid (HSH.out.fr hG13 (by omega))
  clear hX13 hG13
  refine (eqSum_seg rp _ _ _ _ _ _ rts _ HSH.out.rd HSW.out.rd hnd).mono ?_
  rintro e w14 ⟨rfl, hF14⟩
  have hz14 := hF14.size
  replace HAxs := Lib.hid (RdB.fr HAxs.out hF14 (by omega) (by omega))
  replace HB := Lib.hid (below_fr HB.out hF14 (by omega) (by omega))
  replace HSW := Lib.hid (HSW.out.fr hF14 (by omega))
  replace HXW := Lib.hid (HXW.out.fr hF14 (by omega))
  replace HXG := Lib.hid (HXG.out.fr hF14 (by omega))
  replace HSG := Lib.hid (HSG.out.fr hF14 (by omega))
  replace HSH := Lib.hid (HSH.out.fr hF14 (by omega))
  replace HXH := Lib.hid (HXH.out.fr hF14 (by omega))
  clear hF14
  have q0HXW := HXW.out.cell0
  have q1HXW := HXW.out.cell1
  have q0HXG := HXG.out.cell0
  have q1HXG := HXG.out.cell1
  have q0HXH := HXH.out.cell0
  have q1HXH := HXH.out.cell1
  go_wp2_with fail
  clear q0HXW q1HXW q0HXG q1HXG q0HXH q1HXH
  refine (heldSum_seg rp _ _ _ _ _ rts 1 _ HSG.out hnd (by omega) (by omega)).mono ?_
  rintro e w15 ⟨rfl, hF15⟩
  have hz15 := hF15.size
  replace HAxs := Lib.hid (RdB.fr HAxs.out hF15 (by omega) (by omega))
  replace HB := Lib.hid (below_fr HB.out hF15 (by omega) (by omega))
  replace HSW := Lib.hid (HSW.out.fr hF15 (by omega))
  replace HXW := Lib.hid (HXW.out.fr hF15 (by omega))
  replace HXG := Lib.hid (HXG.out.fr hF15 (by omega))
  replace HSG := Lib.hid (HSG.out.fr hF15 (by omega))
  replace HSH := Lib.hid (HSH.out.fr hF15 (by omega))
  replace HXH := Lib.hid (HXH.out.fr hF15 (by omega))
  clear hF15
  go_wp2_with fail
  go_ret
  have hBB := HB.out
  first | exact ⟨rfl, hBB⟩ | (rw [← HWW.out] at hBB; exact ⟨rfl, hBB⟩) | (rw [HWW.out] at hBB; exact ⟨rfl, hBB⟩)

theorem lawSumOfWord_lifted (os : Os) (started : os.Started) (H : Type) (enc : TypeId × Value → H) :
    ReturnsInHanded {} Try.checked os 3 .any (Rows.fnExactSumOfWordSpec.pre6 enc Try.prog Try.f3 Rows.fnExactSumOfWordRow.domain false) (Rows.fnExactSumOfWordSpec.post enc Try.prog Try.f3 false true false false) := by
  refine returnsInHanded_of_change (C := Try.checked) prog_own started (by kernel_rfl) Try.func3
    (ChangeSpec.witness6 (enc := enc) (C := Try.checked) false ⟨#[], #[.int .i64 0, .slice none 0 0, .int .i64 0], []⟩ 8 (by kernel_rfl) (by kernel_rfl) (by kernel_rfl) (by kernel_rfl)) ?_
  intro W base args ds gs before hval0 hW hcnd _
  have hval : ∀ (j : Nat) t v, Try.f3.params[j]? = some t → args[j]? = some v → Value.okWide Try.prog W .any base t v := hval0
  have hW' := hW
  obtain ⟨p, q, hA0, hV, rfl, hfz, hnd⟩ := hW
  have hA : DataW.TrodAll enc Try.prog W 0 (fun _ => true) true Try.f3.params.toList args.toList ds p := hA0
  rw [Try.params3] at hA hval
  obtain ⟨v0, vs0, d0, ds0, p0, q0, hargs0, rfl, rfl, h0, r0⟩ := trodAll_cons hA
  obtain ⟨v1, vs1, d1, ds1, p1, q1, hargs1, rfl, rfl, h1, r1⟩ := trodAll_cons r0
  obtain ⟨v2, vs2, d2, ds2, p2, q2, hargs2, rfl, rfl, h2, r2⟩ := trodAll_cons r1
  obtain ⟨rfl, rfl, rfl⟩ := trodAll_nil r2
  obtain rfl : args = #[v0, v1, v2] := by cases args; simp_all
  obtain ⟨rfl, rfl⟩ := trodVars_none hV
  clear hA0 hval0
  simp only [List.append_nil] at hW'
  have hlt0 : ∀ x ∈ p0, x.block < W.heap.size := fun x hx => hW'.lt x (by simp [hx])
  have hlt1 : ∀ x ∈ p1, x.block < W.heap.size := fun x hx => hW'.lt x (by simp [hx])
  have hlt2 : ∀ x ∈ p2, x.block < W.heap.size := fun x hx => hW'.lt x (by simp [hx])
  have hh0 := h0
  obtain ⟨k0, rfl, rfl, rfl, wk0⟩ := open_int Try.underlying2 (hval 0 _ _ rfl rfl) hh0
  obtain ⟨A1, n1, c1, xs1, rfl, hr1, hw1⟩ := open_rd h1 hlt1 (okWide_slice Try.underlying22 (hval 1 _ _ rfl rfl))
  have hh2 := h2
  obtain ⟨k2, rfl, rfl, rfl, wk2⟩ := open_int Try.underlying2 (hval 2 _ _ rfl rfl) hh2
  have hk1 : ∀ (W' : World), Below W.heap.size W W' → DataW.Trod enc Try.prog W' 0 (fun b => decide (b < W.heap.size)) true 22 (.slice A1 n1 c1) d1 p1 :=
    fun W' hn => Below.trod prog_laidOut (by kernel_rfl) (of_decide_eq_true (by kernel_rfl)) h1 hn hlt1
  refine (lawSumOfWord_any k0 A1 n1 c1 xs1 k2 W (wf_inv wk0) hr1 hw1 (wf_inv wk2)).mono fun e W' ⟨he, hnx⟩ => ?_
  subst he
  exact ⟨_, rfl, _, _, _, _, _, [], hW', trodAll_cons_mk (shut_bool Try.underlying4 _) trodAll_mk0, (trodAll_cons_mk (shut_int Try.underlying2 wk0) (trodAll_cons_mk (hk1 _ hnx) (trodAll_cons_mk (shut_int Try.underlying2 wk2) trodAll_mk0))), rfl, hnx.frame _, fun h => by cases h⟩

theorem lawSumOfWord_holds : Rows.FnExactSumOfWordSaid :=
  OpenClaim.holds_of_wide 3 Try.f3 rfl rfl rfl rfl rfl rfl rfl ⟨rfl, rfl, rfl, rfl, rfl⟩ rfl rfl rfl rfl rfl (by kernel_rfl) Try.func3 (by kernel_rfl)
    (of_decide_eq_true (by kernel_rfl)) (by unfold Func.isWrapper; first | (rw [if_pos (by decide +kernel)]; kernel_rfl) | (rw [if_neg (by decide +kernel)]; exact ⟨rfl, rfl⟩))
    (fun os started H enc _ => lawSumOfWord_lifted os started H enc)
end Go.Proofs.Ytofcldplgkejiaa
