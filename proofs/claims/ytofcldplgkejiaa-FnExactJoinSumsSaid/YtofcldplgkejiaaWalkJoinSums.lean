/- The walk through the law JoinSums. -/
import Derived.Test.YtofcldplgkejiaaFJoinSums
import Derived.Test.YtofcldplgkejiaaSumAddSpec
import Derived.Test.YtofcldplgkejiaaSumGave
import Derived.Test.YtofcldplgkejiaaRow
import Derived.Deep.RegionHeld3
namespace Go.Proofs.Ytofcldplgkejiaa
open Go.ChangeShapes Go.WideShapes Go.ChangeAt Go.RowKit
set_option linter.unusedVariables false
set_option linter.unusedSimpArgs false
set_option maxRecDepth 100000

set_option maxHeartbeats 8000000 in
theorem lawJoinSums_any (pa : Int) (Aa : Option Addr) (na ca : Nat) (ta : Tms) (pb : Int) (Ab : Option Addr) (nb cb : Nat) (tb : Tms) (w : World) (hra : RdT w Aa na ta) (hwa : WfT ta) (hpa : -9223372036854775808 ≤ pa ∧ pa ≤ 9223372036854775807) (hca : na ≤ 9223372036854775807) (hrb : RdT w Ab nb tb) (hwb : WfT tb) (hpb : -9223372036854775808 ≤ pb ∧ pb ≤ 9223372036854775807) (hcb : nb ≤ 9223372036854775807) :
    Calls Try.prog 5 #[.agg #[.int .i64 pa, .slice Aa na ca], .agg #[.int .i64 pb, .slice Ab nb cb]] w fun e w' => e = .returned (.bool true) ∧ Below w.heap.size w w' := by
  obtain ⟨rp, rts, rz, hR⟩ : ∃ rp rts rz, joinSums pa ta pb tb = ((rp, rts), rz) := ⟨_, _, _, rfl⟩
  have hnd : need rts ≤ 1048576 := by have h := (join_need pa ta pb tb); rw [hR] at h; exact h
  have HRR := Lib.hid hR
  clear hR
  have hrp : (rp != rp) = false := by simp
  have hrz : (rz != rz) = false := by simp
  have hq1 : ((1 + (need rts : Int)) != (1 + (need rts : Int))) = false := by simp
  obtain ⟨W, hW⟩ : ∃ W, W = (w.alloc (.cells #[.int .i64 pa, .slice Aa na ca] 36)).alloc (.cells #[.int .i64 pb, .slice Ab nb cb] 36) := ⟨_, rfl⟩
  have hF0 : Fr 0 0 w W := by rw [hW]; exact fr_trans (fr_alloc _ _) (fr_alloc _ _)
  have HXa : Hid (Box2 W (w.heap.size) 36 (.int .i64 pa) (.slice Aa na ca)) := Lib.hid (by rw [hW]; exact Box2.alloc (box2_new _ _ _ _) _)
  have HAa : Hid (RdTB W w.heap.size Aa na ta) := Lib.hid (RdTB.fr hra hF0 (by omega) (by omega))
  have HWa := Lib.hid hwa
  have HLa := Lib.hid hra.len
  have HXb : Hid (Box2 W (w.heap.size + 1) 36 (.int .i64 pb) (.slice Ab nb cb)) := Lib.hid (by rw [hW]; exact by have h := box2_new (w.alloc (.cells #[.int .i64 pa, .slice Aa na ca] 36)) 36 (.int .i64 pb) (.slice Ab nb cb); simpa using h)
  have HAb : Hid (RdTB W w.heap.size Ab nb tb) := Lib.hid (RdTB.fr hrb hF0 (by omega) (by omega))
  have HWb := Lib.hid hwb
  have HLb := Lib.hid hrb.len
  have HB : Hid (Below w.heap.size w W) := Lib.hid (below_of_fr hF0)
  have hz0 := hF0.size
  have hzW : W.heap.size = w.heap.size + 2 := by rw [hW]; simp
  have HWW := Lib.hid hW
  clear hW hF0 hra hwa hrb hwb
  go_enter Try.func5, Try.ntmps5
  by_cases hNa : (need ta : Int) ≤ 1048576
  case neg =>
    have q0HXa := HXa.out.cell0
    have q1HXa := HXa.out.cell1
    have q0HXb := HXb.out.cell0
    have q1HXb := HXb.out.cell1
    go_wp2_with fail
    rw [← HWW.out]
    clear q0HXa q1HXa q0HXb q1HXb
    refine (szSum_seg pa Aa na ca ta (1048576) _ (RdTB.rd HAa.out (by omega)) hca (by omega) (by omega)).mono ?_
    rintro e w1 ⟨rfl, hF1⟩
    have hz1 := hF1.size
    replace HAa := Lib.hid (RdTB.fr HAa.out hF1 (by omega) (by omega))
    replace HAb := Lib.hid (RdTB.fr HAb.out hF1 (by omega) (by omega))
    replace HXa := Lib.hid (HXa.out.fr hF1 (by omega))
    replace HXb := Lib.hid (HXb.out.fr hF1 (by omega))
    replace HB := Lib.hid (below_fr HB.out hF1 (by omega) (by omega))
    clear hF1
    rw [show left (1048576) ta = -1 from by unfold left; rw [if_neg (by omega)]]
    go_wp2_with fail
    go_ret
    exact ⟨rfl, HB.out⟩
  have q0HXa := HXa.out.cell0
  have q1HXa := HXa.out.cell1
  have q0HXb := HXb.out.cell0
  have q1HXb := HXb.out.cell1
  go_wp2_with fail
  rw [← HWW.out]
  clear q0HXa q1HXa q0HXb q1HXb
  refine (szSum_seg pa Aa na ca ta (1048576) _ (RdTB.rd HAa.out (by omega)) hca (by omega) (by omega)).mono ?_
  rintro e w1 ⟨rfl, hF1⟩
  have hz1 := hF1.size
  replace HAa := Lib.hid (RdTB.fr HAa.out hF1 (by omega) (by omega))
  replace HAb := Lib.hid (RdTB.fr HAb.out hF1 (by omega) (by omega))
  replace HXa := Lib.hid (HXa.out.fr hF1 (by omega))
  replace HXb := Lib.hid (HXb.out.fr hF1 (by omega))
  replace HB := Lib.hid (below_fr HB.out hF1 (by omega) (by omega))
  clear hF1
  rw [show left (1048576) ta = 1048576 - need ta from by unfold left; rw [if_pos (by omega)]]
  have hlta : ¬ (1048576 - (need ta : Int) < 0) := by omega
  have hma : need ta ≤ 1048576 := by omega
  by_cases hNb : (need tb : Int) ≤ 1048576 - need ta
  case neg =>
    have q0HXa := HXa.out.cell0
    have q1HXa := HXa.out.cell1
    have q0HXb := HXb.out.cell0
    have q1HXb := HXb.out.cell1
    go_wp2_with fail
    clear q0HXa q1HXa q0HXb q1HXb
    refine (szSum_seg pb Ab nb cb tb (1048576 - need ta) _ (RdTB.rd HAb.out (by omega)) hcb (by omega) (by omega)).mono ?_
    rintro e w2 ⟨rfl, hF2⟩
    have hz2 := hF2.size
    replace HAa := Lib.hid (RdTB.fr HAa.out hF2 (by omega) (by omega))
    replace HAb := Lib.hid (RdTB.fr HAb.out hF2 (by omega) (by omega))
    replace HXa := Lib.hid (HXa.out.fr hF2 (by omega))
    replace HXb := Lib.hid (HXb.out.fr hF2 (by omega))
    replace HB := Lib.hid (below_fr HB.out hF2 (by omega) (by omega))
    clear hF2
    rw [show left (1048576 - need ta) tb = -1 from by unfold left; rw [if_neg (by omega)]]
    go_wp2_with fail
    go_ret
    exact ⟨rfl, HB.out⟩
  have q0HXa := HXa.out.cell0
  have q1HXa := HXa.out.cell1
  have q0HXb := HXb.out.cell0
  have q1HXb := HXb.out.cell1
  go_wp2_with fail
  clear q0HXa q1HXa q0HXb q1HXb
  refine (szSum_seg pb Ab nb cb tb (1048576 - need ta) _ (RdTB.rd HAb.out (by omega)) hcb (by omega) (by omega)).mono ?_
  rintro e w2 ⟨rfl, hF2⟩
  have hz2 := hF2.size
  replace HAa := Lib.hid (RdTB.fr HAa.out hF2 (by omega) (by omega))
  replace HAb := Lib.hid (RdTB.fr HAb.out hF2 (by omega) (by omega))
  replace HXa := Lib.hid (HXa.out.fr hF2 (by omega))
  replace HXb := Lib.hid (HXb.out.fr hF2 (by omega))
  replace HB := Lib.hid (below_fr HB.out hF2 (by omega) (by omega))
  clear hF2
  rw [show left (1048576 - need ta) tb = 1048576 - need ta - need tb from by unfold left; rw [if_pos (by omega)]]
  have hltb : ¬ (1048576 - need ta - (need tb : Int) < 0) := by omega
  have hmb : need tb ≤ 1048576 := by omega
  have q0HXa := HXa.out.cell0
  have q1HXa := HXa.out.cell1
  have q0HXb := HXb.out.cell0
  have q1HXb := HXb.out.cell1
  go_upto_region 8 with fail
  clear q0HXa q1HXa q0HXb q1HXb
  go_cut [6, 7] from 351 (fun b z wc => z = .int .i64 rz ∧ ∃ T B m d, b = .pointer (some ⟨T, 0, none⟩) ∧ Hid (Kept2 w2 wc T rp (.slice B m d) rts))
  case first =>
    have HKW : Hid (∀ X, Fr 0 0 w2 X → X.cell? ⟨w.heap.size, 0, none⟩ = some (.int .i64 pa) ∧ X.cell? ⟨w.heap.size, 1, none⟩ = some (.slice Aa na ca) ∧ X.cell? ⟨w.heap.size + 1, 0, none⟩ = some (.int .i64 pb) ∧ X.cell? ⟨w.heap.size + 1, 1, none⟩ = some (.slice Ab nb cb) ∧ Hid (Fr 0 0 w2 X)) := Lib.hid (fun X hX => ⟨(HXa.out.fr hX (by omega)).cell0, (HXa.out.fr hX (by omega)).cell1, (HXb.out.fr hX (by omega)).cell0, (HXb.out.fr hX (by omega)).cell1, Lib.hid hX⟩)
    have hdrew : (w2.drew).heap.size = w2.heap.size := rfl
    go_region_held3 (fun X => X.cell? ⟨w.heap.size, 0, none⟩ = some (.int .i64 pa) ∧ X.cell? ⟨w.heap.size, 1, none⟩ = some (.slice Aa na ca) ∧ X.cell? ⟨w.heap.size + 1, 0, none⟩ = some (.int .i64 pb) ∧ X.cell? ⟨w.heap.size + 1, 1, none⟩ = some (.slice Ab nb cb) ∧ Hid (Fr 0 0 w2 X)) ((refine HKW.out _ ?_; first | exact Hid.out (by assumption) | exact fr_drew _ | exact fr_trans (Hid.out (by assumption)) (fr_alloc _ _) | exact fr_trans (fr_drew _) (fr_alloc _ _) | exact fr_set2 _ _ (Hid.out (by assumption)) (by omega))) (first | (go_at_call 25; obtain ⟨_, _, _, _, hbb⟩ := ‹_ ∧ _ ∧ _ ∧ _ ∧ Hid (Fr 0 0 w2 _)›; with_reducible refine (toSum_seg pa Aa na ca ta _ (RdTB.rd (RdTB.fr HAa.out hbb.out (by omega) (by omega)) (by have := hbb.out.size; omega)) hma).mono ?_; rintro e v2W ⟨BqW, mqW, dqW, rfl, hsy, hfy⟩; have hzA := hfy.size; (try simp only [World.size_alloc] at hzA); have HSP := Lib.hid hsy; have HFY := Lib.hid (fr_trans hbb.out hfy); (first | (have HBX := Lib.hid ((box2_new w2 25 (.int .i64 0) (.slice none 0 0)).fr (fr_trans (fr_drew _) hfy) (by omega))) | skip); clear hsy hfy hbb) | (go_at_call 25; obtain ⟨_, _, _, _, hbb⟩ := ‹_ ∧ _ ∧ _ ∧ _ ∧ Hid (Fr 0 0 w2 _)›; with_reducible refine (toSum_seg pb Ab nb cb tb _ (RdTB.rd (RdTB.fr HAb.out hbb.out (by omega) (by omega)) (by have := hbb.out.size; omega)) hmb).mono ?_; rintro e v3W ⟨BrW, mrW, drW, rfl, hsy, hfy⟩; have hzB := hfy.size; (try simp only [World.size_alloc] at hzB); have HSQ := Lib.hid hsy; have HFZ := Lib.hid (fr_trans hbb.out hfy); (first | (have HSP2 := Lib.hid (HSP.out.fr hfy (by omega))) | (have HSP2 := Lib.hid ((HSP.out.fr (fr_alloc _ _) (by omega)).fr hfy (by omega)))); (first | (have HBY := Lib.hid (HBX.out.fr hfy (by omega))) | (have HBY := Lib.hid ((box2_new v2W 25 (.int .i64 0) (.slice none 0 0)).fr hfy (by omega))) | skip); clear hsy hfy hbb) | (go_at_call 27; obtain ⟨_, _, _, _, hbb⟩ := ‹_ ∧ _ ∧ _ ∧ _ ∧ Hid (Fr 0 0 w2 _)›; refine (GaveS.segr (specJoinSums_any pa _ _ _ ta pb _ _ _ tb _ (by first | exact HSP2.out.rd | exact (HSP2.out.fr (fr_alloc _ _) (by omega)).rd) HWa.out hma hpa (by first | exact HSQ.out.rd | exact (HSQ.out.fr (fr_alloc _ _) (by omega)).rd) HWb.out hmb hpb) HRR.out).mono ?_; rintro e v4W ⟨BW, mW, dW, rfl, hsy, hfy⟩; have hzC := hfy.size; (try simp only [World.size_alloc] at hzC); (first | (have hzT := HBY.out.lt) | skip); have HSW := Lib.hid hsy; have HFT := Lib.hid (fr_trans hbb.out hfy); (first | (have HBZ := Lib.hid (HBY.out.fr hfy (by omega))) | (have HBZ := Lib.hid ((box2_new v3W 25 (.int .i64 0) (.slice none 0 0)).fr hfy (by omega))) | skip); (first | (have b0 := HBZ.out.cell0; have b1 := HBZ.out.cell1; have b2 := HBZ.out.free 0; have b3 := HBZ.out.free 1) | skip); clear hsy hfy hbb))
    all_goals (try go_wp2_with fail)
    all_goals go_meet
    all_goals (have hzD := HFT.out.size)
    all_goals (try simp only [World.size_alloc] at hzD)
    all_goals first | exact ⟨rfl, _, _, _, _, rfl, Lib.hid (two_new HFT.out HSW.out (by first | omega | (simp only [World.size_alloc]; omega)) (Nat.le_refl _))⟩ | exact ⟨rfl, _, _, _, _, rfl, Lib.hid (two_set HFT.out HBZ.out HSW.out (by first | omega | (simp only [World.size_alloc]; omega)) (by first | omega | (simp only [World.size_alloc]; omega)) (Nat.le_refl _))⟩
  case rest =>
    obtain ⟨rfl, TW, BW, mW, dW, rfl, hkept⟩ := hcut
    rename World => w3
    have hF3 := hkept.out.fr
    obtain ⟨loW, hiW, hl1W, hl2W, hseg⟩ := hkept.out.seg
    have HSW := Lib.hid hseg
    have HXW := Lib.hid hkept.out.box
    have hleW := hkept.out.le
    have hltW := hkept.out.box.lt
    have hz3 := hF3.size
    replace HAa := Lib.hid (RdTB.fr HAa.out hF3 (by omega) (by omega))
    replace HAb := Lib.hid (RdTB.fr HAb.out hF3 (by omega) (by omega))
    replace HXa := Lib.hid (HXa.out.fr hF3 (by omega))
    replace HXb := Lib.hid (HXb.out.fr hF3 (by omega))
    replace HB := Lib.hid (below_fr HB.out hF3 (by omega) (by omega))
    clear hF3 hseg hkept
    have q0HXa := HXa.out.cell0
    have q1HXa := HXa.out.cell1
    have q0HXb := HXb.out.cell0
    have q1HXb := HXb.out.cell1
    have q0HXW := HXW.out.cell0
    have q1HXW := HXW.out.cell1
    go_wp2_with fail
    clear q0HXa q1HXa q0HXb q1HXb q0HXW q1HXW
    refine (toSum_seg pa Aa na ca ta _ (RdTB.rd HAa.out (by omega)) hma).mono ?_
    rintro e w4 ⟨Bxa, mxa, dxa, rfl, hsxa, hF4⟩
    have hz4 := hF4.size
    replace HAa := Lib.hid (RdTB.fr HAa.out hF4 (by omega) (by omega))
    replace HAb := Lib.hid (RdTB.fr HAb.out hF4 (by omega) (by omega))
    replace HXa := Lib.hid (HXa.out.fr hF4 (by omega))
    replace HXb := Lib.hid (HXb.out.fr hF4 (by omega))
    replace HB := Lib.hid (below_fr HB.out hF4 (by omega) (by omega))
    replace HSW := Lib.hid (HSW.out.fr hF4 (by omega))
    replace HXW := Lib.hid (HXW.out.fr hF4 (by omega))
    clear hF4
    have HSxa := Lib.hid hsxa
    clear hsxa
    obtain ⟨X4, hX4⟩ : ∃ X, X = w4.alloc (.cells #[.int .i64 pa, .slice Bxa mxa dxa] 25) := ⟨_, rfl⟩
    have hG4 : Fr 0 0 w4 X4 := by rw [hX4]; exact fr_alloc _ _
    have HXxa : Hid (Box2 X4 w4.heap.size 25 (.int .i64 pa) (.slice Bxa mxa dxa)) := Lib.hid (by rw [hX4]; exact box2_new _ _ _ _)
    have hsz4 : X4.heap.size = w4.heap.size + 1 := by rw [hX4]; simp
    have HH4 := Lib.hid hX4
    have q0HXa := HXa.out.cell0
    have q1HXa := HXa.out.cell1
    have q0HXb := HXb.out.cell0
    have q1HXb := HXb.out.cell1
    have q0HXW := HXW.out.cell0
    have q1HXW := HXW.out.cell1
    have a0HXa := fun o => (HXa.out.alloc o).cell0
    have a1HXa := fun o => (HXa.out.alloc o).cell1
    have a0HXb := fun o => (HXb.out.alloc o).cell0
    have a1HXb := fun o => (HXb.out.alloc o).cell1
    have a0HXW := fun o => (HXW.out.alloc o).cell0
    have a1HXW := fun o => (HXW.out.alloc o).cell1
    go_wp2_with fail
    clear q0HXa q1HXa q0HXb q1HXb q0HXW q1HXW a0HXa a1HXa a0HXb a1HXb a0HXW a1HXW
    rw [← HH4.out]
    have hzx4 := hG4.size
    replace HAa := Lib.hid (RdTB.fr HAa.out hG4 (by omega) (by omega))
    replace HAb := Lib.hid (RdTB.fr HAb.out hG4 (by omega) (by omega))
    replace HXa := Lib.hid (HXa.out.fr hG4 (by omega))
    replace HXb := Lib.hid (HXb.out.fr hG4 (by omega))
    replace HB := Lib.hid (below_fr HB.out hG4 (by omega) (by omega))
    replace HSW := Lib.hid (HSW.out.fr hG4 (by omega))
    replace HXW := Lib.hid (HXW.out.fr hG4 (by omega))
    replace HSxa := Lib.hid (HSxa.out.fr hG4 (by omega))
    clear hX4 hG4
    have q0HXa := HXa.out.cell0
    have q1HXa := HXa.out.cell1
    have q0HXb := HXb.out.cell0
    have q1HXb := HXb.out.cell1
    have q0HXW := HXW.out.cell0
    have q1HXW := HXW.out.cell1
    have q0HXxa := HXxa.out.cell0
    have q1HXxa := HXxa.out.cell1
    go_wp2_with fail
    clear q0HXa q1HXa q0HXb q1HXb q0HXW q1HXW q0HXxa q1HXxa
    refine (toSum_seg pb Ab nb cb tb _ (RdTB.rd HAb.out (by omega)) hmb).mono ?_
    rintro e w5 ⟨Bxb, mxb, dxb, rfl, hsxb, hF5⟩
    have hz5 := hF5.size
    replace HAa := Lib.hid (RdTB.fr HAa.out hF5 (by omega) (by omega))
    replace HAb := Lib.hid (RdTB.fr HAb.out hF5 (by omega) (by omega))
    replace HXa := Lib.hid (HXa.out.fr hF5 (by omega))
    replace HXb := Lib.hid (HXb.out.fr hF5 (by omega))
    replace HB := Lib.hid (below_fr HB.out hF5 (by omega) (by omega))
    replace HSW := Lib.hid (HSW.out.fr hF5 (by omega))
    replace HXW := Lib.hid (HXW.out.fr hF5 (by omega))
    replace HSxa := Lib.hid (HSxa.out.fr hF5 (by omega))
    replace HXxa := Lib.hid (HXxa.out.fr hF5 (by omega))
    clear hF5
    have HSxb := Lib.hid hsxb
    clear hsxb
    obtain ⟨X5, hX5⟩ : ∃ X, X = w5.alloc (.cells #[.int .i64 pb, .slice Bxb mxb dxb] 25) := ⟨_, rfl⟩
    have hG5 : Fr 0 0 w5 X5 := by rw [hX5]; exact fr_alloc _ _
    have HXxb : Hid (Box2 X5 w5.heap.size 25 (.int .i64 pb) (.slice Bxb mxb dxb)) := Lib.hid (by rw [hX5]; exact box2_new _ _ _ _)
    have hsz5 : X5.heap.size = w5.heap.size + 1 := by rw [hX5]; simp
    have HH5 := Lib.hid hX5
    have q0HXa := HXa.out.cell0
    have q1HXa := HXa.out.cell1
    have q0HXb := HXb.out.cell0
    have q1HXb := HXb.out.cell1
    have q0HXW := HXW.out.cell0
    have q1HXW := HXW.out.cell1
    have q0HXxa := HXxa.out.cell0
    have q1HXxa := HXxa.out.cell1
    have a0HXa := fun o => (HXa.out.alloc o).cell0
    have a1HXa := fun o => (HXa.out.alloc o).cell1
    have a0HXb := fun o => (HXb.out.alloc o).cell0
    have a1HXb := fun o => (HXb.out.alloc o).cell1
    have a0HXW := fun o => (HXW.out.alloc o).cell0
    have a1HXW := fun o => (HXW.out.alloc o).cell1
    have a0HXxa := fun o => (HXxa.out.alloc o).cell0
    have a1HXxa := fun o => (HXxa.out.alloc o).cell1
    go_wp2_with fail
    clear q0HXa q1HXa q0HXb q1HXb q0HXW q1HXW q0HXxa q1HXxa a0HXa a1HXa a0HXb a1HXb a0HXW a1HXW a0HXxa a1HXxa
    rw [← HH5.out]
    have hzx5 := hG5.size
    replace HAa := Lib.hid (RdTB.fr HAa.out hG5 (by omega) (by omega))
    replace HAb := Lib.hid (RdTB.fr HAb.out hG5 (by omega) (by omega))
    replace HXa := Lib.hid (HXa.out.fr hG5 (by omega))
    replace HXb := Lib.hid (HXb.out.fr hG5 (by omega))
    replace HB := Lib.hid (below_fr HB.out hG5 (by omega) (by omega))
    replace HSW := Lib.hid (HSW.out.fr hG5 (by omega))
    replace HXW := Lib.hid (HXW.out.fr hG5 (by omega))
    replace HSxa := Lib.hid (HSxa.out.fr hG5 (by omega))
    replace HXxa := Lib.hid (HXxa.out.fr hG5 (by omega))
    replace HSxb := Lib.hid (HSxb.out.fr hG5 (by omega))
    clear hX5 hG5
    refine (GaveS.segr (implJoinSums_any pa _ _ _ ta pb _ _ _ tb _ HSxa.out.rd HWa.out hma hpa HSxb.out.rd HWb.out hmb hpb) HRR.out).mono ?_
    rintro e w6 ⟨BG, mG, dG, rfl, hsG, hF6⟩
    have hz6 := hF6.size
    replace HAa := Lib.hid (RdTB.fr HAa.out hF6 (by omega) (by omega))
    replace HAb := Lib.hid (RdTB.fr HAb.out hF6 (by omega) (by omega))
    replace HXa := Lib.hid (HXa.out.fr hF6 (by omega))
    replace HXb := Lib.hid (HXb.out.fr hF6 (by omega))
    replace HB := Lib.hid (below_fr HB.out hF6 (by omega) (by omega))
    replace HSW := Lib.hid (HSW.out.fr hF6 (by omega))
    replace HXW := Lib.hid (HXW.out.fr hF6 (by omega))
    replace HSxa := Lib.hid (HSxa.out.fr hF6 (by omega))
    replace HXxa := Lib.hid (HXxa.out.fr hF6 (by omega))
    replace HSxb := Lib.hid (HSxb.out.fr hF6 (by omega))
    replace HXxb := Lib.hid (HXxb.out.fr hF6 (by omega))
    clear hF6
    have HSG := Lib.hid hsG
    clear hsG
    obtain ⟨X6, hX6⟩ : ∃ X, X = w6.alloc (.cells #[.int .i64 rp, .slice BG mG dG] 25) := ⟨_, rfl⟩
    have hG6 : Fr 0 0 w6 X6 := by rw [hX6]; exact fr_alloc _ _
    have HXG : Hid (Box2 X6 w6.heap.size 25 (.int .i64 rp) (.slice BG mG dG)) := Lib.hid (by rw [hX6]; exact box2_new _ _ _ _)
    have hsz6 : X6.heap.size = w6.heap.size + 1 := by rw [hX6]; simp
    have HH6 := Lib.hid hX6
    have q0HXa := HXa.out.cell0
    have q1HXa := HXa.out.cell1
    have q0HXb := HXb.out.cell0
    have q1HXb := HXb.out.cell1
    have q0HXW := HXW.out.cell0
    have q1HXW := HXW.out.cell1
    have q0HXxa := HXxa.out.cell0
    have q1HXxa := HXxa.out.cell1
    have q0HXxb := HXxb.out.cell0
    have q1HXxb := HXxb.out.cell1
    have a0HXa := fun o => (HXa.out.alloc o).cell0
    have a1HXa := fun o => (HXa.out.alloc o).cell1
    have a0HXb := fun o => (HXb.out.alloc o).cell0
    have a1HXb := fun o => (HXb.out.alloc o).cell1
    have a0HXW := fun o => (HXW.out.alloc o).cell0
    have a1HXW := fun o => (HXW.out.alloc o).cell1
    have a0HXxa := fun o => (HXxa.out.alloc o).cell0
    have a1HXxa := fun o => (HXxa.out.alloc o).cell1
    have a0HXxb := fun o => (HXxb.out.alloc o).cell0
    have a1HXxb := fun o => (HXxb.out.alloc o).cell1
    go_wp2_with fail
    clear q0HXa q1HXa q0HXb q1HXb q0HXW q1HXW q0HXxa q1HXxa q0HXxb q1HXxb a0HXa a1HXa a0HXb a1HXb a0HXW a1HXW a0HXxa a1HXxa a0HXxb a1HXxb
    rw [← HH6.out]
    have hzx6 := hG6.size
    replace HAa := Lib.hid (RdTB.fr HAa.out hG6 (by omega) (by omega))
    replace HAb := Lib.hid (RdTB.fr HAb.out hG6 (by omega) (by omega))
    replace HXa := Lib.hid (HXa.out.fr hG6 (by omega))
    replace HXb := Lib.hid (HXb.out.fr hG6 (by omega))
    replace HB := Lib.hid (below_fr HB.out hG6 (by omega) (by omega))
    replace HSW := Lib.hid (HSW.out.fr hG6 (by omega))
    replace HXW := Lib.hid (HXW.out.fr hG6 (by omega))
    replace HSxa := Lib.hid (HSxa.out.fr hG6 (by omega))
    replace HXxa := Lib.hid (HXxa.out.fr hG6 (by omega))
    replace HSxb := Lib.hid (HSxb.out.fr hG6 (by omega))
    replace HXxb := Lib.hid (HXxb.out.fr hG6 (by omega))
    replace HSG := Lib.hid (HSG.out.fr hG6 (by omega))
    clear hX6 hG6
    refine (eqSum_seg rp _ _ _ _ _ _ rts _ HSG.out.rd HSW.out.rd hnd).mono ?_
    rintro e w7 ⟨rfl, hF7⟩
    have hz7 := hF7.size
    replace HAa := Lib.hid (RdTB.fr HAa.out hF7 (by omega) (by omega))
    replace HAb := Lib.hid (RdTB.fr HAb.out hF7 (by omega) (by omega))
    replace HXa := Lib.hid (HXa.out.fr hF7 (by omega))
    replace HXb := Lib.hid (HXb.out.fr hF7 (by omega))
    replace HB := Lib.hid (below_fr HB.out hF7 (by omega) (by omega))
    replace HSW := Lib.hid (HSW.out.fr hF7 (by omega))
    replace HXW := Lib.hid (HXW.out.fr hF7 (by omega))
    replace HSxa := Lib.hid (HSxa.out.fr hF7 (by omega))
    replace HXxa := Lib.hid (HXxa.out.fr hF7 (by omega))
    replace HSxb := Lib.hid (HSxb.out.fr hF7 (by omega))
    replace HXxb := Lib.hid (HXxb.out.fr hF7 (by omega))
    replace HSG := Lib.hid (HSG.out.fr hF7 (by omega))
    replace HXG := Lib.hid (HXG.out.fr hF7 (by omega))
    clear hF7
    have q0HXa := HXa.out.cell0
    have q1HXa := HXa.out.cell1
    have q0HXb := HXb.out.cell0
    have q1HXb := HXb.out.cell1
    have q0HXW := HXW.out.cell0
    have q1HXW := HXW.out.cell1
    have q0HXxa := HXxa.out.cell0
    have q1HXxa := HXxa.out.cell1
    have q0HXxb := HXxb.out.cell0
    have q1HXxb := HXxb.out.cell1
    have q0HXG := HXG.out.cell0
    have q1HXG := HXG.out.cell1
    go_wp2_with fail
    clear q0HXa q1HXa q0HXb q1HXb q0HXW q1HXW q0HXxa q1HXxa q0HXxb q1HXxb q0HXG q1HXG
    have HK7 : Hid (∀ X, Fr 0 0 w7 X → X.cell? ⟨w.heap.size, 0, none⟩ = some (.int .i64 pa) ∧ X.cell? ⟨w.heap.size, 1, none⟩ = some (.slice Aa na ca) ∧ X.cell? ⟨w4.heap.size, 0, none⟩ = some (.int .i64 pa) ∧ X.cell? ⟨w4.heap.size, 1, none⟩ = some (.slice Bxa mxa dxa) ∧ Hid (Fr 0 0 w7 X)) := Lib.hid (fun X hX => ⟨(HXa.out.fr hX (by omega)).cell0, (HXa.out.fr hX (by omega)).cell1, (HXxa.out.fr hX (by omega)).cell0, (HXxa.out.fr hX (by omega)).cell1, Lib.hid hX⟩)
    go_region_held3 (fun X => X.cell? ⟨w.heap.size, 0, none⟩ = some (.int .i64 pa) ∧ X.cell? ⟨w.heap.size, 1, none⟩ = some (.slice Aa na ca) ∧ X.cell? ⟨w4.heap.size, 0, none⟩ = some (.int .i64 pa) ∧ X.cell? ⟨w4.heap.size, 1, none⟩ = some (.slice Bxa mxa dxa) ∧ Hid (Fr 0 0 w7 X)) ((refine HK7.out _ ?_; first | exact Hid.out (by assumption) | exact fr_drew _)) (first | (go_at_call 25; obtain ⟨_, _, _, _, hbb⟩ := ‹_ ∧ _ ∧ _ ∧ _ ∧ Hid (Fr 0 0 w7 _)›; refine (toSum_seg pa Aa na ca ta _ (RdTB.rd (RdTB.fr HAa.out hbb.out (by omega) (by omega)) (by have := hbb.out.size; omega)) hma).mono ?_; rintro e v2 ⟨By, my, dy, rfl, hsy, hfy⟩; have HSY := Lib.hid hsy.rd; have HFY := Lib.hid (fr_trans hbb.out hfy); clear hsy hfy hbb) | (go_at_call 18; obtain ⟨_, _, _, _, hbb⟩ := ‹_ ∧ _ ∧ _ ∧ _ ∧ Hid (Fr 0 0 w7 _)›; refine (eqSum_seg pa _ _ _ _ _ _ ta _ ((HSxa.out.fr hbb.out (by omega)).rd) HSY.out hma).mono ?_; rintro e v3 ⟨rfl, hfy⟩; have HFZ := Lib.hid (fr_trans hbb.out hfy); clear hfy hbb))
    have hF8 := HFZ.out
    obtain ⟨w8, hw8⟩ : ∃ x, x = v3 := ⟨_, rfl⟩
    rw [← hw8] at hF8 ⊢
    have hz8 := hF8.size
    replace HAa := Lib.hid (RdTB.fr HAa.out hF8 (by omega) (by omega))
    replace HAb := Lib.hid (RdTB.fr HAb.out hF8 (by omega) (by omega))
    replace HXa := Lib.hid (HXa.out.fr hF8 (by omega))
    replace HXb := Lib.hid (HXb.out.fr hF8 (by omega))
    replace HB := Lib.hid (below_fr HB.out hF8 (by omega) (by omega))
    replace HSW := Lib.hid (HSW.out.fr hF8 (by omega))
    replace HXW := Lib.hid (HXW.out.fr hF8 (by omega))
    replace HSxa := Lib.hid (HSxa.out.fr hF8 (by omega))
    replace HXxa := Lib.hid (HXxa.out.fr hF8 (by omega))
    replace HSxb := Lib.hid (HSxb.out.fr hF8 (by omega))
    replace HXxb := Lib.hid (HXxb.out.fr hF8 (by omega))
    replace HSG := Lib.hid (HSG.out.fr hF8 (by omega))
    replace HXG := Lib.hid (HXG.out.fr hF8 (by omega))
    clear hF8 HFZ HFY HSY hw8
    have q0HXa := HXa.out.cell0
    have q1HXa := HXa.out.cell1
    have q0HXb := HXb.out.cell0
    have q1HXb := HXb.out.cell1
    have q0HXW := HXW.out.cell0
    have q1HXW := HXW.out.cell1
    have q0HXxa := HXxa.out.cell0
    have q1HXxa := HXxa.out.cell1
    have q0HXxb := HXxb.out.cell0
    have q1HXxb := HXxb.out.cell1
    have q0HXG := HXG.out.cell0
    have q1HXG := HXG.out.cell1
    go_wp2_with fail
    clear q0HXa q1HXa q0HXb q1HXb q0HXW q1HXW q0HXxa q1HXxa q0HXxb q1HXxb q0HXG q1HXG
    have HK8 : Hid (∀ X, Fr 0 0 w8 X → X.cell? ⟨w.heap.size + 1, 0, none⟩ = some (.int .i64 pb) ∧ X.cell? ⟨w.heap.size + 1, 1, none⟩ = some (.slice Ab nb cb) ∧ X.cell? ⟨w5.heap.size, 0, none⟩ = some (.int .i64 pb) ∧ X.cell? ⟨w5.heap.size, 1, none⟩ = some (.slice Bxb mxb dxb) ∧ Hid (Fr 0 0 w8 X)) := Lib.hid (fun X hX => ⟨(HXb.out.fr hX (by omega)).cell0, (HXb.out.fr hX (by omega)).cell1, (HXxb.out.fr hX (by omega)).cell0, (HXxb.out.fr hX (by omega)).cell1, Lib.hid hX⟩)
    go_region_held3 (fun X => X.cell? ⟨w.heap.size + 1, 0, none⟩ = some (.int .i64 pb) ∧ X.cell? ⟨w.heap.size + 1, 1, none⟩ = some (.slice Ab nb cb) ∧ X.cell? ⟨w5.heap.size, 0, none⟩ = some (.int .i64 pb) ∧ X.cell? ⟨w5.heap.size, 1, none⟩ = some (.slice Bxb mxb dxb) ∧ Hid (Fr 0 0 w8 X)) ((refine HK8.out _ ?_; first | exact Hid.out (by assumption) | exact fr_drew _)) (first | (go_at_call 25; obtain ⟨_, _, _, _, hbb⟩ := ‹_ ∧ _ ∧ _ ∧ _ ∧ Hid (Fr 0 0 w8 _)›; refine (toSum_seg pb Ab nb cb tb _ (RdTB.rd (RdTB.fr HAb.out hbb.out (by omega) (by omega)) (by have := hbb.out.size; omega)) hmb).mono ?_; rintro e v2 ⟨By, my, dy, rfl, hsy, hfy⟩; have HSY := Lib.hid hsy.rd; have HFY := Lib.hid (fr_trans hbb.out hfy); clear hsy hfy hbb) | (go_at_call 18; obtain ⟨_, _, _, _, hbb⟩ := ‹_ ∧ _ ∧ _ ∧ _ ∧ Hid (Fr 0 0 w8 _)›; refine (eqSum_seg pb _ _ _ _ _ _ tb _ ((HSxb.out.fr hbb.out (by omega)).rd) HSY.out hmb).mono ?_; rintro e v3 ⟨rfl, hfy⟩; have HFZ := Lib.hid (fr_trans hbb.out hfy); clear hfy hbb))
    have hF9 := HFZ.out
    obtain ⟨w9, hw9⟩ : ∃ x, x = v3 := ⟨_, rfl⟩
    rw [← hw9] at hF9 ⊢
    have hz9 := hF9.size
    replace HAa := Lib.hid (RdTB.fr HAa.out hF9 (by omega) (by omega))
    replace HAb := Lib.hid (RdTB.fr HAb.out hF9 (by omega) (by omega))
    replace HXa := Lib.hid (HXa.out.fr hF9 (by omega))
    replace HXb := Lib.hid (HXb.out.fr hF9 (by omega))
    replace HB := Lib.hid (below_fr HB.out hF9 (by omega) (by omega))
    replace HSW := Lib.hid (HSW.out.fr hF9 (by omega))
    replace HXW := Lib.hid (HXW.out.fr hF9 (by omega))
    replace HSxa := Lib.hid (HSxa.out.fr hF9 (by omega))
    replace HXxa := Lib.hid (HXxa.out.fr hF9 (by omega))
    replace HSxb := Lib.hid (HSxb.out.fr hF9 (by omega))
    replace HXxb := Lib.hid (HXxb.out.fr hF9 (by omega))
    replace HSG := Lib.hid (HSG.out.fr hF9 (by omega))
    replace HXG := Lib.hid (HXG.out.fr hF9 (by omega))
    clear hF9 HFZ HFY HSY hw9
    have q0HXa := HXa.out.cell0
    have q1HXa := HXa.out.cell1
    have q0HXb := HXb.out.cell0
    have q1HXb := HXb.out.cell1
    have q0HXW := HXW.out.cell0
    have q1HXW := HXW.out.cell1
    have q0HXxa := HXxa.out.cell0
    have q1HXxa := HXxa.out.cell1
    have q0HXxb := HXxb.out.cell0
    have q1HXxb := HXxb.out.cell1
    have q0HXG := HXG.out.cell0
    have q1HXG := HXG.out.cell1
    go_wp2_with fail
    clear q0HXa q1HXa q0HXb q1HXb q0HXW q1HXW q0HXxa q1HXxa q0HXxb q1HXxb q0HXG q1HXG
    refine (markSum_seg pa _ _ _ _ _ ta (1) _ HSxa.out (by omega) hma (by omega) (by omega)).mono ?_
    rintro e w10 ⟨rfl, hsxa, hF10⟩
    have hz10 := hF10.size
    replace HAa := Lib.hid (RdTB.fr HAa.out hF10 (by omega) (by omega))
    replace HAb := Lib.hid (RdTB.fr HAb.out hF10 (by omega) (by omega))
    replace HXa := Lib.hid (HXa.out.fr hF10 (by omega))
    replace HXb := Lib.hid (HXb.out.fr hF10 (by omega))
    replace HB := Lib.hid (below_fr HB.out hF10 (by omega) (by omega))
    replace HSW := Lib.hid (HSW.out.fr hF10 (by omega))
    replace HXW := Lib.hid (HXW.out.fr hF10 (by omega))
    replace HXxa := Lib.hid (HXxa.out.fr hF10 (by omega))
    replace HSxb := Lib.hid (HSxb.out.fr hF10 (by omega))
    replace HXxb := Lib.hid (HXxb.out.fr hF10 (by omega))
    replace HSG := Lib.hid (HSG.out.fr hF10 (by omega))
    replace HXG := Lib.hid (HXG.out.fr hF10 (by omega))
    clear hF10
    clear HSxa hsxa
    have q0HXa := HXa.out.cell0
    have q1HXa := HXa.out.cell1
    have q0HXb := HXb.out.cell0
    have q1HXb := HXb.out.cell1
    have q0HXW := HXW.out.cell0
    have q1HXW := HXW.out.cell1
    have q0HXxa := HXxa.out.cell0
    have q1HXxa := HXxa.out.cell1
    have q0HXxb := HXxb.out.cell0
    have q1HXxb := HXxb.out.cell1
    have q0HXG := HXG.out.cell0
    have q1HXG := HXG.out.cell1
    go_wp2_with fail
    clear q0HXa q1HXa q0HXb q1HXb q0HXW q1HXW q0HXxa q1HXxa q0HXxb q1HXxb q0HXG q1HXG
    refine (markSum_seg pb _ _ _ _ _ tb (1 + need ta) _ HSxb.out (by omega) hmb (by omega) (by omega)).mono ?_
    rintro e w11 ⟨rfl, hsxb, hF11⟩
    have hz11 := hF11.size
    replace HAa := Lib.hid (RdTB.fr HAa.out hF11 (by omega) (by omega))
    replace HAb := Lib.hid (RdTB.fr HAb.out hF11 (by omega) (by omega))
    replace HXa := Lib.hid (HXa.out.fr hF11 (by omega))
    replace HXb := Lib.hid (HXb.out.fr hF11 (by omega))
    replace HB := Lib.hid (below_fr HB.out hF11 (by omega) (by omega))
    replace HSW := Lib.hid (HSW.out.fr hF11 (by omega))
    replace HXW := Lib.hid (HXW.out.fr hF11 (by omega))
    replace HXxa := Lib.hid (HXxa.out.fr hF11 (by omega))
    replace HXxb := Lib.hid (HXxb.out.fr hF11 (by omega))
    replace HSG := Lib.hid (HSG.out.fr hF11 (by omega))
    replace HXG := Lib.hid (HXG.out.fr hF11 (by omega))
    clear hF11
    clear HSxb hsxb
    have hko : ¬ (1 + need ta + need tb < (0 : Int)) := by omega
    have q0HXa := HXa.out.cell0
    have q1HXa := HXa.out.cell1
    have q0HXb := HXb.out.cell0
    have q1HXb := HXb.out.cell1
    have q0HXW := HXW.out.cell0
    have q1HXW := HXW.out.cell1
    have q0HXxa := HXxa.out.cell0
    have q1HXxa := HXxa.out.cell1
    have q0HXxb := HXxb.out.cell0
    have q1HXxb := HXxb.out.cell1
    have q0HXG := HXG.out.cell0
    have q1HXG := HXG.out.cell1
    go_wp2_with fail
    clear q0HXa q1HXa q0HXb q1HXb q0HXW q1HXW q0HXxa q1HXxa q0HXxb q1HXxb q0HXG q1HXG
    refine (eqSum_seg rp _ _ _ _ _ _ rts _ HSG.out.rd HSW.out.rd hnd).mono ?_
    rintro e w12 ⟨rfl, hF12⟩
    have hz12 := hF12.size
    replace HAa := Lib.hid (RdTB.fr HAa.out hF12 (by omega) (by omega))
    replace HAb := Lib.hid (RdTB.fr HAb.out hF12 (by omega) (by omega))
    replace HXa := Lib.hid (HXa.out.fr hF12 (by omega))
    replace HXb := Lib.hid (HXb.out.fr hF12 (by omega))
    replace HB := Lib.hid (below_fr HB.out hF12 (by omega) (by omega))
    replace HSW := Lib.hid (HSW.out.fr hF12 (by omega))
    replace HXW := Lib.hid (HXW.out.fr hF12 (by omega))
    replace HXxa := Lib.hid (HXxa.out.fr hF12 (by omega))
    replace HXxb := Lib.hid (HXxb.out.fr hF12 (by omega))
    replace HSG := Lib.hid (HSG.out.fr hF12 (by omega))
    replace HXG := Lib.hid (HXG.out.fr hF12 (by omega))
    clear hF12
    have q0HXa := HXa.out.cell0
    have q1HXa := HXa.out.cell1
    have q0HXb := HXb.out.cell0
    have q1HXb := HXb.out.cell1
    have q0HXW := HXW.out.cell0
    have q1HXW := HXW.out.cell1
    have q0HXxa := HXxa.out.cell0
    have q1HXxa := HXxa.out.cell1
    have q0HXxb := HXxb.out.cell0
    have q1HXxb := HXxb.out.cell1
    have q0HXG := HXG.out.cell0
    have q1HXG := HXG.out.cell1
    go_wp2_with fail
    clear q0HXa q1HXa q0HXb q1HXb q0HXW q1HXW q0HXxa q1HXxa q0HXxb q1HXxb q0HXG q1HXG
    refine (markSum_seg rp _ _ _ _ _ rts 1 _ HSG.out (by omega) hnd (by omega) (by omega)).mono ?_
    rintro e w13 ⟨rfl, hsG, hF13⟩
    have hz13 := hF13.size
    replace HAa := Lib.hid (RdTB.fr HAa.out hF13 (by omega) (by omega))
    replace HAb := Lib.hid (RdTB.fr HAb.out hF13 (by omega) (by omega))
    replace HXa := Lib.hid (HXa.out.fr hF13 (by omega))
    replace HXb := Lib.hid (HXb.out.fr hF13 (by omega))
    replace HB := Lib.hid (below_fr HB.out hF13 (by omega) (by omega))
    replace HSW := Lib.hid (HSW.out.fr hF13 (by omega))
    replace HXW := Lib.hid (HXW.out.fr hF13 (by omega))
    replace HXxa := Lib.hid (HXxa.out.fr hF13 (by omega))
    replace HXxb := Lib.hid (HXxb.out.fr hF13 (by omega))
    replace HXG := Lib.hid (HXG.out.fr hF13 (by omega))
    clear hF13
    replace HSG := Lib.hid hsG
    clear hsG
    have q0HXa := HXa.out.cell0
    have q1HXa := HXa.out.cell1
    have q0HXb := HXb.out.cell0
    have q1HXb := HXb.out.cell1
    have q0HXW := HXW.out.cell0
    have q1HXW := HXW.out.cell1
    have q0HXxa := HXxa.out.cell0
    have q1HXxa := HXxa.out.cell1
    have q0HXxb := HXxb.out.cell0
    have q1HXxb := HXxb.out.cell1
    have q0HXG := HXG.out.cell0
    have q1HXG := HXG.out.cell1
    go_wp2_with fail
    clear q0HXa q1HXa q0HXb q1HXb q0HXW q1HXW q0HXxa q1HXxa q0HXxb q1HXxb q0HXG q1HXG
    refine (heldSum_seg rp _ _ _ _ _ rts 1 _ HSG.out hnd (by omega) (by omega)).mono ?_
    rintro e w14 ⟨rfl, hF14⟩
    have hz14 := hF14.size
    replace HAa := Lib.hid (RdTB.fr HAa.out hF14 (by omega) (by omega))
    replace HAb := Lib.hid (RdTB.fr HAb.out hF14 (by omega) (by omega))
    replace HXa := Lib.hid (HXa.out.fr hF14 (by omega))
    replace HXb := Lib.hid (HXb.out.fr hF14 (by omega))
    replace HB := Lib.hid (below_fr HB.out hF14 (by omega) (by omega))
    replace HSW := Lib.hid (HSW.out.fr hF14 (by omega))
    replace HXW := Lib.hid (HXW.out.fr hF14 (by omega))
    replace HXxa := Lib.hid (HXxa.out.fr hF14 (by omega))
    replace HXxb := Lib.hid (HXxb.out.fr hF14 (by omega))
    replace HXG := Lib.hid (HXG.out.fr hF14 (by omega))
    replace HSG := Lib.hid (HSG.out.fr hF14 (by omega))
    clear hF14
    have q0HXa := HXa.out.cell0
    have q1HXa := HXa.out.cell1
    have q0HXb := HXb.out.cell0
    have q1HXb := HXb.out.cell1
    have q0HXW := HXW.out.cell0
    have q1HXW := HXW.out.cell1
    have q0HXxa := HXxa.out.cell0
    have q1HXxa := HXxa.out.cell1
    have q0HXxb := HXxb.out.cell0
    have q1HXxb := HXxb.out.cell1
    have q0HXG := HXG.out.cell0
    have q1HXG := HXG.out.cell1
    go_upto_region 31 with fail
    clear q0HXa q1HXa q0HXb q1HXb q0HXW q1HXW q0HXxa q1HXxa q0HXxb q1HXxb q0HXG q1HXG
    go_cut [15, 16] from 351 (fun b z wc => z = .int .i64 rz ∧ ∃ T B m d, b = .pointer (some ⟨T, 0, none⟩) ∧ Hid (Kept2 w14 wc T rp (.slice B m d) rts))
    case first =>
      have HKH : Hid (∀ X, Fr 0 0 w14 X → X.cell? ⟨w.heap.size, 0, none⟩ = some (.int .i64 pa) ∧ X.cell? ⟨w.heap.size, 1, none⟩ = some (.slice Aa na ca) ∧ X.cell? ⟨w.heap.size + 1, 0, none⟩ = some (.int .i64 pb) ∧ X.cell? ⟨w.heap.size + 1, 1, none⟩ = some (.slice Ab nb cb) ∧ Hid (Fr 0 0 w14 X)) := Lib.hid (fun X hX => ⟨(HXa.out.fr hX (by omega)).cell0, (HXa.out.fr hX (by omega)).cell1, (HXb.out.fr hX (by omega)).cell0, (HXb.out.fr hX (by omega)).cell1, Lib.hid hX⟩)
      have hdrew : (w14.drew).heap.size = w14.heap.size := rfl
      go_region_held3 (fun X => X.cell? ⟨w.heap.size, 0, none⟩ = some (.int .i64 pa) ∧ X.cell? ⟨w.heap.size, 1, none⟩ = some (.slice Aa na ca) ∧ X.cell? ⟨w.heap.size + 1, 0, none⟩ = some (.int .i64 pb) ∧ X.cell? ⟨w.heap.size + 1, 1, none⟩ = some (.slice Ab nb cb) ∧ Hid (Fr 0 0 w14 X)) ((refine HKH.out _ ?_; first | exact Hid.out (by assumption) | exact fr_drew _ | exact fr_trans (Hid.out (by assumption)) (fr_alloc _ _) | exact fr_trans (fr_drew _) (fr_alloc _ _) | exact fr_set2 _ _ (Hid.out (by assumption)) (by omega))) (first | (go_at_call 25; obtain ⟨_, _, _, _, hbb⟩ := ‹_ ∧ _ ∧ _ ∧ _ ∧ Hid (Fr 0 0 w14 _)›; with_reducible refine (toSum_seg pa Aa na ca ta _ (RdTB.rd (RdTB.fr HAa.out hbb.out (by omega) (by omega)) (by have := hbb.out.size; omega)) hma).mono ?_; rintro e v2H ⟨BqH, mqH, dqH, rfl, hsy, hfy⟩; have hzA := hfy.size; (try simp only [World.size_alloc] at hzA); have HSP := Lib.hid hsy; have HFY := Lib.hid (fr_trans hbb.out hfy); (first | (have HBX := Lib.hid ((box2_new w14 25 (.int .i64 0) (.slice none 0 0)).fr (fr_trans (fr_drew _) hfy) (by omega))) | skip); clear hsy hfy hbb) | (go_at_call 25; obtain ⟨_, _, _, _, hbb⟩ := ‹_ ∧ _ ∧ _ ∧ _ ∧ Hid (Fr 0 0 w14 _)›; with_reducible refine (toSum_seg pb Ab nb cb tb _ (RdTB.rd (RdTB.fr HAb.out hbb.out (by omega) (by omega)) (by have := hbb.out.size; omega)) hmb).mono ?_; rintro e v3H ⟨BrH, mrH, drH, rfl, hsy, hfy⟩; have hzB := hfy.size; (try simp only [World.size_alloc] at hzB); have HSQ := Lib.hid hsy; have HFZ := Lib.hid (fr_trans hbb.out hfy); (first | (have HSP2 := Lib.hid (HSP.out.fr hfy (by omega))) | (have HSP2 := Lib.hid ((HSP.out.fr (fr_alloc _ _) (by omega)).fr hfy (by omega)))); (first | (have HBY := Lib.hid (HBX.out.fr hfy (by omega))) | (have HBY := Lib.hid ((box2_new v2H 25 (.int .i64 0) (.slice none 0 0)).fr hfy (by omega))) | skip); clear hsy hfy hbb) | (go_at_call 28; obtain ⟨_, _, _, _, hbb⟩ := ‹_ ∧ _ ∧ _ ∧ _ ∧ Hid (Fr 0 0 w14 _)›; refine (GaveS.segr (implJoinSums_any pa _ _ _ ta pb _ _ _ tb _ (by first | exact HSP2.out.rd | exact (HSP2.out.fr (fr_alloc _ _) (by omega)).rd) HWa.out hma hpa (by first | exact HSQ.out.rd | exact (HSQ.out.fr (fr_alloc _ _) (by omega)).rd) HWb.out hmb hpb) HRR.out).mono ?_; rintro e v4H ⟨BH, mH, dH, rfl, hsy, hfy⟩; have hzC := hfy.size; (try simp only [World.size_alloc] at hzC); (first | (have hzT := HBY.out.lt) | skip); have HSH := Lib.hid hsy; have HFT := Lib.hid (fr_trans hbb.out hfy); (first | (have HBZ := Lib.hid (HBY.out.fr hfy (by omega))) | (have HBZ := Lib.hid ((box2_new v3H 25 (.int .i64 0) (.slice none 0 0)).fr hfy (by omega))) | skip); (first | (have b0 := HBZ.out.cell0; have b1 := HBZ.out.cell1; have b2 := HBZ.out.free 0; have b3 := HBZ.out.free 1) | skip); clear hsy hfy hbb))
      all_goals (try go_wp2_with fail)
      all_goals go_meet
      all_goals (have hzD := HFT.out.size)
      all_goals (try simp only [World.size_alloc] at hzD)
      all_goals first | exact ⟨rfl, _, _, _, _, rfl, Lib.hid (two_new HFT.out HSH.out (by first | omega | (simp only [World.size_alloc]; omega)) (Nat.le_refl _))⟩ | exact ⟨rfl, _, _, _, _, rfl, Lib.hid (two_set HFT.out HBZ.out HSH.out (by first | omega | (simp only [World.size_alloc]; omega)) (by first | omega | (simp only [World.size_alloc]; omega)) (Nat.le_refl _))⟩
    case rest =>
      obtain ⟨rfl, TH, BH, mH, dH, rfl, hkept⟩ := hcut
      rename World => w15
      have hF15 := hkept.out.fr
      obtain ⟨loH, hiH, hl1H, hl2H, hseg⟩ := hkept.out.seg
      have HSH := Lib.hid hseg
      have HXH := Lib.hid hkept.out.box
      have hleH := hkept.out.le
      have hltH := hkept.out.box.lt
      have hz15 := hF15.size
      replace HAa := Lib.hid (RdTB.fr HAa.out hF15 (by omega) (by omega))
      replace HAb := Lib.hid (RdTB.fr HAb.out hF15 (by omega) (by omega))
      replace HXa := Lib.hid (HXa.out.fr hF15 (by omega))
      replace HXb := Lib.hid (HXb.out.fr hF15 (by omega))
      replace HB := Lib.hid (below_fr HB.out hF15 (by omega) (by omega))
      replace HSW := Lib.hid (HSW.out.fr hF15 (by omega))
      replace HXW := Lib.hid (HXW.out.fr hF15 (by omega))
      replace HXxa := Lib.hid (HXxa.out.fr hF15 (by omega))
      replace HXxb := Lib.hid (HXxb.out.fr hF15 (by omega))
      replace HXG := Lib.hid (HXG.out.fr hF15 (by omega))
      replace HSG := Lib.hid (HSG.out.fr hF15 (by omega))
      clear hF15 hseg hkept
      have q0HXa := HXa.out.cell0
      have q1HXa := HXa.out.cell1
      have q0HXb := HXb.out.cell0
      have q1HXb := HXb.out.cell1
      have q0HXW := HXW.out.cell0
      have q1HXW := HXW.out.cell1
      have q0HXxa := HXxa.out.cell0
      have q1HXxa := HXxa.out.cell1
      have q0HXxb := HXxb.out.cell0
      have q1HXxb := HXxb.out.cell1
      have q0HXG := HXG.out.cell0
      have q1HXG := HXG.out.cell1
      have q0HXH := HXH.out.cell0
      have q1HXH := HXH.out.cell1
      go_wp2_with fail
      clear q0HXa q1HXa q0HXb q1HXb q0HXW q1HXW q0HXxa q1HXxa q0HXxb q1HXxb q0HXG q1HXG q0HXH q1HXH
      refine (eqSum_seg rp _ _ _ _ _ _ rts _ HSH.out.rd HSW.out.rd hnd).mono ?_
      rintro e w16 ⟨rfl, hF16⟩
      have hz16 := hF16.size
      replace HAa := Lib.hid (RdTB.fr HAa.out hF16 (by omega) (by omega))
      replace HAb := Lib.hid (RdTB.fr HAb.out hF16 (by omega) (by omega))
      replace HXa := Lib.hid (HXa.out.fr hF16 (by omega))
      replace HXb := Lib.hid (HXb.out.fr hF16 (by omega))
      replace HB := Lib.hid (below_fr HB.out hF16 (by omega) (by omega))
      replace HSW := Lib.hid (HSW.out.fr hF16 (by omega))
      replace HXW := Lib.hid (HXW.out.fr hF16 (by omega))
      replace HXxa := Lib.hid (HXxa.out.fr hF16 (by omega))
      replace HXxb := Lib.hid (HXxb.out.fr hF16 (by omega))
      replace HXG := Lib.hid (HXG.out.fr hF16 (by omega))
      replace HSG := Lib.hid (HSG.out.fr hF16 (by omega))
      replace HSH := Lib.hid (HSH.out.fr hF16 (by omega))
      replace HXH := Lib.hid (HXH.out.fr hF16 (by omega))
      clear hF16
      have q0HXa := HXa.out.cell0
      have q1HXa := HXa.out.cell1
      have q0HXb := HXb.out.cell0
      have q1HXb := HXb.out.cell1
      have q0HXW := HXW.out.cell0
      have q1HXW := HXW.out.cell1
      have q0HXxa := HXxa.out.cell0
      have q1HXxa := HXxa.out.cell1
      have q0HXxb := HXxb.out.cell0
      have q1HXxb := HXxb.out.cell1
      have q0HXG := HXG.out.cell0
      have q1HXG := HXG.out.cell1
      have q0HXH := HXH.out.cell0
      have q1HXH := HXH.out.cell1
      go_wp2_with fail
      clear q0HXa q1HXa q0HXb q1HXb q0HXW q1HXW q0HXxa q1HXxa q0HXxb q1HXxb q0HXG q1HXG q0HXH q1HXH
      refine (heldSum_seg rp _ _ _ _ _ rts 1 _ HSG.out hnd (by omega) (by omega)).mono ?_
      rintro e w17 ⟨rfl, hF17⟩
      have hz17 := hF17.size
      replace HAa := Lib.hid (RdTB.fr HAa.out hF17 (by omega) (by omega))
      replace HAb := Lib.hid (RdTB.fr HAb.out hF17 (by omega) (by omega))
      replace HXa := Lib.hid (HXa.out.fr hF17 (by omega))
      replace HXb := Lib.hid (HXb.out.fr hF17 (by omega))
      replace HB := Lib.hid (below_fr HB.out hF17 (by omega) (by omega))
      replace HSW := Lib.hid (HSW.out.fr hF17 (by omega))
      replace HXW := Lib.hid (HXW.out.fr hF17 (by omega))
      replace HXxa := Lib.hid (HXxa.out.fr hF17 (by omega))
      replace HXxb := Lib.hid (HXxb.out.fr hF17 (by omega))
      replace HXG := Lib.hid (HXG.out.fr hF17 (by omega))
      replace HSG := Lib.hid (HSG.out.fr hF17 (by omega))
      replace HSH := Lib.hid (HSH.out.fr hF17 (by omega))
      replace HXH := Lib.hid (HXH.out.fr hF17 (by omega))
      clear hF17
      go_wp2_with fail
      go_ret
      have hBB := HB.out
      first | exact ⟨rfl, hBB⟩ | (rw [← HWW.out] at hBB; exact ⟨rfl, hBB⟩) | (rw [HWW.out] at hBB; exact ⟨rfl, hBB⟩)
end Go.Proofs.Ytofcldplgkejiaa
