/- FnExactTotalOf: for every input the program's TotalOf answers as the model's, and writes into no argument.
   No condition. -/
import Derived.Test.YtinfhkcmjmglkaaFTotalOf
import Derived.Test.YtinfhkcmjmglkaaSumRow
import Derived.Deep.RegionHeld3
namespace Go.Proofs.Ytinfhkcmjmglkaa
open Go.ChangeShapes Go.WideShapes Go.ChangeAt Go.RowKit
set_option linter.unusedVariables false
set_option linter.unusedSimpArgs false
set_option maxRecDepth 100000

set_option maxHeartbeats 4000000 in
theorem lawTotalOf_any (pa : Int) (Aa : Option Addr) (na ca : Nat) (ta : Tms) (w : World) (hra : RdT w Aa na ta) (hwa : WfT ta) (hpa : -9223372036854775808 ≤ pa ∧ pa ≤ 9223372036854775807) (hca : na ≤ 9223372036854775807) :
    Calls Try.prog 14 #[.agg #[.int .i64 pa, .slice Aa na ca]] w fun e w' => e = .returned (.bool true) ∧ Below w.heap.size w w' := by
  obtain ⟨W, hW⟩ : ∃ W, W = w.alloc (.cells #[.int .i64 pa, .slice Aa na ca] 50) := ⟨_, rfl⟩
  have hF0 : Fr 0 0 w W := by rw [hW]; exact fr_alloc _ _
  have HXa : Hid (Box2 W (w.heap.size) 50 (.int .i64 pa) (.slice Aa na ca)) := Lib.hid (by rw [hW]; exact box2_new _ _ _ _)
  have HAa : Hid (RdTB W w.heap.size Aa na ta) := Lib.hid (RdTB.fr hra hF0 (by omega) (by omega))
  have HWa := Lib.hid hwa
  have HLa := Lib.hid hra.len
  have HB : Hid (Below w.heap.size w W) := Lib.hid (below_of_fr hF0)
  have hz0 := hF0.size
  have HWW := Lib.hid hW
  clear hW hF0 hra hwa
  go_enter Try.func14, Try.ntmps14
  by_cases hNa : (need ta : Int) ≤ 1048576
  case neg =>
    have q0HXa := HXa.out.cell0
    have q1HXa := HXa.out.cell1
    go_wp2_with fail
    rw [← HWW.out]
    clear q0HXa q1HXa
    refine (szSum_seg pa Aa na ca ta (1048576) _ (RdTB.rd HAa.out (by omega)) hca (by omega) (by omega)).mono ?_
    rintro e w1 ⟨rfl, hF1⟩
    have hz1 := hF1.size
    replace HAa := Lib.hid (RdTB.fr HAa.out hF1 (by omega) (by omega))
    replace HXa := Lib.hid (HXa.out.fr hF1 (by omega))
    replace HB := Lib.hid (below_fr HB.out hF1 (by omega) (by omega))
    clear hF1
    rw [show left (1048576) ta = -1 from by unfold left; rw [if_neg (by omega)]]
    go_wp2_with fail
    go_ret
    exact ⟨rfl, HB.out⟩
  have q0HXa := HXa.out.cell0
  have q1HXa := HXa.out.cell1
  go_wp2_with fail
  rw [← HWW.out]
  clear q0HXa q1HXa
  refine (szSum_seg pa Aa na ca ta (1048576) _ (RdTB.rd HAa.out (by omega)) hca (by omega) (by omega)).mono ?_
  rintro e w1 ⟨rfl, hF1⟩
  have hz1 := hF1.size
  replace HAa := Lib.hid (RdTB.fr HAa.out hF1 (by omega) (by omega))
  replace HXa := Lib.hid (HXa.out.fr hF1 (by omega))
  replace HB := Lib.hid (below_fr HB.out hF1 (by omega) (by omega))
  clear hF1
  rw [show left (1048576) ta = 1048576 - need ta from by unfold left; rw [if_pos (by omega)]]
  have hlta : ¬ (1048576 - (need ta : Int) < 0) := by omega
  have hma : need ta ≤ 1048576 := by omega
  have hne0 : (((sumTotal pa ta).1) != ((sumTotal pa ta).1)) = false := by simp
  have hne1 : (((sumTotal pa ta).2) != ((sumTotal pa ta).2)) = false := by simp
  have q0HXa := HXa.out.cell0
  have q1HXa := HXa.out.cell1
  go_wp2_with fail
  clear q0HXa q1HXa
  refine (toSum_seg pa Aa na ca ta _ (RdTB.rd HAa.out (by omega)) hma).mono ?_
  rintro e w2 ⟨Baa, maa, daa, rfl, hsaa, hF2⟩
  have hz2 := hF2.size
  replace HAa := Lib.hid (RdTB.fr HAa.out hF2 (by omega) (by omega))
  replace HXa := Lib.hid (HXa.out.fr hF2 (by omega))
  replace HB := Lib.hid (below_fr HB.out hF2 (by omega) (by omega))
  clear hF2
  have HSaa := Lib.hid hsaa
  clear hsaa
  have q0HXa := HXa.out.cell0
  have q1HXa := HXa.out.cell1
  go_wp2_with fail
  clear q0HXa q1HXa
  refine ((specTotalOf_any pa _ _ _ ta _ HSaa.out.rd HWa.out hma hpa).seg).mono ?_
  rintro e w3 ⟨rfl, hF3⟩
  have hz3 := hF3.size
  replace HAa := Lib.hid (RdTB.fr HAa.out hF3 (by omega) (by omega))
  replace HXa := Lib.hid (HXa.out.fr hF3 (by omega))
  replace HB := Lib.hid (below_fr HB.out hF3 (by omega) (by omega))
  replace HSaa := Lib.hid (HSaa.out.fr hF3 (by omega))
  clear hF3
  have q0HXa := HXa.out.cell0
  have q1HXa := HXa.out.cell1
  go_wp2_with fail
  clear q0HXa q1HXa
  refine (toSum_seg pa Aa na ca ta _ (RdTB.rd HAa.out (by omega)) hma).mono ?_
  rintro e w4 ⟨Bxa, mxa, dxa, rfl, hsxa, hF4⟩
  have hz4 := hF4.size
  replace HAa := Lib.hid (RdTB.fr HAa.out hF4 (by omega) (by omega))
  replace HXa := Lib.hid (HXa.out.fr hF4 (by omega))
  replace HB := Lib.hid (below_fr HB.out hF4 (by omega) (by omega))
  clear hF4
  have HSxa := Lib.hid hsxa
  clear hsxa
  obtain ⟨X4, hX4⟩ : ∃ X, X = w4.alloc (.cells #[.int .i64 pa, .slice Bxa mxa dxa] 55) := ⟨_, rfl⟩
  have hG4 : Fr 0 0 w4 X4 := by rw [hX4]; exact fr_alloc _ _
  have HXxa : Hid (Box2 X4 w4.heap.size 55 (.int .i64 pa) (.slice Bxa mxa dxa)) := Lib.hid (by rw [hX4]; exact box2_new _ _ _ _)
  have HH4 := Lib.hid hX4
  have q0HXa := HXa.out.cell0
  have q1HXa := HXa.out.cell1
  go_wp2_with fail
  clear q0HXa q1HXa
  rw [← HH4.out]
  have hzx4 := hG4.size
  replace HAa := Lib.hid (RdTB.fr HAa.out hG4 (by omega) (by omega))
  replace HXa := Lib.hid (HXa.out.fr hG4 (by omega))
  replace HB := Lib.hid (below_fr HB.out hG4 (by omega) (by omega))
  replace HSxa := Lib.hid (HSxa.out.fr hG4 (by omega))
  clear hX4 hG4
  refine ((implTotalOf_any pa _ _ _ ta _ HSxa.out.rd HWa.out hma hpa).seg).mono ?_
  rintro e w5 ⟨rfl, hF5⟩
  have hz5 := hF5.size
  replace HAa := Lib.hid (RdTB.fr HAa.out hF5 (by omega) (by omega))
  replace HXa := Lib.hid (HXa.out.fr hF5 (by omega))
  replace HB := Lib.hid (below_fr HB.out hF5 (by omega) (by omega))
  replace HSxa := Lib.hid (HSxa.out.fr hF5 (by omega))
  replace HXxa := Lib.hid (HXxa.out.fr hF5 (by omega))
  clear hF5
  have q0HXa := HXa.out.cell0
  have q1HXa := HXa.out.cell1
  have q0HXxa := HXxa.out.cell0
  have q1HXxa := HXxa.out.cell1
  go_wp2_with fail
  clear q0HXa q1HXa q0HXxa q1HXxa
  have HK5 : Hid (∀ X, Fr 0 0 w5 X → X.cell? ⟨w.heap.size, 0, none⟩ = some (.int .i64 pa) ∧ X.cell? ⟨w.heap.size, 1, none⟩ = some (.slice Aa na ca) ∧ X.cell? ⟨w4.heap.size, 0, none⟩ = some (.int .i64 pa) ∧ X.cell? ⟨w4.heap.size, 1, none⟩ = some (.slice Bxa mxa dxa) ∧ Hid (Fr 0 0 w5 X)) := Lib.hid (fun X hX => ⟨(HXa.out.fr hX (by omega)).cell0, (HXa.out.fr hX (by omega)).cell1, (HXxa.out.fr hX (by omega)).cell0, (HXxa.out.fr hX (by omega)).cell1, Lib.hid hX⟩)
  go_region_held3 (fun X => X.cell? ⟨w.heap.size, 0, none⟩ = some (.int .i64 pa) ∧ X.cell? ⟨w.heap.size, 1, none⟩ = some (.slice Aa na ca) ∧ X.cell? ⟨w4.heap.size, 0, none⟩ = some (.int .i64 pa) ∧ X.cell? ⟨w4.heap.size, 1, none⟩ = some (.slice Bxa mxa dxa) ∧ Hid (Fr 0 0 w5 X)) ((refine HK5.out _ ?_; first | exact Hid.out (by assumption) | exact fr_drew _)) (first | (go_at_call 76; obtain ⟨_, _, _, _, hbb⟩ := ‹_ ∧ _ ∧ _ ∧ _ ∧ Hid (Fr 0 0 w5 _)›; refine (toSum_seg pa Aa na ca ta _ (RdTB.rd (RdTB.fr HAa.out hbb.out (by omega) (by omega)) (by have := hbb.out.size; omega)) hma).mono ?_; rintro e v2 ⟨By, my, dy, rfl, hsy, hfy⟩; have HSY := Lib.hid hsy.rd; have HFY := Lib.hid (fr_trans hbb.out hfy); clear hsy hfy hbb) | (go_at_call 78; obtain ⟨_, _, _, _, hbb⟩ := ‹_ ∧ _ ∧ _ ∧ _ ∧ Hid (Fr 0 0 w5 _)›; refine (eqSum_seg pa _ _ _ _ _ _ ta _ ((HSxa.out.fr hbb.out (by omega)).rd) HSY.out hma).mono ?_; rintro e v3 ⟨rfl, hfy⟩; have HFZ := Lib.hid (fr_trans hbb.out hfy); clear hfy hbb))
  have hF6 := HFZ.out
  have hz6 := hF6.size
  replace HAa := Lib.hid (RdTB.fr HAa.out hF6 (by omega) (by omega))
  replace HXa := Lib.hid (HXa.out.fr hF6 (by omega))
  replace HB := Lib.hid (below_fr HB.out hF6 (by omega) (by omega))
  replace HSxa := Lib.hid (HSxa.out.fr hF6 (by omega))
  replace HXxa := Lib.hid (HXxa.out.fr hF6 (by omega))
  clear hF6 HFZ HFY HSY
  go_wp2_with fail
  go_ret
  exact ⟨rfl, HB.out⟩

theorem lawTotalOf_lifted (os : Os) (started : os.Started) (H : Type) (enc : TypeId × Value → H) :
    ReturnsInHanded {} Try.checked os 14 .any (Rows.fnExactTotalOfSpec.pre6 enc Try.prog Try.f14 Rows.fnExactTotalOfRow.domain false) (Rows.fnExactTotalOfSpec.post enc Try.prog Try.f14 false true false false) := by
  refine returnsInHanded_of_change (C := Try.checked) prog_own started (by kernel_rfl) Try.func14
    (ChangeSpec.witness6 (enc := enc) (C := Try.checked) false ⟨#[], #[.agg #[.int .i64 0, .slice none 0 0]], []⟩ 8 (by kernel_rfl) (by kernel_rfl) (by kernel_rfl) (by kernel_rfl)) ?_
  intro W base args ds gs before hval0 hW hcnd _
  have hval : ∀ (j : Nat) t v, Try.f14.params[j]? = some t → args[j]? = some v → Value.okWide Try.prog W .any base t v := hval0
  have hW' := hW
  obtain ⟨p, q, hA0, hV, rfl, hfz, hnd⟩ := hW
  have hA : DataW.TrodAll enc Try.prog W 0 (fun _ => true) true Try.f14.params.toList args.toList ds p := hA0
  rw [Try.params14] at hA hval
  obtain ⟨v0, vs0, d0, ds0, p0, q0, hargs0, rfl, rfl, h0, r0⟩ := trodAll_cons hA
  obtain ⟨rfl, rfl, rfl⟩ := trodAll_nil r0
  obtain rfl : args = #[v0] := by cases args; simp_all
  obtain ⟨rfl, rfl⟩ := trodVars_none hV
  clear hA0 hval0
  simp only [List.append_nil] at hW'
  have hlt0 : ∀ x ∈ p0, x.block < W.heap.size := fun x hx => hW'.lt x (by simp [hx])
  obtain ⟨z0, A0, n0, c0, ts0, rfl, hr0, hw0, hp0, hc0, hd0⟩ := open_sum h0 hlt0 (hval 0 _ _ rfl rfl)
  have hk0 : ∀ (W' : World), Below W.heap.size W W' → DataW.Trod enc Try.prog W' 0 (fun b => decide (b < W.heap.size)) true 50 (.agg #[.int .i64 z0, .slice A0 n0 c0]) d0 p0 :=
    fun W' hn => Below.trod prog_laidOut (by kernel_rfl) (of_decide_eq_true (by kernel_rfl)) h0 hn hlt0
  refine (lawTotalOf_any z0 A0 n0 c0 ts0 W hr0 hw0 hp0 (Nat.le_trans hc0 hd0)).mono fun e W' ⟨he, hnx⟩ => ?_
  subst he
  exact ⟨_, rfl, _, _, _, _, _, [], hW', trodAll_cons_mk (shut_bool Try.underlying4 _) trodAll_mk0, (trodAll_cons_mk (hk0 _ hnx) trodAll_mk0), rfl, hnx.frame _, fun h => by cases h⟩

theorem lawTotalOf_holds : Rows.FnExactTotalOfSaid :=
  OpenClaim.holds_of_wide 14 Try.f14 rfl rfl rfl rfl rfl rfl rfl ⟨rfl, rfl, rfl, rfl, rfl⟩ rfl rfl rfl rfl rfl (by kernel_rfl) Try.func14 (by kernel_rfl)
    (of_decide_eq_true (by kernel_rfl)) (by unfold Func.isWrapper; first | (rw [if_pos (by decide +kernel)]; kernel_rfl) | (rw [if_neg (by decide +kernel)]; exact ⟨rfl, rfl⟩))
    (fun os started H enc _ => lawTotalOf_lifted os started H enc)
end Go.Proofs.Ytinfhkcmjmglkaa
