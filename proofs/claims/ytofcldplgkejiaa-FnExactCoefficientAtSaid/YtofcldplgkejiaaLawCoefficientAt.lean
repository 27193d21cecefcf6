/- FnExactCoefficientAt: for every input the program's CoefficientAt answers as the model's, and writes into no argument.
   No condition. -/
import Derived.Test.YtofcldplgkejiaaSumPutR
import Derived.Test.YtofcldplgkejiaaSumRow
import Derived.Deep.RegionHeld3
namespace Go.Proofs.Ytofcldplgkejiaa
open Go.ChangeShapes Go.WideShapes Go.ChangeAt Go.RowKit
set_option linter.unusedVariables false
set_option linter.unusedSimpArgs false
set_option maxRecDepth 100000

set_option maxHeartbeats 4000000 in
theorem lawCoefficientAt_any (pa : Int) (Aa : Option Addr) (na ca : Nat) (ta : Tms) (Axs : Option Addr) (nxs cxs : Nat) (xs : List Int) (w : World) (hra : RdT w Aa na ta) (hwa : WfT ta) (hpa : -9223372036854775808 ≤ pa ∧ pa ≤ 9223372036854775807) (hca : na ≤ 9223372036854775807) (hrxs : Rd w Axs nxs xs) (hwxs : Wf xs) :
    Calls Try.prog 6 #[.agg #[.int .i64 pa, .slice Aa na ca], .slice Axs nxs cxs] w fun e w' => e = .returned (.bool true) ∧ Below w.heap.size w w' := by
  obtain ⟨W, hW⟩ : ∃ W, W = w.alloc (.cells #[.int .i64 pa, .slice Aa na ca] 36) := ⟨_, rfl⟩
  have hF0 : Fr 0 0 w W := by rw [hW]; exact fr_alloc _ _
  have HXa : Hid (Box2 W (w.heap.size) 36 (.int .i64 pa) (.slice Aa na ca)) := Lib.hid (by rw [hW]; exact box2_new _ _ _ _)
  have HAa : Hid (RdTB W w.heap.size Aa na ta) := Lib.hid (RdTB.fr hra hF0 (by omega) (by omega))
  have HWa := Lib.hid hwa
  have HLa := Lib.hid hra.len
  have HAxs : Hid (RdB W w.heap.size Axs nxs xs) := Lib.hid (RdB.fr hrxs hF0 (by omega) (by omega))
  have HLxs := Lib.hid hrxs.len
  have HWxs := Lib.hid hwxs
  have HB : Hid (Below w.heap.size w W) := Lib.hid (below_of_fr hF0)
  have hz0 := hF0.size
  have HWW := Lib.hid hW
  clear hW hF0 hra hwa hrxs hwxs
  by_cases hnxs : nxs ≤ 1048576
  case neg =>
    go_enter Try.func6, Try.ntmps6
    go_wp2_with fail
    go_ret
    have hB := HB.out
    rw [HWW.out] at hB
    exact ⟨rfl, hB⟩
  go_enter Try.func6, Try.ntmps6
  by_cases hNa : (need ta : Int) ≤ 1048576
  case neg =>
    have q0HXa := HXa.out.cell0
    have q1HXa := HXa.out.cell1
    go_wp2_with fail
    rw [← HWW.out]
    clear q0HXa q1HXa
    refine (szSum_seg pa Aa na ca ta (1048576) _ (RdTB.rd HAa.out (by omega)) hca (by omega) (by omega)).mono ?_
    rintro e w1 ⟨rfl, hF1⟩
    have hz1 := hF1.size
    replace HAa := Lib.hid (RdTB.fr HAa.out hF1 (by omega) (by omega))
    replace HXa := Lib.hid (HXa.out.fr hF1 (by omega))
    replace HAxs := Lib.hid (RdB.fr HAxs.out hF1 (by omega) (by omega))
    replace HB := Lib.hid (below_fr HB.out hF1 (by omega) (by omega))
    clear hF1
    rw [show left (1048576) ta = -1 from by unfold left; rw [if_neg (by omega)]]
    go_wp2_with fail
    go_ret
    exact ⟨rfl, HB.out⟩
  have q0HXa := HXa.out.cell0
  have q1HXa := HXa.out.cell1
  go_wp2_with fail
  rw [← HWW.out]
  clear q0HXa q1HXa
  refine (szSum_seg pa Aa na ca ta (1048576) _ (RdTB.rd HAa.out (by omega)) hca (by omega) (by omega)).mono ?_
  rintro e w1 ⟨rfl, hF1⟩
  have hz1 := hF1.size
  replace HAa := Lib.hid (RdTB.fr HAa.out hF1 (by omega) (by omega))
  replace HXa := Lib.hid (HXa.out.fr hF1 (by omega))
  replace HAxs := Lib.hid (RdB.fr HAxs.out hF1 (by omega) (by omega))
  replace HB := Lib.hid (below_fr HB.out hF1 (by omega) (by omega))
  clear hF1
  rw [show left (1048576) ta = 1048576 - need ta from by unfold left; rw [if_pos (by omega)]]
  have hlta : ¬ (1048576 - (need ta : Int) < 0) := by omega
  have hma : need ta ≤ 1048576 := by omega
  have hne0 : (((coeffAt pa ta xs).1) != ((coeffAt pa ta xs).1)) = false := by simp
  have hne1 : (((coeffAt pa ta xs).2) != ((coeffAt pa ta xs).2)) = false := by simp
  have q0HXa := HXa.out.cell0
  have q1HXa := HXa.out.cell1
  go_wp2_with fail
  clear q0HXa q1HXa
  refine (toSum_seg pa Aa na ca ta _ (RdTB.rd HAa.out (by omega)) hma).mono ?_
  rintro e w2 ⟨Baa, maa, daa, rfl, hsaa, hF2⟩
  have hz2 := hF2.size
  replace HAa := Lib.hid (RdTB.fr HAa.out hF2 (by omega) (by omega))
  replace HXa := Lib.hid (HXa.out.fr hF2 (by omega))
  replace HAxs := Lib.hid (RdB.fr HAxs.out hF2 (by omega) (by omega))
  replace HB := Lib.hid (below_fr HB.out hF2 (by omega) (by omega))
  clear hF2
  have HSaa := Lib.hid hsaa
  clear hsaa
  have q0HXa := HXa.out.cell0
  have q1HXa := HXa.out.cell1
  go_wp2_with fail
  clear q0HXa q1HXa
  refine (toInts_seg Axs nxs cxs xs _ (RdB.rd HAxs.out (by omega)) hnxs).mono ?_
  rintro e w3 ⟨Baxs, maxs, daxs, rfl, hlaxs, hsaxs, hF3⟩
  have hz3 := hF3.size
  replace HAa := Lib.hid (RdTB.fr HAa.out hF3 (by omega) (by omega))
  replace HXa := Lib.hid (HXa.out.fr hF3 (by omega))
  replace HAxs := Lib.hid (RdB.fr HAxs.out hF3 (by omega) (by omega))
  replace HB := Lib.hid (below_fr HB.out hF3 (by omega) (by omega))
  replace HSaa := Lib.hid (HSaa.out.fr hF3 (by omega))
  clear hF3
  have HSaxs := Lib.hid hsaxs
  have hbaxs : maxs ≤ 1048576 := by have h1 := HLxs.out; omega
  clear hsaxs hlaxs
  have q0HXa := HXa.out.cell0
  have q1HXa := HXa.out.cell1
  go_wp2_with fail
  clear q0HXa q1HXa
  refine ((specCoefficientAt_any pa _ _ _ ta _ _ _ xs _ HSaa.out.rd HWa.out hma hpa HSaxs.out.rd HWxs.out hbaxs HSaxs.out.cap).seg).mono ?_
  rintro e w4 ⟨rfl, hF4⟩
  have hz4 := hF4.size
  replace HAa := Lib.hid (RdTB.fr HAa.out hF4 (by omega) (by omega))
  replace HXa := Lib.hid (HXa.out.fr hF4 (by omega))
  replace HAxs := Lib.hid (RdB.fr HAxs.out hF4 (by omega) (by omega))
  replace HB := Lib.hid (below_fr HB.out hF4 (by omega) (by omega))
  replace HSaa := Lib.hid (HSaa.out.fr hF4 (by omega))
  replace HSaxs := Lib.hid (HSaxs.out.fr hF4 (by omega))
  clear hF4
  have q0HXa := HXa.out.cell0
  have q1HXa := HXa.out.cell1
  go_wp2_with fail
  clear q0HXa q1HXa
  refine (toSum_seg pa Aa na ca ta _ (RdTB.rd HAa.out (by omega)) hma).mono ?_
  rintro e w5 ⟨Bxa, mxa, dxa, rfl, hsxa, hF5⟩
  have hz5 := hF5.size
  replace HAa := Lib.hid (RdTB.fr HAa.out hF5 (by omega) (by omega))
  replace HXa := Lib.hid (HXa.out.fr hF5 (by omega))
  replace HAxs := Lib.hid (RdB.fr HAxs.out hF5 (by omega) (by omega))
  replace HB := Lib.hid (below_fr HB.out hF5 (by omega) (by omega))
  clear hF5
  have HSxa := Lib.hid hsxa
  clear hsxa
  obtain ⟨X5, hX5⟩ : ∃ X, X = w5.alloc (.cells #[.int .i64 pa, .slice Bxa mxa dxa] 25) := ⟨_, rfl⟩
  have hG5 : Fr 0 0 w5 X5 := by rw [hX5]; exact fr_alloc _ _
  have HXxa : Hid (Box2 X5 w5.heap.size 25 (.int .i64 pa) (.slice Bxa mxa dxa)) := Lib.hid (by rw [hX5]; exact box2_new _ _ _ _)
  have HH5 := Lib.hid hX5
  have q0HXa := HXa.out.cell0
  have q1HXa := HXa.out.cell1
  go_wp2_with fail
  clear q0HXa q1HXa
  rw [← HH5.out]
  have hzx5 := hG5.size
  replace HAa := Lib.hid (RdTB.fr HAa.out hG5 (by omega) (by omega))
  replace HXa := Lib.hid (HXa.out.fr hG5 (by omega))
  replace HAxs := Lib.hid (RdB.fr HAxs.out hG5 (by omega) (by omega))
  replace HB := Lib.hid (below_fr HB.out hG5 (by omega) (by omega))
  replace HSxa := Lib.hid (HSxa.out.fr hG5 (by omega))
  clear hX5 hG5
  have q0HXa := HXa.out.cell0
  have q1HXa := HXa.out.cell1
  have q0HXxa := HXxa.out.cell0
  have q1HXxa := HXxa.out.cell1
  go_wp2_with fail
  clear q0HXa q1HXa q0HXxa q1HXxa
  refine (toInts_seg Axs nxs cxs xs _ (RdB.rd HAxs.out (by omega)) hnxs).mono ?_
  rintro e w6 ⟨Bxxs, mxxs, dxxs, rfl, hlxxs, hsxxs, hF6⟩
  have hz6 := hF6.size
  replace HAa := Lib.hid (RdTB.fr HAa.out hF6 (by omega) (by omega))
  replace HXa := Lib.hid (HXa.out.fr hF6 (by omega))
  replace HAxs := Lib.hid (RdB.fr HAxs.out hF6 (by omega) (by omega))
  replace HB := Lib.hid (below_fr HB.out hF6 (by omega) (by omega))
  replace HSxa := Lib.hid (HSxa.out.fr hF6 (by omega))
  replace HXxa := Lib.hid (HXxa.out.fr hF6 (by omega))
  clear hF6
  have HSxxs := Lib.hid hsxxs
  have hbxxs : mxxs ≤ 1048576 := by have h1 := HLxs.out; omega
  clear hsxxs hlxxs
  have q0HXa := HXa.out.cell0
  have q1HXa := HXa.out.cell1
  have q0HXxa := HXxa.out.cell0
  have q1HXxa := HXxa.out.cell1
  go_wp2_with fail
  clear q0HXa q1HXa q0HXxa q1HXxa
  refine ((implCoefficientAt_any pa _ _ _ ta _ _ _ xs _ HSxa.out.rd HWa.out hma hpa HSxxs.out.rd HWxs.out hbxxs HSxxs.out.cap).seg).mono ?_
  rintro e w7 ⟨rfl, hF7⟩
  have hz7 := hF7.size
  replace HAa := Lib.hid (RdTB.fr HAa.out hF7 (by omega) (by omega))
  replace HXa := Lib.hid (HXa.out.fr hF7 (by omega))
  replace HAxs := Lib.hid (RdB.fr HAxs.out hF7 (by omega) (by omega))
  replace HB := Lib.hid (below_fr HB.out hF7 (by omega) (by omega))
  replace HSxa := Lib.hid (HSxa.out.fr hF7 (by omega))
  replace HXxa := Lib.hid (HXxa.out.fr hF7 (by omega))
  replace HSxxs := Lib.hid (HSxxs.out.fr hF7 (by omega))
  clear hF7
  have q0HXa := HXa.out.cell0
  have q1HXa := HXa.out.cell1
  have q0HXxa := HXxa.out.cell0
  have q1HXxa := HXxa.out.cell1
  go_wp2_with fail
  clear q0HXa q1HXa q0HXxa q1HXxa
  have HK7 : Hid (∀ X, Fr 0 0 w7 X → X.cell? ⟨w.heap.size, 0, none⟩ = some (.int .i64 pa) ∧ X.cell? ⟨w.heap.size, 1, none⟩ = some (.slice Aa na ca) ∧ X.cell? ⟨w5.heap.size, 0, none⟩ = some (.int .i64 pa) ∧ X.cell? ⟨w5.heap.size, 1, none⟩ = some (.slice Bxa mxa dxa) ∧ Hid (Fr 0 0 w7 X)) := Lib.hid (fun X hX => ⟨(HXa.out.fr hX (by omega)).cell0, (HXa.out.fr hX (by omega)).cell1, (HXxa.out.fr hX (by omega)).cell0, (HXxa.out.fr hX (by omega)).cell1, Lib.hid hX⟩)
  go_region_held3 (fun X => X.cell? ⟨w.heap.size, 0, none⟩ = some (.int .i64 pa) ∧ X.cell? ⟨w.heap.size, 1, none⟩ = some (.slice Aa na ca) ∧ X.cell? ⟨w5.heap.size, 0, none⟩ = some (.int .i64 pa) ∧ X.cell? ⟨w5.heap.size, 1, none⟩ = some (.slice Bxa mxa dxa) ∧ Hid (Fr 0 0 w7 X)) ((refine HK7.out _ ?_; first | exact Hid.out (by assumption) | exact fr_drew _)) (first | (go_at_call 25; obtain ⟨_, _, _, _, hbb⟩ := ‹_ ∧ _ ∧ _ ∧ _ ∧ Hid (Fr 0 0 w7 _)›; refine (toSum_seg pa Aa na ca ta _ (RdTB.rd (RdTB.fr HAa.out hbb.out (by omega) (by omega)) (by have := hbb.out.size; omega)) hma).mono ?_; rintro e v2 ⟨By, my, dy, rfl, hsy, hfy⟩; have HSY := Lib.hid hsy.rd; have HFY := Lib.hid (fr_trans hbb.out hfy); clear hsy hfy hbb) | (go_at_call 18; obtain ⟨_, _, _, _, hbb⟩ := ‹_ ∧ _ ∧ _ ∧ _ ∧ Hid (Fr 0 0 w7 _)›; refine (eqSum_seg pa _ _ _ _ _ _ ta _ ((HSxa.out.fr hbb.out (by omega)).rd) HSY.out hma).mono ?_; rintro e v3 ⟨rfl, hfy⟩; have HFZ := Lib.hid (fr_trans hbb.out hfy); clear hfy hbb))
  have hF8 := HFZ.out
  have hz8 := hF8.size
  replace HAa := Lib.hid (RdTB.fr HAa.out hF8 (by omega) (by omega))
  replace HXa := Lib.hid (HXa.out.fr hF8 (by omega))
  replace HAxs := Lib.hid (RdB.fr HAxs.out hF8 (by omega) (by omega))
  replace HB := Lib.hid (below_fr HB.out hF8 (by omega) (by omega))
  replace HSxa := Lib.hid (HSxa.out.fr hF8 (by omega))
  replace HXxa := Lib.hid (HXxa.out.fr hF8 (by omega))
  replace HSxxs := Lib.hid (HSxxs.out.fr hF8 (by omega))
  clear hF8 HFZ HFY HSY
  have q0HXa := HXa.out.cell0
  have q1HXa := HXa.out.cell1
  have q0HXxa := HXxa.out.cell0
  have q1HXxa := HXxa.out.cell1
  go_wp2_with fail
  clear q0HXa q1HXa q0HXxa q1HXxa
  refine (toInts_seg Axs nxs cxs xs _ (RdB.rd HAxs.out (by omega)) hnxs).mono ?_
  rintro e w9 ⟨Byxs, myxs, dyxs, rfl, hlyxs, hsyxs, hF9⟩
  have hz9 := hF9.size
  replace HAa := Lib.hid (RdTB.fr HAa.out hF9 (by omega) (by omega))
  replace HXa := Lib.hid (HXa.out.fr hF9 (by omega))
  replace HAxs := Lib.hid (RdB.fr HAxs.out hF9 (by omega) (by omega))
  replace HB := Lib.hid (below_fr HB.out hF9 (by omega) (by omega))
  replace HSxa := Lib.hid (HSxa.out.fr hF9 (by omega))
  replace HXxa := Lib.hid (HXxa.out.fr hF9 (by omega))
  replace HSxxs := Lib.hid (HSxxs.out.fr hF9 (by omega))
  clear hF9
  have HSyxs := Lib.hid hsyxs
  have hbyxs : myxs ≤ 1048576 := by have h1 := HLxs.out; omega
  clear hsyxs hlyxs
  have q0HXa := HXa.out.cell0
  have q1HXa := HXa.out.cell1
  have q0HXxa := HXxa.out.cell0
  have q1HXxa := HXxa.out.cell1
  go_wp2_with fail
  clear q0HXa q1HXa q0HXxa q1HXxa
  refine (eqInts_seg _ _ _ _ _ _ xs xs _ HSxxs.out.rd HSyxs.out.rd hbxxs hbyxs).mono ?_
  rintro e w10 ⟨rfl, hF10⟩
  have hz10 := hF10.size
  replace HAa := Lib.hid (RdTB.fr HAa.out hF10 (by omega) (by omega))
  replace HXa := Lib.hid (HXa.out.fr hF10 (by omega))
  replace HAxs := Lib.hid (RdB.fr HAxs.out hF10 (by omega) (by omega))
  replace HB := Lib.hid (below_fr HB.out hF10 (by omega) (by omega))
  replace HSxa := Lib.hid (HSxa.out.fr hF10 (by omega))
  replace HXxa := Lib.hid (HXxa.out.fr hF10 (by omega))
  replace HSxxs := Lib.hid (HSxxs.out.fr hF10 (by omega))
  replace HSyxs := Lib.hid (HSyxs.out.fr hF10 (by omega))
  clear hF10
  rw [eq_self_b xs]
  go_wp2_with fail
  go_ret
  exact ⟨rfl, HB.out⟩

theorem lawCoefficientAt_lifted (os : Os) (started : os.Started) (H : Type) (enc : TypeId × Value → H) :
    ReturnsInHanded {} Try.checked os 6 .any (Rows.fnExactCoefficientAtSpec.pre6 enc Try.prog Try.f6 Rows.fnExactCoefficientAtRow.domain false) (Rows.fnExactCoefficientAtSpec.post enc Try.prog Try.f6 false true false false) := by
  refine returnsInHanded_of_change (C := Try.checked) prog_own started (by kernel_rfl) Try.func6
    (ChangeSpec.witness6 (enc := enc) (C := Try.checked) false ⟨#[], #[.agg #[.int .i64 0, .slice none 0 0], .slice none 0 0], []⟩ 8 (by kernel_rfl) (by kernel_rfl) (by kernel_rfl) (by kernel_rfl)) ?_
  intro W base args ds gs before hval0 hW hcnd _
  have hval : ∀ (j : Nat) t v, Try.f6.params[j]? = some t → args[j]? = some v → Value.okWide Try.prog W .any base t v := hval0
  have hW' := hW
  obtain ⟨p, q, hA0, hV, rfl, hfz, hnd⟩ := hW
  have hA : DataW.TrodAll enc Try.prog W 0 (fun _ => true) true Try.f6.params.toList args.toList ds p := hA0
  rw [Try.params6] at hA hval
  obtain ⟨v0, vs0, d0, ds0, p0, q0, hargs0, rfl, rfl, h0, r0⟩ := trodAll_cons hA
  obtain ⟨v1, vs1, d1, ds1, p1, q1, hargs1, rfl, rfl, h1, r1⟩ := trodAll_cons r0
  obtain ⟨rfl, rfl, rfl⟩ := trodAll_nil r1
  obtain rfl : args = #[v0, v1] := by cases args; simp_all
  obtain ⟨rfl, rfl⟩ := trodVars_none hV
  clear hA0 hval0
  simp only [List.append_nil] at hW'
  have hlt0 : ∀ x ∈ p0, x.block < W.heap.size := fun x hx => hW'.lt x (by simp [hx])
  have hlt1 : ∀ x ∈ p1, x.block < W.heap.size := fun x hx => hW'.lt x (by simp [hx])
  obtain ⟨z0, A0, n0, c0, ts0, rfl, hr0, hw0, hp0, hc0, hd0⟩ := open_sum h0 hlt0 (hval 0 _ _ rfl rfl)
  obtain ⟨A1, n1, c1, xs1, rfl, hr1, hw1⟩ := open_rd h1 hlt1 (okWide_slice Try.underlying22 (hval 1 _ _ rfl rfl))
  have hk0 : ∀ (W' : World), Below W.heap.size W W' → DataW.Trod enc Try.prog W' 0 (fun b => decide (b < W.heap.size)) true 36 (.agg #[.int .i64 z0, .slice A0 n0 c0]) d0 p0 :=
    fun W' hn => Below.trod prog_laidOut (by kernel_rfl) (of_decide_eq_true (by kernel_rfl)) h0 hn hlt0
  have hk1 : ∀ (W' : World), Below W.heap.size W W' → DataW.Trod enc Try.prog W' 0 (fun b => decide (b < W.heap.size)) true 22 (.slice A1 n1 c1) d1 p1 :=
    fun W' hn => Below.trod prog_laidOut (by kernel_rfl) (of_decide_eq_true (by kernel_rfl)) h1 hn hlt1
  refine (lawCoefficientAt_any z0 A0 n0 c0 ts0 A1 n1 c1 xs1 W hr0 hw0 hp0 (Nat.le_trans hc0 hd0) hr1 hw1).mono fun e W' ⟨he, hnx⟩ => ?_
  subst he
  exact ⟨_, rfl, _, _, _, _, _, [], hW', trodAll_cons_mk (shut_bool Try.underlying4 _) trodAll_mk0, (trodAll_cons_mk (hk0 _ hnx) (trodAll_cons_mk (hk1 _ hnx) trodAll_mk0)), rfl, hnx.frame _, fun h => by cases h⟩

theorem lawCoefficientAt_holds : Rows.FnExactCoefficientAtSaid :=
  OpenClaim.holds_of_wide 6 Try.f6 rfl rfl rfl rfl rfl rfl rfl ⟨rfl, rfl, rfl, rfl, rfl⟩ rfl rfl rfl rfl rfl (by kernel_rfl) Try.func6 (by kernel_rfl)
    (of_decide_eq_true (by kernel_rfl)) (by unfold Func.isWrapper; first | (rw [if_pos (by decide +kernel)]; kernel_rfl) | (rw [if_neg (by decide +kernel)]; exact ⟨rfl, rfl⟩))
    (fun os started H enc _ => lawCoefficientAt_lifted os started H enc)
end Go.Proofs.Ytofcldplgkejiaa
