/- FnExactAreSameOnCircle: for every input the program's AreSameOnCircle answers as the model's, writes into no argument, and its answer owns its memory.
   No condition. -/
import Derived.Test.YtbbmdhbdjblamaaSame
import Derived.Test.YtbbmdhbdjblamaaSeg
import Derived.Test.YtbbmdhbdjblamaaRow
namespace Go.Proofs.Ytbbmdhbdjblamaa
open Go.ChangeShapes Go.WideShapes Go.ChangeAt Go.RowKit
set_option linter.unusedVariables false
set_option linter.unusedSimpArgs false
set_option maxRecDepth 100000

set_option maxHeartbeats 4000000 in
theorem lawAreSameOnCircle_any (Axs : Option Addr) (nxs cxs : Nat) (xs : List Int) (Ays : Option Addr) (nys cys : Nat) (ys : List Int) (w : World) (hrxs : Rd w Axs nxs xs) (hwxs : Wf xs) (hrys : Rd w Ays nys ys) (hwys : Wf ys) :
    Calls Try.prog 10 #[.slice Axs nxs cxs, .slice Ays nys cys] w fun e w' => e = .returned (.bool true) ∧ Below w.heap.size w w' := by
  have HAxs : Hid (RdB w w.heap.size Axs nxs xs) := Lib.hid hrxs
  have HLxs := Lib.hid hrxs.len
  have HWxs := Lib.hid hwxs
  have HAys : Hid (RdB w w.heap.size Ays nys ys) := Lib.hid hrys
  have HLys := Lib.hid hrys.len
  have HWys := Lib.hid hwys
  have HB : Hid (Below w.heap.size w w) := Lib.hid (Below.refl _ _)
  clear hrxs hwxs hrys hwys
  by_cases hnxs : nxs ≤ 1048576
  case neg =>
    go_enter Try.func10, Try.ntmps10
    go_wp2_with fail
    go_ret
    exact ⟨rfl, Below.refl _ _⟩
  by_cases hnys : nys ≤ 1048576
  case neg =>
    go_enter Try.func10, Try.ntmps10
    go_wp2_with fail
    go_ret
    exact ⟨rfl, Below.refl _ _⟩
  go_enter Try.func10, Try.ntmps10
  have hne0 : (((twoWords id xs ys).1) != ((twoWords id xs ys).1)) = false := by simp
  have hne1 : (((twoWords id xs ys).2) != ((twoWords id xs ys).2)) = false := by simp
  go_wp2_with fail
  refine (toInts_seg Axs nxs cxs xs _ (RdB.rd HAxs.out (by omega)) hnxs).mono ?_
  rintro e w1 ⟨Baxs, maxs, daxs, rfl, hlaxs, hsaxs, hF1⟩
  have hz1 := hF1.size
  replace HAxs := Lib.hid (RdB.fr HAxs.out hF1 (by omega) (by omega))
  replace HAys := Lib.hid (RdB.fr HAys.out hF1 (by omega) (by omega))
  replace HB := Lib.hid (below_fr HB.out hF1 (by omega) (by omega))
  clear hF1
  have HSaxs := Lib.hid hsaxs
  have HMaxs := Lib.hid hlaxs
  have hbaxs : maxs ≤ 1048576 := by have h1 := HLxs.out; omega
  clear hsaxs hlaxs
  go_wp2_with fail
  refine (toInts_seg Ays nys cys ys _ (RdB.rd HAys.out (by omega)) hnys).mono ?_
  rintro e w2 ⟨Bays, mays, days, rfl, hlays, hsays, hF2⟩
  have hz2 := hF2.size
  replace HAxs := Lib.hid (RdB.fr HAxs.out hF2 (by omega) (by omega))
  replace HAys := Lib.hid (RdB.fr HAys.out hF2 (by omega) (by omega))
  replace HB := Lib.hid (below_fr HB.out hF2 (by omega) (by omega))
  replace HSaxs := Lib.hid (HSaxs.out.fr hF2 (by omega))
  clear hF2
  have HSays := Lib.hid hsays
  have HMays := Lib.hid hlays
  have hbays : mays ≤ 1048576 := by have h1 := HLys.out; omega
  clear hsays hlays
  go_wp2_with fail
  refine ((specAreSameOnCircle_any _ _ _ xs _ _ _ ys _ HSaxs.out.rd HWxs.out hbaxs HSaxs.out.cap HSays.out.rd HWys.out hbays HSays.out.cap).seg).mono ?_
  rintro e w3 ⟨rfl, hF3⟩
  have hz3 := hF3.size
  replace HAxs := Lib.hid (RdB.fr HAxs.out hF3 (by omega) (by omega))
  replace HAys := Lib.hid (RdB.fr HAys.out hF3 (by omega) (by omega))
  replace HB := Lib.hid (below_fr HB.out hF3 (by omega) (by omega))
  replace HSaxs := Lib.hid (HSaxs.out.fr hF3 (by omega))
  replace HSays := Lib.hid (HSays.out.fr hF3 (by omega))
  clear hF3
  go_wp2_with fail
  refine (toInts_seg Axs nxs cxs xs _ (RdB.rd HAxs.out (by omega)) hnxs).mono ?_
  rintro e w4 ⟨Bxxs, mxxs, dxxs, rfl, hlxxs, hsxxs, hF4⟩
  have hz4 := hF4.size
  replace HAxs := Lib.hid (RdB.fr HAxs.out hF4 (by omega) (by omega))
  replace HAys := Lib.hid (RdB.fr HAys.out hF4 (by omega) (by omega))
  replace HB := Lib.hid (below_fr HB.out hF4 (by omega) (by omega))
  clear hF4
  have HSxxs := Lib.hid hsxxs
  have HMxxs := Lib.hid hlxxs
  have hbxxs : mxxs ≤ 1048576 := by have h1 := HLxs.out; omega
  clear hsxxs hlxxs
  go_wp2_with fail
  refine (toInts_seg Ays nys cys ys _ (RdB.rd HAys.out (by omega)) hnys).mono ?_
  rintro e w5 ⟨Bxys, mxys, dxys, rfl, hlxys, hsxys, hF5⟩
  have hz5 := hF5.size
  replace HAxs := Lib.hid (RdB.fr HAxs.out hF5 (by omega) (by omega))
  replace HAys := Lib.hid (RdB.fr HAys.out hF5 (by omega) (by omega))
  replace HB := Lib.hid (below_fr HB.out hF5 (by omega) (by omega))
  replace HSxxs := Lib.hid (HSxxs.out.fr hF5 (by omega))
  clear hF5
  have HSxys := Lib.hid hsxys
  have HMxys := Lib.hid hlxys
  have hbxys : mxys ≤ 1048576 := by have h1 := HLys.out; omega
  clear hsxys hlxys
  go_wp2_with fail
  refine ((implAreSameOnCircle_any _ _ _ xs _ _ _ ys _ HSxxs.out.rd HWxs.out hbxxs HSxxs.out.cap HSxys.out.rd HWys.out hbxys HSxys.out.cap).seg).mono ?_
  rintro e w6 ⟨rfl, hF6⟩
  have hz6 := hF6.size
  replace HAxs := Lib.hid (RdB.fr HAxs.out hF6 (by omega) (by omega))
  replace HAys := Lib.hid (RdB.fr HAys.out hF6 (by omega) (by omega))
  replace HB := Lib.hid (below_fr HB.out hF6 (by omega) (by omega))
  replace HSxxs := Lib.hid (HSxxs.out.fr hF6 (by omega))
  replace HSxys := Lib.hid (HSxys.out.fr hF6 (by omega))
  clear hF6
  go_wp2_with fail
  refine (toInts_seg Axs nxs cxs xs _ (RdB.rd HAxs.out (by omega)) hnxs).mono ?_
  rintro e w7 ⟨Byxs, myxs, dyxs, rfl, hlyxs, hsyxs, hF7⟩
  have hz7 := hF7.size
  replace HAxs := Lib.hid (RdB.fr HAxs.out hF7 (by omega) (by omega))
  replace HAys := Lib.hid (RdB.fr HAys.out hF7 (by omega) (by omega))
  replace HB := Lib.hid (below_fr HB.out hF7 (by omega) (by omega))
  replace HSxxs := Lib.hid (HSxxs.out.fr hF7 (by omega))
  replace HSxys := Lib.hid (HSxys.out.fr hF7 (by omega))
  clear hF7
  have HSyxs := Lib.hid hsyxs
  have HMyxs := Lib.hid hlyxs
  have hbyxs : myxs ≤ 1048576 := by have h1 := HLxs.out; omega
  clear hsyxs hlyxs
  go_wp2_with fail
  refine (eqInts_seg _ _ _ _ _ _ xs xs _ HSxxs.out.rd HSyxs.out.rd hbxxs hbyxs).mono ?_
  rintro e w8 ⟨rfl, hF8⟩
  have hz8 := hF8.size
  replace HAxs := Lib.hid (RdB.fr HAxs.out hF8 (by omega) (by omega))
  replace HAys := Lib.hid (RdB.fr HAys.out hF8 (by omega) (by omega))
  replace HB := Lib.hid (below_fr HB.out hF8 (by omega) (by omega))
  replace HSxxs := Lib.hid (HSxxs.out.fr hF8 (by omega))
  replace HSxys := Lib.hid (HSxys.out.fr hF8 (by omega))
  replace HSyxs := Lib.hid (HSyxs.out.fr hF8 (by omega))
  clear hF8
  rw [eq_self_b xs]
  go_wp2_with fail
  refine (toInts_seg Ays nys cys ys _ (RdB.rd HAys.out (by omega)) hnys).mono ?_
  rintro e w9 ⟨Byys, myys, dyys, rfl, hlyys, hsyys, hF9⟩
  have hz9 := hF9.size
  replace HAxs := Lib.hid (RdB.fr HAxs.out hF9 (by omega) (by omega))
  replace HAys := Lib.hid (RdB.fr HAys.out hF9 (by omega) (by omega))
  replace HB := Lib.hid (below_fr HB.out hF9 (by omega) (by omega))
  replace HSxxs := Lib.hid (HSxxs.out.fr hF9 (by omega))
  replace HSxys := Lib.hid (HSxys.out.fr hF9 (by omega))
  clear hF9
  have HSyys := Lib.hid hsyys
  have HMyys := Lib.hid hlyys
  have hbyys : myys ≤ 1048576 := by have h1 := HLys.out; omega
  clear hsyys hlyys
  go_wp2_with fail
  refine (eqInts_seg _ _ _ _ _ _ ys ys _ HSxys.out.rd HSyys.out.rd hbxys hbyys).mono ?_
  rintro e w10 ⟨rfl, hF10⟩
  have hz10 := hF10.size
  replace HAxs := Lib.hid (RdB.fr HAxs.out hF10 (by omega) (by omega))
  replace HAys := Lib.hid (RdB.fr HAys.out hF10 (by omega) (by omega))
  replace HB := Lib.hid (below_fr HB.out hF10 (by omega) (by omega))
  replace HSxxs := Lib.hid (HSxxs.out.fr hF10 (by omega))
  replace HSxys := Lib.hid (HSxys.out.fr hF10 (by omega))
  replace HSyys := Lib.hid (HSyys.out.fr hF10 (by omega))
  clear hF10
  rw [eq_self_b ys]
  go_wp2_with fail
  go_ret
  exact ⟨rfl, HB.out⟩

theorem lawAreSameOnCircle_lifted (os : Os) (started : os.Started) (H : Type) (enc : TypeId × Value → H) :
    ReturnsInHanded {} Try.checked os 10 .any (Rows.fnExactAreSameOnCircleSpec.pre6 enc Try.prog Try.f10 Rows.fnExactAreSameOnCircleRow.domain false) (Rows.fnExactAreSameOnCircleSpec.post enc Try.prog Try.f10 false true false false) := by
  refine returnsInHanded_of_change (C := Try.checked) prog_own started (by kernel_rfl) Try.func10
    (ChangeSpec.witness6 (enc := enc) (C := Try.checked) false ⟨#[], #[.slice none 0 0, .slice none 0 0], []⟩ 8 (by kernel_rfl) (by kernel_rfl) (by kernel_rfl) (by kernel_rfl)) ?_
  intro W base args ds gs before hval0 hW hcnd _
  have hval : ∀ (j : Nat) t v, Try.f10.params[j]? = some t → args[j]? = some v → Value.okWide Try.prog W .any base t v := hval0
  have hW' := hW
  obtain ⟨p, q, hA0, hV, rfl, hfz, hnd⟩ := hW
  have hA : DataW.TrodAll enc Try.prog W 0 (fun _ => true) true Try.f10.params.toList args.toList ds p := hA0
  rw [Try.params10] at hA hval
  obtain ⟨v0, vs0, d0, ds0, p0, q0, hargs0, rfl, rfl, h0, r0⟩ := trodAll_cons hA
  obtain ⟨v1, vs1, d1, ds1, p1, q1, hargs1, rfl, rfl, h1, r1⟩ := trodAll_cons r0
  obtain ⟨rfl, rfl, rfl⟩ := trodAll_nil r1
  obtain rfl : args = #[v0, v1] := by cases args; simp_all
  obtain ⟨rfl, rfl⟩ := trodVars_none hV
  clear hA0 hval0
  simp only [List.append_nil] at hW'
  have hlt0 : ∀ x ∈ p0, x.block < W.heap.size := fun x hx => hW'.lt x (by simp [hx])
  have hlt1 : ∀ x ∈ p1, x.block < W.heap.size := fun x hx => hW'.lt x (by simp [hx])
  obtain ⟨A0, n0, c0, xs0, rfl, hr0, hw0⟩ := open_rd h0 hlt0 (okWide_slice Try.underlying22 (hval 0 _ _ rfl rfl))
  obtain ⟨A1, n1, c1, xs1, rfl, hr1, hw1⟩ := open_rd h1 hlt1 (okWide_slice Try.underlying22 (hval 1 _ _ rfl rfl))
  have hk0 : ∀ (W' : World), Below W.heap.size W W' → DataW.Trod enc Try.prog W' 0 (fun b => decide (b < W.heap.size)) true 22 (.slice A0 n0 c0) d0 p0 :=
    fun W' hn => Below.trod prog_laidOut (by kernel_rfl) (of_decide_eq_true (by kernel_rfl)) h0 hn hlt0
  have hk1 : ∀ (W' : World), Below W.heap.size W W' → DataW.Trod enc Try.prog W' 0 (fun b => decide (b < W.heap.size)) true 22 (.slice A1 n1 c1) d1 p1 :=
    fun W' hn => Below.trod prog_laidOut (by kernel_rfl) (of_decide_eq_true (by kernel_rfl)) h1 hn hlt1
  refine (lawAreSameOnCircle_any A0 n0 c0 xs0 A1 n1 c1 xs1 W hr0 hw0 hr1 hw1).mono fun e W' ⟨he, hnx⟩ => ?_
  subst he
  exact ⟨_, rfl, _, _, _, _, _, [], hW', trodAll_cons_mk (shut_bool Try.underlying4 _) trodAll_mk0, (trodAll_cons_mk (hk0 _ hnx) (trodAll_cons_mk (hk1 _ hnx) trodAll_mk0)), rfl, hnx.frame _, fun h => by cases h⟩

theorem lawAreSameOnCircle_holds : Rows.FnExactAreSameOnCircleSaid :=
  OpenClaim.holds_of_wide 10 Try.f10 rfl rfl rfl rfl rfl rfl rfl ⟨rfl, rfl, rfl, rfl, rfl⟩ rfl rfl rfl rfl rfl (by kernel_rfl) Try.func10 (by kernel_rfl)
    (of_decide_eq_true (by kernel_rfl)) (by unfold Func.isWrapper; first | (rw [if_pos (by decide +kernel)]; kernel_rfl) | (rw [if_neg (by decide +kernel)]; exact ⟨rfl, rfl⟩))
    (fun os started H enc _ => lawAreSameOnCircle_lifted os started H enc)
end Go.Proofs.Ytbbmdhbdjblamaa
