/- FnExactParseWord: for every input the program's ParseWord answers as the model's, writes into no argument, and its answer owns its memory.
   No condition. -/
import Derived.Test.YtiacpdglojikpaaFParseWord
import Derived.Test.YtiacpdglojikpaaSeg
import Derived.Test.YtiacpdglojikpaaRow
namespace Go.Proofs.Ytiacpdglojikpaa
open Go.ChangeShapes Go.WideShapes Go.ChangeAt Go.RowKit
set_option linter.unusedVariables false
set_option linter.unusedSimpArgs false
set_option maxRecDepth 100000

set_option maxHeartbeats 4000000 in
theorem lawParseWord_any (s : ByteArray) (w : World) (hts : s.size ≤ maxLen) :
    Calls Try.prog 8 #[.string s] w fun e w' => e = .returned (.bool true) ∧ Below w.heap.size w w' := by
  have HB : Hid (Below w.heap.size w w) := Lib.hid (Below.refl _ _)
  unfold maxLen at hts
  by_cases hns : s.size ≤ 1048576
  case neg =>
    go_enter Try.func8, Try.ntmps8
    go_wp2_with fail
    go_ret
    exact ⟨rfl, Below.refl _ _⟩
  go_enter Try.func8, Try.ntmps8
  have HLEN : Hid (((parseWord s).1).length ≤ 1048576) := Lib.hid (parseWord_len s hns)
  have hne1 : (((parseWord s).2) != ((parseWord s).2)) = false := by simp
  go_wp2_with fail
  refine ((specParseWord_any s _ hns).seg).mono ?_
  rintro e w1 ⟨BW, mW, dW, rfl, hlW, hsW, hF1⟩
  have hz1 := hF1.size
  replace HB := Lib.hid (below_fr HB.out hF1 (by omega) (by omega))
  clear hF1
  have HSW := Lib.hid hsW
  have HMW := Lib.hid hlW
  have hbW : mW ≤ 1048576 := by have h1 := HLEN.out; omega
  clear hsW hlW
  go_wp2_with fail
  refine ((implParseWord_any s _ hns).seg).mono ?_
  rintro e w2 ⟨BG, mG, dG, rfl, hlG, hsG, hF2⟩
  have hz2 := hF2.size
  replace HB := Lib.hid (below_fr HB.out hF2 (by omega) (by omega))
  replace HSW := Lib.hid (HSW.out.fr hF2 (by omega))
  clear hF2
  have HSG := Lib.hid hsG
  have HMG := Lib.hid hlG
  have hbG : mG ≤ 1048576 := by have h1 := HLEN.out; omega
  clear hsG hlG
  go_wp2_with fail
  refine (eqInts_seg _ _ _ _ _ _ (parseWord s).1 (parseWord s).1 _ HSG.out.rd HSW.out.rd hbG hbW).mono ?_
  rintro e w3 ⟨rfl, hF3⟩
  have hz3 := hF3.size
  replace HB := Lib.hid (below_fr HB.out hF3 (by omega) (by omega))
  replace HSW := Lib.hid (HSW.out.fr hF3 (by omega))
  replace HSG := Lib.hid (HSG.out.fr hF3 (by omega))
  clear hF3
  rw [eq_self_b (parseWord s).1]
  go_wp2_with fail
  refine (mark_seg _ _ _ _ _ _ _ HSG.out HMG.out hbG _ (by omega) (by omega)).mono ?_
  rintro e w4 ⟨rfl, hsG, hF4⟩
  have hz4 := hF4.size
  replace HB := Lib.hid (below_fr HB.out hF4 (by omega) (by omega))
  replace HSW := Lib.hid (HSW.out.fr hF4 (by omega))
  clear hF4
  replace HSG := Lib.hid hsG
  clear hsG
  go_wp2_with fail
  refine (held_seg _ _ _ _ _ _ _ HSG.out hbG (by omega) (by omega)).mono ?_
  rintro e w5 ⟨rfl, hF5⟩
  have hz5 := hF5.size
  replace HB := Lib.hid (below_fr HB.out hF5 (by omega) (by omega))
  replace HSW := Lib.hid (HSW.out.fr hF5 (by omega))
  replace HSG := Lib.hid (HSG.out.fr hF5 (by omega))
  clear hF5
  have hq1 : ((1 + (mG : Int)) != (1 + (mG : Int))) = false := by simp
  go_wp2_with fail
  refine ((implParseWord_any s _ hns).seg).mono ?_
  rintro e w6 ⟨BH, mH, dH, rfl, hlH, hsH, hF6⟩
  have hz6 := hF6.size
  replace HB := Lib.hid (below_fr HB.out hF6 (by omega) (by omega))
  replace HSW := Lib.hid (HSW.out.fr hF6 (by omega))
  replace HSG := Lib.hid (HSG.out.fr hF6 (by omega))
  clear hF6
  have HSH := Lib.hid hsH
  have HMH := Lib.hid hlH
  have hbH : mH ≤ 1048576 := by have h1 := HLEN.out; omega
  clear hsH hlH
  go_wp2_with fail
  refine (eqInts_seg _ _ _ _ _ _ (parseWord s).1 (parseWord s).1 _ HSH.out.rd HSW.out.rd hbH hbW).mono ?_
  rintro e w7 ⟨rfl, hF7⟩
  have hz7 := hF7.size
  replace HB := Lib.hid (below_fr HB.out hF7 (by omega) (by omega))
  replace HSW := Lib.hid (HSW.out.fr hF7 (by omega))
  replace HSG := Lib.hid (HSG.out.fr hF7 (by omega))
  replace HSH := Lib.hid (HSH.out.fr hF7 (by omega))
  clear hF7
  rw [eq_self_b (parseWord s).1]
  go_wp2_with fail
  refine (held_seg _ _ _ _ _ _ _ HSG.out hbG (by omega) (by omega)).mono ?_
  rintro e w8 ⟨rfl, hF8⟩
  have hz8 := hF8.size
  replace HB := Lib.hid (below_fr HB.out hF8 (by omega) (by omega))
  replace HSW := Lib.hid (HSW.out.fr hF8 (by omega))
  replace HSG := Lib.hid (HSG.out.fr hF8 (by omega))
  replace HSH := Lib.hid (HSH.out.fr hF8 (by omega))
  clear hF8
  go_wp2_with fail
  go_ret
  exact ⟨rfl, HB.out⟩

theorem lawParseWord_lifted (os : Os) (started : os.Started) (H : Type) (enc : TypeId × Value → H) :
    ReturnsInHanded {} Try.checked os 8 .any (Rows.fnExactParseWordSpec.pre6 enc Try.prog Try.f8 Rows.fnExactParseWordRow.domain false) (Rows.fnExactParseWordSpec.post enc Try.prog Try.f8 false true false false) := by
  refine returnsInHanded_of_change (C := Try.checked) prog_own started (by kernel_rfl) Try.func8
    (ChangeSpec.witness6 (enc := enc) (C := Try.checked) false ⟨#[], #[.string ⟨#[]⟩], []⟩ 8 (by kernel_rfl) (by kernel_rfl) (by kernel_rfl) (by kernel_rfl)) ?_
  intro W base args ds gs before hval0 hW hcnd _
  have hval : ∀ (j : Nat) t v, Try.f8.params[j]? = some t → args[j]? = some v → Value.okWide Try.prog W .any base t v := hval0
  have hW' := hW
  obtain ⟨p, q, hA0, hV, rfl, hfz, hnd⟩ := hW
  have hA : DataW.TrodAll enc Try.prog W 0 (fun _ => true) true Try.f8.params.toList args.toList ds p := hA0
  rw [Try.params8] at hA hval
  obtain ⟨v0, vs0, d0, ds0, p0, q0, hargs0, rfl, rfl, h0, r0⟩ := trodAll_cons hA
  obtain ⟨rfl, rfl, rfl⟩ := trodAll_nil r0
  obtain rfl : args = #[v0] := by cases args; simp_all
  obtain ⟨rfl, rfl⟩ := trodVars_none hV
  clear hA0 hval0
  simp only [List.append_nil] at hW'
  have hlt0 : ∀ x ∈ p0, x.block < W.heap.size := fun x hx => hW'.lt x (by simp [hx])
  obtain ⟨k0, rfl, rfl, rfl, wk0⟩ := Go.ChangeMaps.open_string Try.underlying9 (hval 0 _ _ rfl rfl) h0
  refine (lawParseWord_any k0 W wk0).mono fun e W' ⟨he, hnx⟩ => ?_
  subst he
  exact ⟨_, rfl, _, _, _, _, _, [], hW', trodAll_cons_mk (shut_bool Try.underlying4 _) trodAll_mk0, (trodAll_cons_mk (Go.ChangeMaps.shut_string Try.underlying9 wk0) trodAll_mk0), rfl, hnx.frame _, fun h => by cases h⟩

theorem lawParseWord_holds : Rows.FnExactParseWordSaid :=
  OpenClaim.holds_of_wide 8 Try.f8 rfl rfl rfl rfl rfl rfl rfl ⟨rfl, rfl, rfl, rfl, rfl⟩ rfl rfl rfl rfl rfl (by kernel_rfl) Try.func8 (by kernel_rfl)
    (of_decide_eq_true (by kernel_rfl)) (by unfold Func.isWrapper; first | (rw [if_pos (by decide +kernel)]; kernel_rfl) | (rw [if_neg (by decide +kernel)]; exact ⟨rfl, rfl⟩))
    (fun os started H enc _ => lawParseWord_lifted os started H enc)
end Go.Proofs.Ytiacpdglojikpaa
