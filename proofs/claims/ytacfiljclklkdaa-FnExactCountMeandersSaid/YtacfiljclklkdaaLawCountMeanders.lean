/- FnExactCountMeanders: for every input the program's CountMeanders answers as the model's, writes into no argument, and its answer owns its memory.
   No condition. -/
import Derived.Test.YtacfiljclklkdaaWalkCountMeanders
import Derived.Test.YtacfiljclklkdaaWhole
import Derived.Test.YtacfiljclklkdaaLeave
namespace Go.Proofs.Ytacfiljclklkdaa
open Go.ChangeShapes Go.WideShapes Go.ChangeAt Go.RowKit
set_option linter.unusedVariables false
set_option linter.unusedSimpArgs false
set_option maxRecDepth 100000

theorem lawCountMeanders_lifted (os : Os) (started : os.Started) (H : Type) (enc : TypeId × Value → H) :
    ReturnsInHanded {} Try.checked os 13 .any (Rows.fnExactCountMeandersSpec.pre6 enc Try.prog Try.f13 Rows.fnExactCountMeandersRow.domain false) (Rows.fnExactCountMeandersSpec.post enc Try.prog Try.f13 false true false false) := by
  refine returnsInHanded_of_change (C := Try.checked) prog_own started (by kernel_rfl) Try.func13
    (ChangeSpec.witness6 (enc := enc) (C := Try.checked) false ⟨#[], #[.int .i64 0], []⟩ 8 (by kernel_rfl) (by kernel_rfl) (by kernel_rfl) (by kernel_rfl)) ?_
  intro W base args ds gs before hval0 hW hcnd _
  have hval : ∀ (j : Nat) t v, Try.f13.params[j]? = some t → args[j]? = some v → Value.okWide Try.prog W .any base t v := hval0
  have hW' := hW
  obtain ⟨p, q, hA0, hV, rfl, hfz, hnd⟩ := hW
  have hA : DataW.TrodAll enc Try.prog W 0 (fun _ => true) true Try.f13.params.toList args.toList ds p := hA0
  rw [Try.params13] at hA hval
  obtain ⟨v0, vs0, d0, ds0, p0, q0, hargs0, rfl, rfl, h0, r0⟩ := trodAll_cons hA
  obtain ⟨rfl, rfl, rfl⟩ := trodAll_nil r0
  obtain rfl : args = #[v0] := by cases args; simp_all
  obtain ⟨rfl, rfl⟩ := trodVars_none hV
  clear hA0 hval0
  simp only [List.append_nil] at hW'
  have hlt0 : ∀ x ∈ p0, x.block < W.heap.size := fun x hx => hW'.lt x (by simp [hx])
  have hh0 := h0
  obtain ⟨k0, rfl, rfl, rfl, wk0⟩ := open_int Try.underlying2 (hval 0 _ _ rfl rfl) hh0
  refine (lawCountMeanders_any k0 W (wf_inv wk0)).mono fun e W' ⟨he, hnx⟩ => ?_
  subst he
  exact ⟨_, rfl, _, _, _, _, _, [], hW', trodAll_cons_mk (shut_bool Try.underlying4 _) trodAll_mk0, (trodAll_cons_mk (shut_int Try.underlying2 wk0) trodAll_mk0), rfl, hnx.frame _, fun h => by cases h⟩

theorem lawCountMeanders_closed : joinedFacts Try.pinned.checked.prog 13 Try.f13 Rows.fnExactCountMeandersSpec Rows.fnExactCountMeandersRow = true := by
  unfold joinedFacts
  rw [whole_heard, whole_enter, whole_lifted, whole_make]
  kernel_rfl
theorem lawCountMeanders_holds : Rows.FnExactCountMeandersSaid :=
  OpenClaim.holds_of_wide_leaving 13 Try.f13 rfl rfl rfl rfl rfl rfl rfl ⟨rfl, rfl, rfl, rfl, rfl⟩ rfl rfl rfl rfl rfl (by kernel_rfl) Try.func13 lawCountMeanders_closed
    (of_decide_eq_true (by kernel_rfl)) (by unfold Func.isWrapper; first | (rw [if_pos (by decide +kernel)]; kernel_rfl) | (rw [if_neg (by decide +kernel)]; exact ⟨rfl, rfl⟩))
    (fun os started H enc _ => leaving_of_handed (lawCountMeanders_lifted os started H enc))
end Go.Proofs.Ytacfiljclklkdaa
