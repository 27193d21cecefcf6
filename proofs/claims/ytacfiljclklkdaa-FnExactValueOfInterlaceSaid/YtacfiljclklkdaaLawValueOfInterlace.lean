/- FnExactValueOfInterlace: for every input the program's ValueOfInterlace answers as the model's, writes into no argument, and its answer owns its memory.
   No condition. -/
import Derived.Test.YtacfiljclklkdaaWalkValueOfInterlace
import Derived.Test.YtacfiljclklkdaaWhole
import Derived.Test.YtacfiljclklkdaaLeave
namespace Go.Proofs.Ytacfiljclklkdaa
open Go.ChangeShapes Go.WideShapes Go.ChangeAt Go.RowKit
set_option linter.unusedVariables false
set_option linter.unusedSimpArgs false
set_option maxRecDepth 100000

theorem lawValueOfInterlace_lifted (os : Os) (started : os.Started) (H : Type) (enc : TypeId × Value → H) :
    ReturnsInHanded {} Try.checked os 5 .any (Rows.fnExactValueOfInterlaceSpec.pre6 enc Try.prog Try.f5 Rows.fnExactValueOfInterlaceRow.domain false) (Rows.fnExactValueOfInterlaceSpec.post enc Try.prog Try.f5 false true false false) := by
  refine returnsInHanded_of_change (C := Try.checked) prog_own started (by kernel_rfl) Try.func5
    (ChangeSpec.witness6 (enc := enc) (C := Try.checked) false ⟨#[], #[.slice none 0 0, .int .i64 0], []⟩ 8 (by kernel_rfl) (by kernel_rfl) (by kernel_rfl) (by kernel_rfl)) ?_
  intro W base args ds gs before hval0 hW hcnd _
  have hval : ∀ (j : Nat) t v, Try.f5.params[j]? = some t → args[j]? = some v → Value.okWide Try.prog W .any base t v := hval0
  have hW' := hW
  obtain ⟨p, q, hA0, hV, rfl, hfz, hnd⟩ := hW
  have hA : DataW.TrodAll enc Try.prog W 0 (fun _ => true) true Try.f5.params.toList args.toList ds p := hA0
  rw [Try.params5] at hA hval
  obtain ⟨v0, vs0, d0, ds0, p0, q0, hargs0, rfl, rfl, h0, r0⟩ := trodAll_cons hA
  obtain ⟨v1, vs1, d1, ds1, p1, q1, hargs1, rfl, rfl, h1, r1⟩ := trodAll_cons r0
  obtain ⟨rfl, rfl, rfl⟩ := trodAll_nil r1
  obtain rfl : args = #[v0, v1] := by cases args; simp_all
  obtain ⟨rfl, rfl⟩ := trodVars_none hV
  clear hA0 hval0
  simp only [List.append_nil] at hW'
  have hlt0 : ∀ x ∈ p0, x.block < W.heap.size := fun x hx => hW'.lt x (by simp [hx])
  have hlt1 : ∀ x ∈ p1, x.block < W.heap.size := fun x hx => hW'.lt x (by simp [hx])
  obtain ⟨A0, n0, c0, xs0, rfl, hr0, hw0⟩ := open_rd h0 hlt0 (okWide_slice Try.underlying22 (hval 0 _ _ rfl rfl))
  have hh1 := h1
  obtain ⟨k1, rfl, rfl, rfl, wk1⟩ := open_int Try.underlying2 (hval 1 _ _ rfl rfl) hh1
  have hk0 : ∀ (W' : World), Below W.heap.size W W' → DataW.Trod enc Try.prog W' 0 (fun b => decide (b < W.heap.size)) true 22 (.slice A0 n0 c0) d0 p0 :=
    fun W' hn => Below.trod prog_laidOut (by kernel_rfl) (of_decide_eq_true (by kernel_rfl)) h0 hn hlt0
  refine (lawValueOfInterlace_any A0 n0 c0 xs0 k1 W hr0 hw0 (wf_inv wk1)).mono fun e W' ⟨he, hnx⟩ => ?_
  subst he
  exact ⟨_, rfl, _, _, _, _, _, [], hW', trodAll_cons_mk (shut_bool Try.underlying4 _) trodAll_mk0, (trodAll_cons_mk (hk0 _ hnx) (trodAll_cons_mk (shut_int Try.underlying2 wk1) trodAll_mk0)), rfl, hnx.frame _, fun h => by cases h⟩

theorem lawValueOfInterlace_closed : joinedFacts Try.pinned.checked.prog 5 Try.f5 Rows.fnExactValueOfInterlaceSpec Rows.fnExactValueOfInterlaceRow = true := by
  unfold joinedFacts
  rw [whole_heard, whole_enter, whole_lifted, whole_make]
  kernel_rfl
theorem lawValueOfInterlace_holds : Rows.FnExactValueOfInterlaceSaid :=
  OpenClaim.holds_of_wide_leaving 5 Try.f5 rfl rfl rfl rfl rfl rfl rfl ⟨rfl, rfl, rfl, rfl, rfl⟩ rfl rfl rfl rfl rfl (by kernel_rfl) Try.func5 lawValueOfInterlace_closed
    (of_decide_eq_true (by kernel_rfl)) (by unfold Func.isWrapper; first | (rw [if_pos (by decide +kernel)]; kernel_rfl) | (rw [if_neg (by decide +kernel)]; exact ⟨rfl, rfl⟩))
    (fun os started H enc _ => leaving_of_handed (lawValueOfInterlace_lifted os started H enc))
end Go.Proofs.Ytacfiljclklkdaa
