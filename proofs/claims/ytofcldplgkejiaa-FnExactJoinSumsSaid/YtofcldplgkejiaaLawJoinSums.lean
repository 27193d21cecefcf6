/- FnExactJoinSums: for every input the program's JoinSums answers as the model's, writes into no argument, and its answer owns its memory.
   No condition. -/
import Derived.Test.YtofcldplgkejiaaWalkJoinSums
import Derived.Test.YtofcldplgkejiaaWhole
namespace Go.Proofs.Ytofcldplgkejiaa
open Go.ChangeShapes Go.WideShapes Go.ChangeAt Go.RowKit
set_option linter.unusedVariables false
set_option linter.unusedSimpArgs false
set_option maxRecDepth 100000

theorem lawJoinSums_lifted (os : Os) (started : os.Started) (H : Type) (enc : TypeId × Value → H) :
    ReturnsInHanded {} Try.checked os 5 .any (Rows.fnExactJoinSumsSpec.pre6 enc Try.prog Try.f5 Rows.fnExactJoinSumsRow.domain false) (Rows.fnExactJoinSumsSpec.post enc Try.prog Try.f5 false true false false) := by
  refine returnsInHanded_of_change (C := Try.checked) prog_own started (by kernel_rfl) Try.func5
    (ChangeSpec.witness6 (enc := enc) (C := Try.checked) false ⟨#[], #[.agg #[.int .i64 0, .slice none 0 0], .agg #[.int .i64 0, .slice none 0 0]], []⟩ 8 (by kernel_rfl) (by kernel_rfl) (by kernel_rfl) (by kernel_rfl)) ?_
  intro W base args ds gs before hval0 hW hcnd _
  have hval : ∀ (j : Nat) t v, Try.f5.params[j]? = some t → args[j]? = some v → Value.okWide Try.prog W .any base t v := hval0
  have hW' := hW
  obtain ⟨p, q, hA0, hV, rfl, hfz, hnd⟩ := hW
  have hA : DataW.TrodAll enc Try.prog W 0 (fun _ => true) true Try.f5.params.toList args.toList ds p := hA0
  rw [Try.params5] at hA hval
  obtain ⟨v0, vs0, d0, ds0, p0, q0, hargs0, rfl, rfl, h0, r0⟩ := trodAll_cons hA
  obtain ⟨v1, vs1, d1, ds1, p1, q1, hargs1, rfl, rfl, h1, r1⟩ := trodAll_cons r0
  obtain ⟨rfl, rfl, rfl⟩ := trodAll_nil r1
  obtain rfl : args = #[v0, v1] := by cases args; simp_all
  obtain ⟨rfl, rfl⟩ := trodVars_none hV
  clear hA0 hval0
  simp only [List.append_nil] at hW'
  have hlt0 : ∀ x ∈ p0, x.block < W.heap.size := fun x hx => hW'.lt x (by simp [hx])
  have hlt1 : ∀ x ∈ p1, x.block < W.heap.size := fun x hx => hW'.lt x (by simp [hx])
  obtain ⟨z0, A0, n0, c0, ts0, rfl, hr0, hw0, hp0, hc0, hd0⟩ := open_sum h0 hlt0 (hval 0 _ _ rfl rfl)
  obtain ⟨z1, A1, n1, c1, ts1, rfl, hr1, hw1, hp1, hc1, hd1⟩ := open_sum h1 hlt1 (hval 1 _ _ rfl rfl)
  have hk0 : ∀ (W' : World), Below W.heap.size W W' → DataW.Trod enc Try.prog W' 0 (fun b => decide (b < W.heap.size)) true 36 (.agg #[.int .i64 z0, .slice A0 n0 c0]) d0 p0 :=
    fun W' hn => Below.trod prog_laidOut (by kernel_rfl) (of_decide_eq_true (by kernel_rfl)) h0 hn hlt0
  have hk1 : ∀ (W' : World), Below W.heap.size W W' → DataW.Trod enc Try.prog W' 0 (fun b => decide (b < W.heap.size)) true 36 (.agg #[.int .i64 z1, .slice A1 n1 c1]) d1 p1 :=
    fun W' hn => Below.trod prog_laidOut (by kernel_rfl) (of_decide_eq_true (by kernel_rfl)) h1 hn hlt1
  refine (lawJoinSums_any z0 A0 n0 c0 ts0 z1 A1 n1 c1 ts1 W hr0 hw0 hp0 (Nat.le_trans hc0 hd0) hr1 hw1 hp1 (Nat.le_trans hc1 hd1)).mono fun e W' ⟨he, hnx⟩ => ?_
  subst he
  exact ⟨_, rfl, _, _, _, _, _, [], hW', trodAll_cons_mk (shut_bool Try.underlying4 _) trodAll_mk0, (trodAll_cons_mk (hk0 _ hnx) (trodAll_cons_mk (hk1 _ hnx) trodAll_mk0)), rfl, hnx.frame _, fun h => by cases h⟩

theorem lawJoinSums_closed : joinedFacts Try.pinned.checked.prog 5 Try.f5 Rows.fnExactJoinSumsSpec Rows.fnExactJoinSumsRow = true := by
  unfold joinedFacts
  rw [whole_heard, whole_enter, whole_lifted, whole_make]
  kernel_rfl
theorem lawJoinSums_holds : Rows.FnExactJoinSumsSaid :=
  OpenClaim.holds_of_wide 5 Try.f5 rfl rfl rfl rfl rfl rfl rfl ⟨rfl, rfl, rfl, rfl, rfl⟩ rfl rfl rfl rfl rfl (by kernel_rfl) Try.func5 lawJoinSums_closed
    (of_decide_eq_true (by kernel_rfl)) (by unfold Func.isWrapper; first | (rw [if_pos (by decide +kernel)]; kernel_rfl) | (rw [if_neg (by decide +kernel)]; exact ⟨rfl, rfl⟩))
    (fun os started H enc _ => lawJoinSums_lifted os started H enc)
end Go.Proofs.Ytofcldplgkejiaa
