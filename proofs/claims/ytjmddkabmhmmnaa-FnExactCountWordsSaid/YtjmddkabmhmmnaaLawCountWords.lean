/- FnExactCountWords: for every input the program's CountWords answers as the model's, writes into no argument, and its answer owns its memory.
   No condition. -/
import Derived.Test.YtjmddkabmhmmnaaFCountWords
import Derived.Test.YtjmddkabmhmmnaaSeg
import Derived.Test.YtjmddkabmhmmnaaRow
namespace Go.Proofs.Ytjmddkabmhmmnaa
open Go.ChangeShapes Go.WideShapes Go.ChangeAt Go.RowKit
set_option linter.unusedVariables false
set_option linter.unusedSimpArgs false
set_option maxRecDepth 100000

set_option maxHeartbeats 4000000 in
theorem lawCountWords_any (k : Int) (w : World) (hik : -9223372036854775808 ≤ k ∧ k ≤ 9223372036854775807) :
    Calls Try.prog 11 #[.int .i64 k] w fun e w' => e = .returned (.bool true) ∧ Below w.heap.size w w' := by
  have HB : Hid (Below w.heap.size w w) := Lib.hid (Below.refl _ _)
  go_enter Try.func11, Try.ntmps11
  have hne0 : (((countWords k).1) != ((countWords k).1)) = false := by simp
  have hne1 : (((countWords k).2) != ((countWords k).2)) = false := by simp
  go_wp2_with fail
  refine ((specCountWords_any k _ hik).seg).mono ?_
  rintro e w1 ⟨rfl, hF1⟩
  have hz1 := hF1.size
  replace HB := Lib.hid (below_fr HB.out hF1 (by omega) (by omega))
  clear hF1
  go_wp2_with fail
  refine ((implCountWords_any k _ hik).seg).mono ?_
  rintro e w2 ⟨rfl, hF2⟩
  have hz2 := hF2.size
  replace HB := Lib.hid (below_fr HB.out hF2 (by omega) (by omega))
  clear hF2
  go_wp2_with fail
  go_ret
  exact ⟨rfl, HB.out⟩

theorem lawCountWords_lifted (os : Os) (started : os.Started) (H : Type) (enc : TypeId × Value → H) :
    ReturnsInHanded {} Try.checked os 11 .any (Rows.fnExactCountWordsSpec.pre6 enc Try.prog Try.f11 Rows.fnExactCountWordsRow.domain false) (Rows.fnExactCountWordsSpec.post enc Try.prog Try.f11 false true false false) := by
  refine returnsInHanded_of_change (C := Try.checked) prog_own started (by kernel_rfl) Try.func11
    (ChangeSpec.witness6 (enc := enc) (C := Try.checked) false ⟨#[], #[.int .i64 0], []⟩ 8 (by kernel_rfl) (by kernel_rfl) (by kernel_rfl) (by kernel_rfl)) ?_
  intro W base args ds gs before hval0 hW hcnd _
  have hval : ∀ (j : Nat) t v, Try.f11.params[j]? = some t → args[j]? = some v → Value.okWide Try.prog W .any base t v := hval0
  have hW' := hW
  obtain ⟨p, q, hA0, hV, rfl, hfz, hnd⟩ := hW
  have hA : DataW.TrodAll enc Try.prog W 0 (fun _ => true) true Try.f11.params.toList args.toList ds p := hA0
  rw [Try.params11] at hA hval
  obtain ⟨v0, vs0, d0, ds0, p0, q0, hargs0, rfl, rfl, h0, r0⟩ := trodAll_cons hA
  obtain ⟨rfl, rfl, rfl⟩ := trodAll_nil r0
  obtain rfl : args = #[v0] := by cases args; simp_all
  obtain ⟨rfl, rfl⟩ := trodVars_none hV
  clear hA0 hval0
  simp only [List.append_nil] at hW'
  have hlt0 : ∀ x ∈ p0, x.block < W.heap.size := fun x hx => hW'.lt x (by simp [hx])
  have hh0 := h0
  obtain ⟨k0, rfl, rfl, rfl, wk0⟩ := open_int Try.underlying2 (hval 0 _ _ rfl rfl) hh0
  refine (lawCountWords_any k0 W (wf_inv wk0)).mono fun e W' ⟨he, hnx⟩ => ?_
  subst he
  exact ⟨_, rfl, _, _, _, _, _, [], hW', trodAll_cons_mk (shut_bool Try.underlying4 _) trodAll_mk0, (trodAll_cons_mk (shut_int Try.underlying2 wk0) trodAll_mk0), rfl, hnx.frame _, fun h => by cases h⟩

theorem lawCountWords_holds : Rows.FnExactCountWordsSaid :=
  OpenClaim.holds_of_wide 11 Try.f11 rfl rfl rfl rfl rfl rfl rfl ⟨rfl, rfl, rfl, rfl, rfl⟩ rfl rfl rfl rfl rfl (by kernel_rfl) Try.func11 (by kernel_rfl)
    (of_decide_eq_true (by kernel_rfl)) (by unfold Func.isWrapper; first | (rw [if_pos (by decide +kernel)]; kernel_rfl) | (rw [if_neg (by decide +kernel)]; exact ⟨rfl, rfl⟩))
    (fun os started H enc _ => lawCountWords_lifted os started H enc)
end Go.Proofs.Ytjmddkabmhmmnaa
