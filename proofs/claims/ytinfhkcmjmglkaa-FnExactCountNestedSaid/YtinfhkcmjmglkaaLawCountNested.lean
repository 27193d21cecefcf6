/- FnExactCountNested: for every input the program's CountNested answers as the model's, writes into no argument, and its answer owns its memory.
   No condition. -/
import Derived.Test.YtinfhkcmjmglkaaPairs
import Derived.Test.YtinfhkcmjmglkaaSeg
import Derived.Test.YtinfhkcmjmglkaaRow
import Derived.Test.YtinfhkcmjmglkaaLeave
namespace Go.Proofs.Ytinfhkcmjmglkaa
open Go.ChangeShapes Go.WideShapes Go.ChangeAt Go.RowKit
set_option linter.unusedVariables false
set_option linter.unusedSimpArgs false
set_option maxRecDepth 100000

set_option maxHeartbeats 4000000 in
theorem lawCountNested_any (Axs : Option Addr) (nxs cxs : Nat) (xs : List Int) (w : World) (hrxs : Rd w Axs nxs xs) (hwxs : Wf xs) :
    Calls Try.prog 5 #[.slice Axs nxs cxs] w fun e w' => e = .returned (.bool true) ∧ Below w.heap.size w w' := by
  have HAxs : Hid (RdB w w.heap.size Axs nxs xs) := Lib.hid hrxs
  have HLxs := Lib.hid hrxs.len
  have HWxs := Lib.hid hwxs
  have HB : Hid (Below w.heap.size w w) := Lib.hid (Below.refl _ _)
  clear hrxs hwxs
  by_cases hnxs : nxs ≤ 1048576
  case neg =>
    go_enter Try.func5, Try.ntmps5
    go_wp2_with fail
    go_ret
    exact ⟨rfl, Below.refl _ _⟩
  go_enter Try.func5, Try.ntmps5
  have hne0 : (((wordVal nestedCount xs).1) != ((wordVal nestedCount xs).1)) = false := by simp
  have hne1 : (((wordVal nestedCount xs).2) != ((wordVal nestedCount xs).2)) = false := by simp
  go_wp2_with fail
  refine (toInts_seg Axs nxs cxs xs _ (RdB.rd HAxs.out (by omega)) hnxs).mono ?_
  rintro e w1 ⟨Baxs, maxs, daxs, rfl, hlaxs, hsaxs, hF1⟩
  have hz1 := hF1.size
  replace HAxs := Lib.hid (RdB.fr HAxs.out hF1 (by omega) (by omega))
  replace HB := Lib.hid (below_fr HB.out hF1 (by omega) (by omega))
  clear hF1
  have HSaxs := Lib.hid hsaxs
  have HMaxs := Lib.hid hlaxs
  have hbaxs : maxs ≤ 1048576 := by have h1 := HLxs.out; omega
  clear hsaxs hlaxs
  go_wp2_with fail
  refine ((specCountNested_any _ _ _ xs _ HSaxs.out.rd HWxs.out hbaxs HSaxs.out.cap).seg).mono ?_
  rintro e w2 ⟨rfl, hF2⟩
  have hz2 := hF2.size
  replace HAxs := Lib.hid (RdB.fr HAxs.out hF2 (by omega) (by omega))
  replace HB := Lib.hid (below_fr HB.out hF2 (by omega) (by omega))
  replace HSaxs := Lib.hid (HSaxs.out.fr hF2 (by omega))
  clear hF2
  go_wp2_with fail
  refine (toInts_seg Axs nxs cxs xs _ (RdB.rd HAxs.out (by omega)) hnxs).mono ?_
  rintro e w3 ⟨Bxxs, mxxs, dxxs, rfl, hlxxs, hsxxs, hF3⟩
  have hz3 := hF3.size
  replace HAxs := Lib.hid (RdB.fr HAxs.out hF3 (by omega) (by omega))
  replace HB := Lib.hid (below_fr HB.out hF3 (by omega) (by omega))
  clear hF3
  have HSxxs := Lib.hid hsxxs
  have HMxxs := Lib.hid hlxxs
  have hbxxs : mxxs ≤ 1048576 := by have h1 := HLxs.out; omega
  clear hsxxs hlxxs
  go_wp2_with fail
  refine ((implCountNested_any _ _ _ xs _ HSxxs.out.rd HWxs.out hbxxs HSxxs.out.cap).seg).mono ?_
  rintro e w4 ⟨rfl, hF4⟩
  have hz4 := hF4.size
  replace HAxs := Lib.hid (RdB.fr HAxs.out hF4 (by omega) (by omega))
  replace HB := Lib.hid (below_fr HB.out hF4 (by omega) (by omega))
  replace HSxxs := Lib.hid (HSxxs.out.fr hF4 (by omega))
  clear hF4
  go_wp2_with fail
  refine (toInts_seg Axs nxs cxs xs _ (RdB.rd HAxs.out (by omega)) hnxs).mono ?_
  rintro e w5 ⟨Byxs, myxs, dyxs, rfl, hlyxs, hsyxs, hF5⟩
  have hz5 := hF5.size
  replace HAxs := Lib.hid (RdB.fr HAxs.out hF5 (by omega) (by omega))
  replace HB := Lib.hid (below_fr HB.out hF5 (by omega) (by omega))
  replace HSxxs := Lib.hid (HSxxs.out.fr hF5 (by omega))
  clear hF5
  have HSyxs := Lib.hid hsyxs
  have HMyxs := Lib.hid hlyxs
  have hbyxs : myxs ≤ 1048576 := by have h1 := HLxs.out; omega
  clear hsyxs hlyxs
  go_wp2_with fail
  refine (eqInts_seg _ _ _ _ _ _ xs xs _ HSxxs.out.rd HSyxs.out.rd hbxxs hbyxs).mono ?_
  rintro e w6 ⟨rfl, hF6⟩
  have hz6 := hF6.size
  replace HAxs := Lib.hid (RdB.fr HAxs.out hF6 (by omega) (by omega))
  replace HB := Lib.hid (below_fr HB.out hF6 (by omega) (by omega))
  replace HSxxs := Lib.hid (HSxxs.out.fr hF6 (by omega))
  replace HSyxs := Lib.hid (HSyxs.out.fr hF6 (by omega))
  clear hF6
  rw [eq_self_b xs]
  go_wp2_with fail
  go_ret
  exact ⟨rfl, HB.out⟩

theorem lawCountNested_lifted (os : Os) (started : os.Started) (H : Type) (enc : TypeId × Value → H) :
    ReturnsInHanded {} Try.checked os 5 .any (Rows.fnExactCountNestedSpec.pre6 enc Try.prog Try.f5 Rows.fnExactCountNestedRow.domain false) (Rows.fnExactCountNestedSpec.post enc Try.prog Try.f5 false true false false) := by
  refine returnsInHanded_of_change (C := Try.checked) prog_own started (by kernel_rfl) Try.func5
    (ChangeSpec.witness6 (enc := enc) (C := Try.checked) false ⟨#[], #[.slice none 0 0], []⟩ 8 (by kernel_rfl) (by kernel_rfl) (by kernel_rfl) (by kernel_rfl)) ?_
  intro W base args ds gs before hval0 hW hcnd _
  have hval : ∀ (j : Nat) t v, Try.f5.params[j]? = some t → args[j]? = some v → Value.okWide Try.prog W .any base t v := hval0
  have hW' := hW
  obtain ⟨p, q, hA0, hV, rfl, hfz, hnd⟩ := hW
  have hA : DataW.TrodAll enc Try.prog W 0 (fun _ => true) true Try.f5.params.toList args.toList ds p := hA0
  rw [Try.params5] at hA hval
  obtain ⟨v0, vs0, d0, ds0, p0, q0, hargs0, rfl, rfl, h0, r0⟩ := trodAll_cons hA
  obtain ⟨rfl, rfl, rfl⟩ := trodAll_nil r0
  obtain rfl : args = #[v0] := by cases args; simp_all
  obtain ⟨rfl, rfl⟩ := trodVars_none hV
  clear hA0 hval0
  simp only [List.append_nil] at hW'
  have hlt0 : ∀ x ∈ p0, x.block < W.heap.size := fun x hx => hW'.lt x (by simp [hx])
  obtain ⟨A0, n0, c0, xs0, rfl, hr0, hw0⟩ := open_rd h0 hlt0 (okWide_slice Try.underlying22 (hval 0 _ _ rfl rfl))
  have hk0 : ∀ (W' : World), Below W.heap.size W W' → DataW.Trod enc Try.prog W' 0 (fun b => decide (b < W.heap.size)) true 22 (.slice A0 n0 c0) d0 p0 :=
    fun W' hn => Below.trod prog_laidOut (by kernel_rfl) (of_decide_eq_true (by kernel_rfl)) h0 hn hlt0
  refine (lawCountNested_any A0 n0 c0 xs0 W hr0 hw0).mono fun e W' ⟨he, hnx⟩ => ?_
  subst he
  exact ⟨_, rfl, _, _, _, _, _, [], hW', trodAll_cons_mk (shut_bool Try.underlying4 _) trodAll_mk0, (trodAll_cons_mk (hk0 _ hnx) trodAll_mk0), rfl, hnx.frame _, fun h => by cases h⟩

theorem lawCountNested_holds : Rows.FnExactCountNestedSaid :=
  OpenClaim.holds_of_wide_leaving 5 Try.f5 rfl rfl rfl rfl rfl rfl rfl ⟨rfl, rfl, rfl, rfl, rfl⟩ rfl rfl rfl rfl rfl (by kernel_rfl) Try.func5 (by kernel_rfl)
    (of_decide_eq_true (by kernel_rfl)) (by unfold Func.isWrapper; first | (rw [if_pos (by decide +kernel)]; kernel_rfl) | (rw [if_neg (by decide +kernel)]; exact ⟨rfl, rfl⟩))
    (fun os started H enc _ => leaving_of_handed (lawCountNested_lifted os started H enc))
end Go.Proofs.Ytinfhkcmjmglkaa
