/- FnExactIsWord: for every list of numbers the program's IsWord answers as the model's, and leaves its argument as it was.
   No condition. -/
import Derived.Test.YtbbmdhbdjblamaaIsWord
import Derived.Test.YtbbmdhbdjblamaaRow
namespace Go.Proofs.Ytbbmdhbdjblamaa
open Go.ChangeShapes Go.WideShapes Go.ChangeAt Go.RowKit
set_option linter.unusedVariables false
set_option linter.unusedSimpArgs false
set_option maxRecDepth 100000

theorem specIsWord_any (A : Option Addr) (n c : Nat) (xs : List Int) (w : World) (hr : Rd w A n xs) (hn : n ≤ 1048576) :
    Calls Try.prog 15 #[.slice A n c] w fun e w' => e = .returned (.bool (isWord xs)) ∧ Below w.heap.size w w' := by
  have HR := Lib.hid hr
  clear hr
  go_enter Try.func15, Try.ntmps15
  go_wp2_with (go_at_call 43; refine (specIs_any _ _ _ xs _ HR.out hn).mono ?_; rintro e w1 ⟨rfl, hb1⟩)
  go_ret
  exact ⟨rfl, hb1⟩

set_option maxHeartbeats 800000 in
theorem lawIsWord_any (A : Option Addr) (n c : Nat) (xs : List Int) (w : World) (hr : Rd w A n xs) (hwf : Wf xs) :
    Calls Try.prog 3 #[.slice A n c] w fun e w' => e = .returned (.bool true) ∧ Below w.heap.size w w' := by
  have HR := Lib.hid hr
  have HL := Lib.hid hr.len
  have HW := Lib.hid hwf
  clear hr hwf
  by_cases hn : n ≤ 1048576
  · go_enter Try.func3, Try.ntmps3
    go_wp2_with fail
    refine (toInts_any _ _ _ xs _ HR.out hn).mono ?_
    rintro e w1 ⟨v1, rfl, ho1, hb1⟩
    obtain ⟨A1, n1, c1, rfl, hl1, hr1⟩ := ho1.form'
    have hn1 : n1 ≤ 1048576 := by have := HL.out; omega
    have HR1 := Lib.hid hr1
    clear hl1 hr1 ho1
    go_wp2_with fail
    refine (specIsWord_any _ _ _ xs _ HR1.out hn1).mono ?_
    rintro e w2 ⟨rfl, hb2⟩
    go_wp2_with fail
    refine (toInts_any _ _ _ xs _ ((HR.out.below hb1).below hb2) hn).mono ?_
    rintro e w3 ⟨v3, rfl, ho3, hb3⟩
    obtain ⟨A3, n3, c3, rfl, hl3, hr3⟩ := ho3.form'
    have hn3 : n3 ≤ 1048576 := by have := HL.out; omega
    have HR3 := Lib.hid hr3
    clear hl3 hr3 ho3
    go_wp2_with fail
    refine (implIs_any _ _ _ xs _ HR3.out HW.out hn3).mono ?_
    rintro e w4 ⟨rfl, hb4⟩
    have e1 : (isWord xs != isWord xs) = false := by simp
    go_wp2_with fail
    refine (toInts_any _ _ _ xs _ ((((HR.out.below hb1).below hb2).below hb3).below hb4) hn).mono ?_
    rintro e w5 ⟨v5, rfl, ho5, hb5⟩
    obtain ⟨A5, n5, c5, rfl, hl5, hr5⟩ := ho5.form'
    have hn5 : n5 ≤ 1048576 := by have := HL.out; omega
    have HR5 := Lib.hid hr5
    clear hl5 hr5 ho5
    go_wp2_with fail
    refine (eqInts_any _ _ _ _ _ _ xs xs _ ((HR3.out.below hb4).below hb5) HR5.out hn3 hn5).mono ?_
    rintro e w6 ⟨rfl, hb6⟩
    rw [show (xs == xs) = true from by simp]
    go_wp2_with fail
    go_ret
    exact ⟨rfl, by
      have e1 := hb1.size; have e2 := hb2.size; have e3 := hb3.size; have e4 := hb4.size; have e5 := hb5.size
      exact ((((hb1.trans (hb2.mono (by omega))).trans (hb3.mono (by omega))).trans (hb4.mono (by omega))).trans (hb5.mono (by omega))).trans (hb6.mono (by omega))⟩
  · go_enter Try.func3, Try.ntmps3
    go_wp2_with fail
    go_ret
    exact ⟨rfl, Below.refl _ _⟩

theorem lawIsWord_lifted (os : Os) (started : os.Started) (H : Type) (enc : TypeId × Value → H) :
    ReturnsInHanded {} Try.checked os 3 .any (Rows.fnExactIsWordSpec.pre6 enc Try.prog Try.f3 Rows.fnExactIsWordRow.domain false) (Rows.fnExactIsWordSpec.post enc Try.prog Try.f3 false true false false) := by
  refine returnsInHanded_of_change (C := Try.checked) prog_own started (by kernel_rfl) Try.func3
    (ChangeSpec.witness6 (enc := enc) (C := Try.checked) false ⟨#[], #[.slice none 0 0], []⟩ 8 (by kernel_rfl) (by kernel_rfl) (by kernel_rfl) (by kernel_rfl)) ?_
  intro W base args ds gs before hval0 hW hcnd _
  have hval : ∀ (j : Nat) t v, Try.f3.params[j]? = some t → args[j]? = some v → Value.okWide Try.prog W .any base t v := hval0
  have hW' := hW
  obtain ⟨p, q, hA0, hV, rfl, hfz, hnd⟩ := hW
  have hA : DataW.TrodAll enc Try.prog W 0 (fun _ => true) true Try.f3.params.toList args.toList ds p := hA0
  rw [Try.params3] at hA hval
  obtain ⟨v0, vs0, d0, ds0, p0, q0, hargs, rfl, rfl, h0, r0⟩ := trodAll_cons hA
  obtain ⟨rfl, rfl, rfl⟩ := trodAll_nil r0
  obtain rfl : args = #[v0] := by cases args; simp_all
  obtain ⟨rfl, rfl⟩ := trodVars_none hV
  clear hA0 hval0
  simp only [List.append_nil] at hW'
  have hlt : ∀ x ∈ p0, x.block < W.heap.size := fun x hx => by simpa using hW'.lt x (by simpa using hx)
  obtain ⟨A0, n0, c0, xs0, rfl, hr0, hw0⟩ := open_rd h0 hlt (okWide_slice Try.underlying22 (hval 0 _ _ rfl rfl))
  have hargs : ∀ (W' : World), Below W.heap.size W W' → DataW.Trod enc Try.prog W' 0 (fun b => decide (b < W.heap.size)) true 22 (.slice A0 n0 c0) d0 p0 :=
    fun W' hn => Below.trod prog_laidOut (by kernel_rfl) (of_decide_eq_true (by kernel_rfl)) h0 hn hlt
  refine (lawIsWord_any A0 n0 c0 xs0 W hr0 hw0).mono fun e W' ⟨he, hnx⟩ => ?_
  subst he
  exact ⟨_, rfl, _, _, _, _, _, [], hW', trodAll_cons_mk (shut_bool Try.underlying4 _) trodAll_mk0, trodAll_cons_mk (hargs _ hnx) trodAll_mk0, rfl, hnx.frame _, fun h => by cases h⟩

theorem lawIsWord_holds : Rows.FnExactIsWordSaid :=
  OpenClaim.holds_of_wide 3 Try.f3 rfl rfl rfl rfl rfl rfl rfl ⟨rfl, rfl, rfl, rfl, rfl⟩ rfl rfl rfl rfl rfl (by kernel_rfl) Try.func3 (by kernel_rfl)
    (of_decide_eq_true (by kernel_rfl)) (by unfold Func.isWrapper; first | (rw [if_pos (by decide +kernel)]; kernel_rfl) | (rw [if_neg (by decide +kernel)]; exact ⟨rfl, rfl⟩))
    (fun os started H enc _ => lawIsWord_lifted os started H enc)
end Go.Proofs.Ytbbmdhbdjblamaa
