/- FnExactLoopsOfWeb: for every input the program's LoopsOfWeb answers as the model's, and writes into no argument.
   The condition: the variable errNoWeb reads as its text lays it (tied to the text). -/
import Derived.Test.YthpddknpiiiccaaDoorFLoopsOfWeb
import Derived.Test.YthpddknpiiiccaaDoorDoorRow
import Derived.Test.YthpddknpiiiccaaDoorWebRow
import Derived.Test.YthpddknpiiiccaaDoorRow
import Derived.Deep.RegionHeld3
namespace Go.Proofs.YthpddknpiiiccaaDoor
open Go.ChangeShapes Go.WideShapes Go.ChangeAt Go.RowKit
set_option linter.unusedVariables false
set_option linter.unusedSimpArgs false
set_option maxRecDepth 100000

set_option maxHeartbeats 4000000 in
theorem lawLoopsOfWeb_any (A : Option Addr) (n c : Nat) (x : List Int) (B : Option Addr) (m d : Nat) (r : List (List Int)) (ea : Option Addr) (w : World) (hr : RdWB w w.heap.size A n B m x r) (hwf : WfW x r) (hc : n ≤ 9223372036854775807) (he : m ≤ 9223372036854775807) (hg : w.cell? ⟨0, 0, none⟩ = some (.iface 87 (.pointer ea))) (hw0 : 0 < w.heap.size) :
    Calls Tryd.prog 4 #[.agg #[.slice A n c, .slice B m d]] w fun e w' => e = .returned (.bool true) ∧ Below w.heap.size w w' := by
  obtain ⟨W, hW⟩ : ∃ W, W = w.alloc (.cells #[.slice A n c, .slice B m d] 25) := ⟨_, rfl⟩
  have hF0 : Fr 0 0 w W := by rw [hW]; exact fr_alloc _ _
  have HX : Hid (Box2 W w.heap.size 25 (.slice A n c) (.slice B m d)) := Lib.hid (by rw [hW]; exact box2_new _ _ _ _)
  have HA : Hid (RdWB W w.heap.size A n B m x r) := Lib.hid (RdWB.fr hr hF0 (by omega) (by omega))
  have HWF := Lib.hid hwf
  have HB : Hid (Below w.heap.size w W) := Lib.hid (below_of_fr hF0)
  have HG : Hid (W.cell? ⟨0, 0, none⟩ = some (.iface 87 (.pointer ea))) := Lib.hid (((below_of_fr hF0).cell (p := ⟨0, 0, none⟩) hw0).trans hg)
  have hz0 := hF0.size
  have HWW := Lib.hid hW
  clear hW hF0 hr hwf hg
  go_enter Tryd.func4, Tryd.ntmps4
  by_cases hN : (needW x r : Int) ≤ 1048576
  case neg =>
    have q0HX := HX.out.cell0
    have q1HX := HX.out.cell1
    go_wp2_with fail
    rw [← HWW.out]
    clear q0HX q1HX
    refine (szWeb_seg A n c B m d x r 1048576 _ (RdWB.rd HA.out (by omega)) hc he (by omega) (by omega)).mono ?_
    rintro e w1 ⟨rfl, hF1⟩
    have hz1 := hF1.size
    replace HA := Lib.hid (RdWB.fr HA.out hF1 (by omega) (by omega))
    replace HX := Lib.hid (HX.out.fr hF1 (by omega))
    replace HB := Lib.hid (below_fr HB.out hF1 (by omega) (by omega))
    replace HG := Lib.hid (glob_fr HG.out hF1 (by omega) (by omega))
    clear hF1
    rw [show leftW 1048576 x r = -1 from by unfold leftW; rw [if_neg (by omega)]]
    go_wp2_with fail
    go_ret
    exact ⟨rfl, HB.out⟩
  have q0HX := HX.out.cell0
  have q1HX := HX.out.cell1
  go_wp2_with fail
  rw [← HWW.out]
  clear q0HX q1HX
  refine (szWeb_seg A n c B m d x r 1048576 _ (RdWB.rd HA.out (by omega)) hc he (by omega) (by omega)).mono ?_
  rintro e w1 ⟨rfl, hF1⟩
  have hz1 := hF1.size
  replace HA := Lib.hid (RdWB.fr HA.out hF1 (by omega) (by omega))
  replace HX := Lib.hid (HX.out.fr hF1 (by omega))
  replace HB := Lib.hid (below_fr HB.out hF1 (by omega) (by omega))
  replace HG := Lib.hid (glob_fr HG.out hF1 (by omega) (by omega))
  clear hF1
  rw [show leftW 1048576 x r = 1048576 - needW x r from by unfold leftW; rw [if_pos (by omega)]]
  have hlt : ¬ (1048576 - (needW x r : Int) < 0) := by omega
  have hm : FewW x r := few_of_need (by omega)
  have HMF := Lib.hid hm
  clear hm
  have hne0 : (((loopsOfWeb x r).1) != ((loopsOfWeb x r).1)) = false := by simp
  have hne1 : (((loopsOfWeb x r).2) != ((loopsOfWeb x r).2)) = false := by simp
  have q0HX := HX.out.cell0
  have q1HX := HX.out.cell1
  go_wp2_with fail
  clear q0HX q1HX
  refine (toWeb_seg A n c B m d x r _ (RdWB.rd HA.out (by omega)) HMF.out).mono ?_
  rintro e w2 ⟨Ba, ma, da, Ca, qa, fa, rfl, hsa, hF2⟩
  have hz2 := hF2.size
  replace HA := Lib.hid (RdWB.fr HA.out hF2 (by omega) (by omega))
  replace HX := Lib.hid (HX.out.fr hF2 (by omega))
  replace HB := Lib.hid (below_fr HB.out hF2 (by omega) (by omega))
  replace HG := Lib.hid (glob_fr HG.out hF2 (by omega) (by omega))
  clear hF2
  have HSa := Lib.hid hsa
  clear hsa
  have q0HX := HX.out.cell0
  have q1HX := HX.out.cell1
  go_wp2_with fail
  clear q0HX q1HX
  refine ((specLoopsOfWeb_any _ _ _ _ _ _ x r _ HSa.out.rdW HWF.out HMF.out).seg).mono ?_
  rintro e w3 ⟨rfl, hF3⟩
  have hz3 := hF3.size
  replace HA := Lib.hid (RdWB.fr HA.out hF3 (by omega) (by omega))
  replace HX := Lib.hid (HX.out.fr hF3 (by omega))
  replace HB := Lib.hid (below_fr HB.out hF3 (by omega) (by omega))
  replace HG := Lib.hid (glob_fr HG.out hF3 (by omega) (by omega))
  replace HSa := Lib.hid (HSa.out.fr hF3 (by omega))
  clear hF3
  have q0HX := HX.out.cell0
  have q1HX := HX.out.cell1
  go_wp2_with fail
  clear q0HX q1HX
  refine (toWeb_seg A n c B m d x r _ (RdWB.rd HA.out (by omega)) HMF.out).mono ?_
  rintro e w4 ⟨Bx, mx, dx, Cx, qx, fx, rfl, hsx, hF4⟩
  have hz4 := hF4.size
  replace HA := Lib.hid (RdWB.fr HA.out hF4 (by omega) (by omega))
  replace HX := Lib.hid (HX.out.fr hF4 (by omega))
  replace HB := Lib.hid (below_fr HB.out hF4 (by omega) (by omega))
  replace HG := Lib.hid (glob_fr HG.out hF4 (by omega) (by omega))
  clear hF4
  have HSx := Lib.hid hsx
  clear hsx
  obtain ⟨X4, hX4⟩ : ∃ X, X = w4.alloc (.cells #[.slice Bx mx dx, .slice Cx qx fx] 29) := ⟨_, rfl⟩
  have hG4 : Fr 0 0 w4 X4 := by rw [hX4]; exact fr_alloc _ _
  have HXx : Hid (Box2 X4 w4.heap.size 29 (.slice Bx mx dx) (.slice Cx qx fx)) := Lib.hid (by rw [hX4]; exact box2_new _ _ _ _)
  have HH4 := Lib.hid hX4
  have q0HX := HX.out.cell0
  have q1HX := HX.out.cell1
  go_wp2_with fail
  clear q0HX q1HX
  rw [← HH4.out]
  have hzx4 := hG4.size
  replace HA := Lib.hid (RdWB.fr HA.out hG4 (by omega) (by omega))
  replace HX := Lib.hid (HX.out.fr hG4 (by omega))
  replace HB := Lib.hid (below_fr HB.out hG4 (by omega) (by omega))
  replace HG := Lib.hid (glob_fr HG.out hG4 (by omega) (by omega))
  replace HSx := Lib.hid (HSx.out.fr hG4 (by omega))
  clear hX4 hG4
  refine ((implLoopsOfWeb_any _ _ _ _ _ _ x r ea _ HSx.out.rdW HWF.out HMF.out HG.out (by omega)).seg).mono ?_
  rintro e w5 ⟨rfl, hF5⟩
  have hz5 := hF5.size
  replace HA := Lib.hid (RdWB.fr HA.out hF5 (by omega) (by omega))
  replace HX := Lib.hid (HX.out.fr hF5 (by omega))
  replace HB := Lib.hid (below_fr HB.out hF5 (by omega) (by omega))
  replace HG := Lib.hid (glob_fr HG.out hF5 (by omega) (by omega))
  replace HSx := Lib.hid (HSx.out.fr hF5 (by omega))
  replace HXx := Lib.hid (HXx.out.fr hF5 (by omega))
  clear hF5
  have q0HX := HX.out.cell0
  have q1HX := HX.out.cell1
  have q0HXx := HXx.out.cell0
  have q1HXx := HXx.out.cell1
  go_wp2_with fail
  clear q0HX q1HX q0HXx q1HXx
  have HK : Hid (∀ X, Fr 0 0 w5 X → X.cell? ⟨w.heap.size, 0, none⟩ = some (.slice A n c) ∧ X.cell? ⟨w.heap.size, 1, none⟩ = some (.slice B m d) ∧ X.cell? ⟨w4.heap.size, 0, none⟩ = some (.slice Bx mx dx) ∧ X.cell? ⟨w4.heap.size, 1, none⟩ = some (.slice Cx qx fx) ∧ Hid (Fr 0 0 w5 X)) := Lib.hid (fun X hX => ⟨(HX.out.fr hX (by omega)).cell0, (HX.out.fr hX (by omega)).cell1, (HXx.out.fr hX (by omega)).cell0, (HXx.out.fr hX (by omega)).cell1, Lib.hid hX⟩)
  go_region_held3 (fun X => X.cell? ⟨w.heap.size, 0, none⟩ = some (.slice A n c) ∧ X.cell? ⟨w.heap.size, 1, none⟩ = some (.slice B m d) ∧ X.cell? ⟨w4.heap.size, 0, none⟩ = some (.slice Bx mx dx) ∧ X.cell? ⟨w4.heap.size, 1, none⟩ = some (.slice Cx qx fx) ∧ Hid (Fr 0 0 w5 X)) ((refine HK.out _ ?_; first | exact Hid.out (by assumption) | exact fr_drew _)) (first | (go_at_call 8; obtain ⟨_, _, _, _, hbb⟩ := ‹_ ∧ _ ∧ _ ∧ _ ∧ Hid (Fr 0 0 w5 _)›; refine (toWeb_seg A n c B m d x r _ (RdWB.rd (RdWB.fr HA.out hbb.out (by omega) (by omega)) (by have := hbb.out.size; omega)) HMF.out).mono ?_; rintro e v2 ⟨By, my, dy, Cy, qy, fy, rfl, hsy, hfy⟩; have HSY := Lib.hid hsy; have HFY := Lib.hid (fr_trans hbb.out hfy); clear hsy hfy hbb) | (go_at_call 10; obtain ⟨_, _, _, _, hbb⟩ := ‹_ ∧ _ ∧ _ ∧ _ ∧ Hid (Fr 0 0 w5 _)›; refine (eqWeb_seg _ _ _ _ _ _ _ _ _ _ _ _ _ _ _ _ x r _ (HSx.out.fr hbb.out (by omega)) HSY.out HMF.out).mono ?_; rintro e v3 ⟨rfl, hfy⟩; have HFZ := Lib.hid (fr_trans hbb.out hfy); clear hfy hbb))
  have hF9 := HFZ.out
  replace HB := Lib.hid (below_fr HB.out hF9 (by omega) (by omega))
  clear hF9 HFZ HFY HSY
  go_wp2_with fail
  go_ret
  exact ⟨rfl, HB.out⟩

theorem lawLoopsOfWeb_lifted (os : Os) (started : os.Started) (H : Type) (enc : TypeId × Value → H) :
    ReturnsInHanded {} Tryd.checked os 4 .any (fun w args => (Rows.fnExactLoopsOfWebSpec.pre enc Tryd.prog Tryd.f4 [] false w args ∧ laidMetH Tryd.prog Rows.fnExactLoopsOfWebRow.laid w) ∧ sizedMet enc Tryd.prog Tryd.f4 (OpenSpec.ofChange Rows.fnExactLoopsOfWebSpec) false w args)
      (Rows.fnExactLoopsOfWebSpec.post enc Tryd.prog Tryd.f4 false true false false) := by
  refine returnsInHanded_of_change_and (C := Tryd.checked) (X := fun w _ => laidMetH Tryd.prog Rows.fnExactLoopsOfWebRow.laid w) (fun _ _ _ hh h => h.of_heap hh) prog_own started (by kernel_rfl) Tryd.func4
    (ChangeSpec.witness_shaped (enc := enc) (C := Tryd.checked) (os := os) (X := fun w _ => laidMetH Tryd.prog Rows.fnExactLoopsOfWebRow.laid w) false (World.doorLaid Tryd.prog 200 os) #[.agg #[.slice none 0 0, .slice none 0 0]] 8 rfl (World.shaped_of_RefB (by kernel_rfl) (by kernel_rfl)) (by kernel_rfl) (by kernel_rfl) (by kernel_rfl) (door_met os _)) ?_
  intro W base args ds gs before hval0 hW _ _ hL _
  have hval : ∀ (j : Nat) t v, Tryd.f4.params[j]? = some t → args[j]? = some v → Value.okWide Tryd.prog W .any base t v := hval0
  have hW' := hW
  obtain ⟨p, q, hA0, hV0, rfl, hfz, hnd⟩ := hW
  have hA : DataW.TrodAll enc Tryd.prog W 0 (fun _ => true) true Tryd.f4.params.toList args.toList ds p := hA0
  have hV : DataW.TrodVars enc Tryd.prog W (fun _ => true) [errName] gs q := hV0
  rw [Tryd.params4] at hA hval
  obtain ⟨v0, vs0, d0, ds0, p0, q0, hargs0, rfl, rfl, h0, r0⟩ := trodAll_cons hA
  obtain ⟨rfl, rfl, rfl⟩ := trodAll_nil r0
  obtain rfl : args = #[v0] := by cases args; simp_all
  obtain ⟨ea, hv0, hg0⟩ := sentinel_of_laid (show laidMetH Tryd.prog errLaid W from hL)
  obtain ⟨rfl, rfl⟩ := hV.unique (err_read enc hv0 _)
  have hw0 : 0 < W.heap.size := heap_of_cell hg0
  clear hA0 hV0 hval0
  have hlt0 : ∀ x ∈ p0, x.block < W.heap.size := fun x hx => hW'.lt x (by simp [hx])
  obtain ⟨A0, n0, c0, B0, m0, e0, xs0, rs0, rfl, hr0, hwf0, hc0, hd0⟩ := open_web h0 hlt0 (hval 0 _ _ rfl rfl)
  have hk0 : ∀ (W' : World), Below W.heap.size W W' → DataW.Trod enc Tryd.prog W' 0 (fun b => decide (b < W.heap.size)) true 25 (.agg #[.slice A0 n0 c0, .slice B0 m0 e0]) d0 p0 :=
    fun W' hn => Below.trod prog_laidOut (by kernel_rfl) (of_decide_eq_true (by kernel_rfl)) h0 hn hlt0
  refine (lawLoopsOfWeb_any A0 n0 c0 xs0 B0 m0 e0 rs0 ea W hr0 hwf0 hc0 hd0 hg0 hw0).mono fun e W' ⟨he, hnx⟩ => ?_
  subst he
  exact ⟨_, rfl, _, _, _, _, _, _, hW', trodAll_cons_mk (shut_bool Tryd.underlying4 _) trodAll_mk0, (trodAll_cons_mk (hk0 _ hnx) trodAll_mk0), err_read enc (err_kept hnx hv0) _, hnx.frame _, fun h => by cases h⟩

theorem lawLoopsOfWeb_holds : Rows.FnExactLoopsOfWebSaid :=
  OpenClaim.holds_of_wide 4 Tryd.f4 rfl rfl rfl rfl rfl rfl rfl ⟨rfl, rfl, rfl, rfl, rfl⟩ rfl rfl rfl rfl rfl (by kernel_rfl) Tryd.func4 (by kernel_rfl)
    (of_decide_eq_true (by kernel_rfl)) (by unfold Func.isWrapper; first | (rw [if_pos (by decide +kernel)]; kernel_rfl) | (rw [if_neg (by decide +kernel)]; exact ⟨rfl, rfl⟩))
    (fun os started H enc _ => lawLoopsOfWeb_lifted os started H enc)
theorem lawLoopsOfWeb_card : Rows.FnExactLoopsOfWebCardSaid :=
  Claim7.holds_tied_plain_at .later [] [.sentinel] true Rows.fnExactLoopsOfWebCard.stood.harness true
    lawLoopsOfWeb_holds (fun _ h => by cases h) (by kernel_rfl) (fun _ h => by cases h) fnExactLoopsOfWeb_row_tie rfl ⟨rfl, rfl⟩ (by kernel_rfl) rfl
    (fun f fn hf hfn => by
      obtain rfl : f = 4 := Option.some.inj ((show Tryd.prog.funcNamed Rows.fnExactLoopsOfWebRow.func = some 4 by kernel_rfl).symm.trans hf) |>.symm
      obtain rfl : fn = Tryd.f4 := (Option.some.inj (Tryd.func4.symm.trans hfn)).symm
      exact ⟨by kernel_rfl, fun j t ht => by
        rw [Tryd.params4] at ht
        have hm : t ∈ [25] := by simpa using Array.mem_of_getElem? ht
        have hall : ([25].all fun u => !Tryd.prog.wantsStandIn u) = true := by kernel_rfl
        exact (show Tryd.prog.wantsStandIn t = false by simpa using List.all_eq_true.1 hall t hm)⟩)
    (by kernel_rfl)
end Go.Proofs.YthpddknpiiiccaaDoor
