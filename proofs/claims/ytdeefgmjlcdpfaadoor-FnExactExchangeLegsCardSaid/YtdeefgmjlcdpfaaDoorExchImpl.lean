/- ExchangeLegs: the program's side. -/
import Derived.Test.YtdeefgmjlcdpfaaDoorExchSpec
import Derived.Test.YtdeefgmjlcdpfaaDoorWebResult
import Derived.BigRegion
namespace Go.Proofs.YtdeefgmjlcdpfaaDoor
open Go.RowKit
set_option linter.unusedVariables false
set_option linter.unusedSimpArgs false
set_option maxRecDepth 100000

theorem hasPair_any (A : Option Addr) (n c : Nat) (B : Option Addr) (m d : Nat) (k : Int) (w : World) (hn : n ≤ 1000) (r : Bool) (hr : r = inB k 0 ((n : Int) - 2)) :
    Calls Tryd.prog 43 #[.agg #[.slice A n c, .slice B m d], .int .i64 k] w fun e w' => e = .returned (.bool r) ∧ Below w.heap.size w w' := by
  have hal := below_alloc w (.cells #[.slice A n c, .slice B m d] 44)
  obtain ⟨W, hW⟩ : ∃ W, W = w.alloc (.cells #[.slice A n c, .slice B m d] 44) := ⟨_, rfl⟩
  have hX : Box2 W w.heap.size 44 (.slice A n c) (.slice B m d) := by rw [hW]; exact box2_new _ _ _ _
  have HB : Hid (Below w.heap.size w W) := Lib.hid (by rw [hW]; exact hal)
  have HW := Lib.hid hW
  have q0 := hX.cell0
  have q1 := hX.cell1
  have hwr : IntKind.i64.wrap ((n : Int) - 1) = (n : Int) - 1 := by rw [IntKind.wrap_i64]; omega
  clear hal hW hX
  by_cases h0 : k < 0
  · obtain rfl : r = false := by rw [hr]; exact inB_false.2 (by omega)
    clear hr
    go_enter Tryd.func43, Tryd.ntmps43
    go_upto_region 1 with fail
    rw [← HW.out]
    go_wp2_with fail
    go_ret
    exact ⟨by first | rfl | exact ret_bool (by simp; omega), HB.out⟩
  · by_cases h1 : k + 2 ≤ n
    · obtain rfl : r = true := by rw [hr]; exact inB_true.2 (by omega)
      clear hr
      go_enter Tryd.func43, Tryd.ntmps43
      go_upto_region 1 with fail
      rw [← HW.out]
      go_wp2_with fail
      go_ret
      exact ⟨by first | rfl | exact ret_bool (by simp; omega), HB.out⟩
    · obtain rfl : r = false := by rw [hr]; exact inB_false.2 (by omega)
      clear hr
      go_enter Tryd.func43, Tryd.ntmps43
      go_upto_region 1 with fail
      rw [← HW.out]
      go_wp2_with fail
      go_ret
      exact ⟨by first | rfl | exact ret_bool (by simp; omega), HB.out⟩
set_option maxHeartbeats 16000000 in
theorem implExchangeLegs_any (A : Option Addr) (n c : Nat) (B : Option Addr) (m d : Nat) (xs : List Int) (rs : List (List Int)) (k : Int) (ea : Option Addr) (w : World) (hr : RdWB w w.heap.size A n B m xs rs) (hwf : WfW xs rs) (hs : FewW xs rs) (hki : -9223372036854775808 ≤ k ∧ k ≤ 9223372036854775807) (hg : w.cell? ⟨0, 0, none⟩ = some (.iface 88 (.pointer ea))) (hw0 : 0 < w.heap.size) :
    GaveW 20 #[.agg #[.slice A n c, .slice B m d], .int .i64 k] w (exchL xs rs k) := by
  obtain ⟨W, hW⟩ : ∃ W, W = (w.alloc (.cells #[.slice A n c, .slice B m d] 28)).alloc (.cells #[.slice none 0 0, .slice none 0 0] 28) := ⟨_, rfl⟩
  have hbW : Below w.heap.size w W := by rw [hW]; exact (below_alloc _ _).trans ((below_alloc _ _).mono (by simp))
  have hsW : w.heap.size + 2 ≤ W.heap.size := by rw [hW]; simp
  have HX0 : Hid (Box2 W w.heap.size 28 (.slice A n c) (.slice B m d)) := Lib.hid (by rw [hW]; exact (box2_new _ _ _ _).alloc _)
  have HX1 : Hid (Box2 W (w.heap.size + 1) 28 (.slice none 0 0) (.slice none 0 0)) := Lib.hid (by
    have := box2_new (w.alloc (.cells #[.slice A n c, .slice B m d] 28)) 28 (.slice none 0 0) (.slice none 0 0)
    rw [World.size_alloc] at this
    rw [hW]; exact this)
  have HB0 := Lib.hid hbW
  have HW := Lib.hid hW
  have HR : Hid (RdWB W W.heap.size A n B m xs rs) := Lib.hid ((hr.below hbW).rd hbW.size)
  have HG : Hid (W.cell? ⟨0, 0, none⟩ = some (.iface 88 (.pointer ea))) := Lib.hid ((hbW.cell (p := ⟨0, 0, none⟩) hw0).trans hg)
  clear hg
  have HLX := Lib.hid hr.1.1
  have HFW := Lib.hid hs
  have HWF := Lib.hid hwf
  have hn1 : n ≤ 1048576 := by have := hs.1; have := hr.1.1; omega
  have q0 := HX0.out.cell0
  have q1 := HX0.out.cell1
  clear hr hbW hW hs hwf
  rcases hB : webB xs rs with _ | _
  · refine gaveW_mk (exch_bad (by rw [code_no hB]; omega)) ?_
    rw [code_no hB]
    have HNO := Lib.hid hB
    clear hB
    go_enter Tryd.func20, Tryd.ntmps20
    go_upto_region 1 with fail
    rw [← HW.out]
    go_wp2_with fail
    refine (openWeb_any _ _ _ _ _ _ xs rs ea _ HR.out HFW.out HWF.out HG.out (by omega)).mono ?_
    rintro e w1 ⟨⟨_, hno⟩, hb1⟩
    obtain rfl := hno HNO.out
    obtain ⟨V, hV⟩ : ∃ V, V = w1.alloc (.cells #[.slice none 0 0, .slice none 0 0] 44) := ⟨_, rfl⟩
    have hbV : Below w1.heap.size w1 V := by rw [hV]; exact below_alloc _ _
    have hsz1 := hb1.size
    have HXZ := Lib.hid ((HX1.out.below hb1 (by omega)).below hbV (by omega))
    have HBZ := Lib.hid (HB0.out.trans ((hb1.mono (by omega)).trans (hbV.mono (by omega))))
    have HV := Lib.hid hV
    clear q0 q1 hb1 hbV hV hno
    go_upto_region 2 with fail
    rw [← HV.out]
    have d0 := HXZ.out.cell0
    have d1 := HXZ.out.cell1
    have f0 := HXZ.out.free 0
    have f1 := HXZ.out.free 1
    go_wp2_with fail
    have e2 := (HXZ.out.set0 (.slice none 0 0)).set1 (.slice none 0 0)
    refine bodyPost_ret (v := .tuple #[.agg #[.slice none 0 0, .slice none 0 0], .int .i64 1]) ?_ ?_ ?_
    · exact results_row_tmp Tryd.results20 _ _ (w.heap.size + 1) _ _ rfl rfl (run_loadVar_row _ _ _ _ _ _ _ e2 Tryd.underlying28 rfl size_web)
    · rfl
    · first | exact ⟨_, _, _, rfl, OwnW.nil_ _ _, ((HBZ.out.setCell (by show w.heap.size ≤ w.heap.size + 1; omega) _).setCell (by show w.heap.size ≤ w.heap.size + 1; omega) _)⟩ | exact ⟨_, _, rfl, ⟨_, OwnW.nil_ _ _⟩, ((HBZ.out.setCell (by show w.heap.size ≤ w.heap.size + 1; omega) _).setCell (by show w.heap.size ≤ w.heap.size + 1; omega) _)⟩
  have HYES := Lib.hid hB
  have HFA := Lib.hid (webB_facts hB)
  have hit : xs.length + rs.length ≤ 8 := HFA.out.1
  by_cases hk : 0 ≤ k ∧ k + 2 ≤ xs.length
  case neg =>
    refine gaveW_mk (exch_bad (by rw [code_out hB hk]; omega)) ?_
    rw [code_out hB hk]
    have HIN : Hid (false = inB k 0 ((xs.length : Int) - 2)) := Lib.hid (inB_false.2 (by omega)).symm
    clear hB hk
    go_enter Tryd.func20, Tryd.ntmps20
    go_upto_region 1 with fail
    rw [← HW.out]
    go_wp2_with fail
    refine (openWeb_any _ _ _ _ _ _ xs rs ea _ HR.out HFW.out HWF.out HG.out (by omega)).mono ?_
    rintro e w1 ⟨⟨hyes, _⟩, hb1⟩
    obtain ⟨u, v, rfl, hoi⟩ := hyes HYES.out
    obtain ⟨Au, cu, rfl, _⟩ := hoi.legs.form
    obtain ⟨Av, cv, rfl, _⟩ := hoi.forks.form
    obtain ⟨V, hV⟩ : ∃ V, V = w1.alloc (.cells #[.slice Au xs.length cu, .slice Av rs.length cv] 44) := ⟨_, rfl⟩
    have hbV : Below w1.heap.size w1 V := by rw [hV]; exact below_alloc _ _
    have hT : Box2 V w1.heap.size 44 (.slice Au xs.length cu) (.slice Av rs.length cv) := by rw [hV]; exact box2_new _ _ _ _
    have hsz1 := hb1.size
    have hszV := hbV.size
    have HXV := Lib.hid ((HX1.out.below hb1 (by omega)).below hbV (by omega))
    have HBV := Lib.hid (HB0.out.trans ((hb1.mono (by omega)).trans (hbV.mono (by omega))))
    have HV := Lib.hid hV
    have t0 := hT.cell0
    have t1 := hT.cell1
    clear q0 q1 hb1 hbV hV hyes hoi hT
    go_upto_region 2 with fail
    rw [← HV.out]
    go_wp2_with fail
    refine (hasPair_any _ _ _ _ _ _ k _ (by omega) false HIN.out).mono ?_
    rintro e w2 ⟨rfl, hb2⟩
    have HXZ := Lib.hid (HXV.out.below hb2 (by omega))
    have HBZ := Lib.hid (HBV.out.trans (hb2.mono (by omega)))
    clear t0 t1 hb2
    have d0 := HXZ.out.cell0
    have d1 := HXZ.out.cell1
    have f0 := HXZ.out.free 0
    have f1 := HXZ.out.free 1
    go_wp2_with fail
    have e2 := (HXZ.out.set0 (.slice none 0 0)).set1 (.slice none 0 0)
    refine bodyPost_ret (v := .tuple #[.agg #[.slice none 0 0, .slice none 0 0], .int .i64 2]) ?_ ?_ ?_
    · exact results_row_tmp Tryd.results20 _ _ (w.heap.size + 1) _ _ rfl rfl (run_loadVar_row _ _ _ _ _ _ _ e2 Tryd.underlying28 rfl size_web)
    · rfl
    · first | exact ⟨_, _, _, rfl, OwnW.nil_ _ _, ((HBZ.out.setCell (by show w.heap.size ≤ w.heap.size + 1; omega) _).setCell (by show w.heap.size ≤ w.heap.size + 1; omega) _)⟩ | exact ⟨_, _, rfl, ⟨_, OwnW.nil_ _ _⟩, ((HBZ.out.setCell (by show w.heap.size ≤ w.heap.size + 1; omega) _).setCell (by show w.heap.size ≤ w.heap.size + 1; omega) _)⟩
  case pos =>
    have HIN : Hid (true = inB k 0 ((xs.length : Int) - 2)) := Lib.hid (inB_true.2 (by omega)).symm
    have hc0 := code_yes hB hk
    obtain ⟨i, rfl⟩ : ∃ i : Nat, k = i := ⟨k.toNat, by omega⟩
    refine gaveW_mk (exch_yes hc0) ?_
    have hil : i + 1 < xs.length := by omega
    clear hB hk hc0
    go_enter Tryd.func20, Tryd.ntmps20
    go_upto_region 1 with fail
    rw [← HW.out]
    go_wp2_with fail
    refine (openWeb_any _ _ _ _ _ _ xs rs ea _ HR.out HFW.out HWF.out HG.out (by omega)).mono ?_
    rintro e w4 ⟨⟨hyes, _⟩, hb4⟩
    obtain ⟨u, v, rfl, hoi⟩ := hyes HYES.out
    obtain ⟨Au, cu, hu, hAu⟩ := own_form hoi.legs
    obtain ⟨b, rfl, hbl1, hbl2⟩ := hAu (by omega)
    obtain ⟨nu, hnu⟩ : ∃ nu, nu = xs.length := ⟨_, rfl⟩
    rw [← hnu] at hu hil
    subst hu
    obtain ⟨V, cV, hv, _⟩ := hoi.forks.form
    obtain ⟨q, hq⟩ : ∃ q, q = rs.length := ⟨_, rfl⟩
    rw [← hq] at hv
    subst hv
    have hsz4 := hb4.size
    obtain ⟨x, hx⟩ : ∃ x, x = xs[i]?.getD 0 := ⟨_, rfl⟩
    obtain ⟨y, hy⟩ : ∃ y, y = xs[i + 1]?.getD 0 := ⟨_, rfl⟩
    obtain ⟨X0, hX0⟩ : ∃ X, X = w4.alloc (.cells #[.slice (some ⟨b, 0, none⟩) nu cu, .slice V q cV] 44) := ⟨_, rfl⟩
    have hbX0 : Below w4.heap.size w4 X0 := by rw [hX0]; exact below_alloc _ _
    have hsX0 : w4.heap.size < X0.heap.size := by rw [hX0]; simp
    have hT0 : Box2 X0 w4.heap.size 44 (.slice (some ⟨b, 0, none⟩) nu cu) (.slice V q cV) := by rw [hX0]; exact box2_new _ _ _ _
    have HX0w := Lib.hid hX0
    have HNU := Lib.hid hnu
    have HQ := Lib.hid hq
    have HXE := Lib.hid hx
    have HYE := Lib.hid hy
    have s0 := hT0.cell0
    have s1 := hT0.cell1
    have hnu8 : nu ≤ 8 := by omega
    have hq8 : q ≤ 8 := by omega
    have HOI := Lib.hid hoi
    have HB4 := Lib.hid hb4
    have HBX0 := Lib.hid hbX0
    have HT0 := Lib.hid hT0
    clear q0 q1 hyes hoi hb4 hX0 hbX0 hT0 hAu hnu hq hx hy
    go_upto_region 2 with fail
    rw [← HX0w.out]
    go_wp2_with fail
    refine (hasPair_any _ _ _ _ _ _ (i : Int) _ (by omega) true (by rw [HNU.out]; exact HIN.out)).mono ?_
    rintro e X ⟨rfl, hbY⟩
    have hnu := HNU.out
    have hx := HXE.out
    have hy := HYE.out
    have hbX : Below w4.heap.size w4 X := HBX0.out.trans (hbY.mono (by omega))
    have hsX : w4.heap.size < X.heap.size := by have := hbY.size; omega
    have hT : Box2 X w4.heap.size 44 (.slice (some ⟨b, 0, none⟩) nu cu) (.slice V q cV) := HT0.out.below hbY hsX0
    have hoX := HOI.out.below hbX
    have hlX : X.ownsRow W.heap.size 2 1 (.slice (some ⟨b, 0, none⟩) nu cu) nu (ints xs) := by have := hoX.legs; unfold Own at this; rw [← hnu] at this; exact this
    have gx : X.cell? ⟨b, i, none⟩ = some (.int .i64 x) := by rw [hlX.cellAt i (by omega), ints_get?, List.getElem?_eq_getElem (by omega), hx, List.getElem?_eq_getElem (by omega)]; rfl
    have gy : X.cell? ⟨b, i + 1, none⟩ = some (.int .i64 y) := by rw [hlX.cellAt (i + 1) (by omega), ints_get?, List.getElem?_eq_getElem (by omega), hy, List.getElem?_eq_getElem (by omega)]; rfl
    have z1 : X.frozen? ⟨b, i, none⟩ = false := hlX.frozenAt _
    have z2 : X.frozen? ⟨b, i + 1, none⟩ = false := hlX.frozenAt _
    have hl2 := own_put (k := i + 1) x (own_put (k := i) y hoX.legs)
    have hgb : ∀ (V : World) (o : Nat) (a : Value), V.grownBy (V.setCell ⟨b, o, none⟩ a) (some b) := fun V o a => ⟨rfl, rfl, rfl, by simp [World.setCell], fun j hj hne => Below.heap_setCell _ _ _ _ (fun e => hne (by rw [e]))⟩
    have hne1 : ∀ j, (Value.slice V q cV).ownBlock = some j → some b ≠ some j := fun j hj e => hoX.off b rfl (by rw [hj]; exact e.symm)
    have hf2 := (hoX.forks.kept (hgb X i (.int .i64 y)) hne1).kept (hgb _ (i + 1) (.int .i64 x)) hne1
    obtain ⟨Z, hZ⟩ : ∃ Z, Z = ((X.setCell ⟨b, i, none⟩ (.int .i64 y)).setCell ⟨b, i + 1, none⟩ (.int .i64 x)).drew := ⟨_, rfl⟩
    have hZ0 : Below ((X.setCell ⟨b, i, none⟩ (.int .i64 y)).setCell ⟨b, i + 1, none⟩ (.int .i64 x)).heap.size ((X.setCell ⟨b, i, none⟩ (.int .i64 y)).setCell ⟨b, i + 1, none⟩ (.int .i64 x)) Z := by rw [hZ]; exact ⟨rfl, rfl, rfl, Nat.le_refl _, fun _ _ => rfl⟩
    have HOIF : Hid (OwnI Z W.heap.size (.slice (some ⟨b, 0, none⟩) nu cu) (.slice V q cV) (swapL xs i) rs) := Lib.hid ((OwnI.mk (by unfold swapL; rw [← hx, ← hy]; exact hl2) hf2 hoX.off : OwnI _ _ _ _ _ _).below hZ0)
    have hbne : w4.heap.size ≠ b := by omega
    have hbne2 : w.heap.size + 1 ≠ b := by omega
    have hT2 : Box2 Z w4.heap.size 44 (.slice (some ⟨b, 0, none⟩) nu cu) (.slice V q cV) := by rw [hZ]; exact (hT.other ⟨b, i, none⟩ (.int .i64 y) hbne).other ⟨b, i + 1, none⟩ (.int .i64 x) hbne
    have hXR : Box2 X (w.heap.size + 1) 28 (.slice none 0 0) (.slice none 0 0) := (HX1.out.below HB4.out (by omega)).below hbX (by omega)
    have hR2 : Box2 Z (w.heap.size + 1) 28 (.slice none 0 0) (.slice none 0 0) := by rw [hZ]; exact (hXR.other ⟨b, i, none⟩ (.int .i64 y) hbne2).other ⟨b, i + 1, none⟩ (.int .i64 x) hbne2
    have hBB : Below w.heap.size w Z := by
      rw [hZ]; exact (((HB0.out.trans ((HB4.out.mono (by omega)).trans (hbX.mono (by omega)))).setCell (by show w.heap.size ≤ b; omega) _).setCell (by show w.heap.size ≤ b; omega) _).drew
    have hsZ : X.heap.size ≤ Z.heap.size := by rw [hZ]; simp [World.setCell]
    have HT2 := Lib.hid hT2
    have HR2 := Lib.hid hR2
    have HBB := Lib.hid hBB
    have HZ := Lib.hid hZ
    have t0 := hT.cell0
    have h0i : (0 : Int) ≤ (i : Int) := by omega
    have hin : (i : Int) < (nu : Int) := by omega
    have h0i1 : (0 : Int) ≤ (i : Int) + 1 := by omega
    have hin1 : (i : Int) + 1 < (nu : Int) := by omega
    have hwrap : IntKind.i64.wrap ((i : Int) + 1) = (i : Int) + 1 := by rw [IntKind.wrap_i64]; omega
    clear hoX hlX hl2 hgb hne1 hf2 hZ hZ0 hT2 hXR hR2 hBB hT hnu hx hy s0 s1 hbX hbY
    go_upto_region 6 with fail
    go_region
    go_upto_region 7 with fail
    rw [← HZ.out]
    have u0 := HT2.out.cell0
    have u1 := HT2.out.cell1
    clear t0 z1 z2 gx gy
    go_wp2_with fail
    refine (result_any (some ⟨b, 0, none⟩) nu cu V q cV (swapL xs i) rs _ HOIF.out.legs.seg.rd HOIF.out.forks.rdf (by omega) (by omega)).mono ?_
    rintro e w6 ⟨u6, v6, vs6, rfl, how6, hb6⟩
    obtain ⟨B6, n6, d6, rfl, _⟩ := how6.legs.form'
    obtain ⟨C6, f6, hv6, _⟩ := how6.forks.form
    obtain ⟨q6, hq6⟩ : ∃ q6, q6 = rs.length := ⟨_, rfl⟩
    rw [← hq6] at hv6
    subst hv6
    have HR6 := Lib.hid (HR2.out.below hb6 (by omega))
    have HB6 := Lib.hid (HBB.out.trans (hb6.mono (by omega)))
    have HOW := Lib.hid how6
    have d0 := HR6.out.cell0
    have d1 := HR6.out.cell1
    have f0 := HR6.out.free 0
    have f1 := HR6.out.free 1
    clear u0 u1 how6 hb6 hq6
    go_wp2_with fail
    have e2 := (HR6.out.set0 (.slice B6 n6 d6)).set1 (.slice C6 q6 f6)
    refine bodyPost_ret (v := .tuple #[.agg #[.slice B6 n6 d6, .slice C6 q6 f6], .int .i64 0]) ?_ ?_ ?_
    · exact results_row_tmp Tryd.results20 _ _ (w.heap.size + 1) _ _ rfl rfl (run_loadVar_row _ _ _ _ _ _ _ e2 Tryd.underlying28 rfl size_web)
    · rfl
    · exact ⟨_, _, vs6, rfl, ((HOW.out.set_other ⟨w.heap.size + 1, 0, none⟩ _ (by show w.heap.size + 1 < _; omega)).set_other ⟨w.heap.size + 1, 1, none⟩ _ (by show w.heap.size + 1 < _; omega)).mono (by omega), ((HB6.out.setCell (by show w.heap.size ≤ w.heap.size + 1; omega) _).setCell (by show w.heap.size ≤ w.heap.size + 1; omega) _)⟩
end Go.Proofs.YtdeefgmjlcdpfaaDoor
