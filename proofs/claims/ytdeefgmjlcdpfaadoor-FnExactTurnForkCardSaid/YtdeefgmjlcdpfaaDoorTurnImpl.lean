/- TurnFork: the program's side. -/
import Derived.Test.YtdeefgmjlcdpfaaDoorTurnSpec
import Derived.Test.YtdeefgmjlcdpfaaDoorWebResult
namespace Go.Proofs.YtdeefgmjlcdpfaaDoor
open Go.RowKit
set_option linter.unusedVariables false
set_option linter.unusedSimpArgs false
set_option maxRecDepth 100000

theorem flat3_set {rs : List (List Int)} (h : threes rs = true) {i : Nat} (hi : i < rs.length) (x y z : Int) : ((rs.flatten.set (i * 3) x).set (i * 3 + 1) y).set (i * 3 + 2) z = (rs.set i [x, y, z]).flatten := by
  induction rs generalizing i with
  | nil => simp at hi
  | cons a rs ih =>
    unfold threes at h
    rw [List.all_cons, Bool.and_eq_true] at h
    obtain ⟨p, q, r, rfl⟩ := three (show a.length = 3 by simpa using h.1)
    cases i with
    | zero => simp
    | succ i =>
      have h2 := ih (by unfold threes; exact h.2) (i := i) (by simpa using hi)
      rw [List.flatten_cons, show (i + 1) * 3 = i * 3 + 3 from by omega, show i * 3 + 3 + 1 = i * 3 + 1 + 3 from by omega, show i * 3 + 3 + 2 = i * 3 + 2 + 3 from by omega]
      simp only [List.cons_append, List.nil_append, List.set_cons_succ, List.flatten_cons, h2]
theorem OwnF.setFork {w : World} {lo g n c : Nat} {rs : List (List Int)} (h : OwnF w lo (.slice (some ⟨g, 0, none⟩) n c) rs) (i : Nat) (hi : i < rs.length) (x y z : Int) :
    OwnF (((w.setCell ⟨g, i * 3, none⟩ (.int .i64 x)).setCell ⟨g, i * 3 + 1, none⟩ (.int .i64 y)).setCell ⟨g, i * 3 + 2, none⟩ (.int .i64 z)) lo (.slice (some ⟨g, 0, none⟩) n c) (rs.set i [x, y, z]) := by
  obtain ⟨A', c', e, _, hg⟩ := h.form
  injection e with e1 e2 e3
  have h0 := h.2
  rw [← e2] at h0
  have s1 := (h0.stored (i * 3) (.int .i64 x)).1
  have s2 := (s1.stored (i * 3 + 1) (.int .i64 y)).1
  have s3 := (s2.stored (i * 3 + 2) (.int .i64 z)).1
  refine ⟨threes_set h.1 rfl, ?_⟩
  rw [List.length_set, ← e2, ← flat3_set h.1 hi]
  have e4 : ints (((rs.flatten.set (i * 3) x).set (i * 3 + 1) y).set (i * 3 + 2) z) = (((ints rs.flatten).set (i * 3) (.int .i64 x)).set (i * 3 + 1) (.int .i64 y)).set (i * 3 + 2) (.int .i64 z) := by simp [ints, List.map_set]
  rw [e4]; exact s3
theorem size_fork : (Tryd.prog.info? 55).map (·.size) = some 3 := by kernel_rfl
set_option maxHeartbeats 1600000 in
theorem turned_any (x y z : Int) (w : World) :
    Calls Tryd.prog 36 #[.agg #[.int .i64 x, .int .i64 y, .int .i64 z]] w fun e w' => e = .returned (.agg #[.int .i64 x, .int .i64 z, .int .i64 y]) ∧ Below w.heap.size w w' := by
  obtain ⟨W, hW⟩ : ∃ W, W = (w.alloc (.cells #[.int .i64 x, .int .i64 y, .int .i64 z] 55)).alloc (.cells #[.int .i64 0, .int .i64 0, .int .i64 0] 55) := ⟨_, rfl⟩
  have hbW : Below w.heap.size w W := by rw [hW]; exact (below_alloc _ _).trans ((below_alloc _ _).mono (by simp))
  have h0 : W.heap[w.heap.size]? = some (.cells #[.int .i64 x, .int .i64 y, .int .i64 z] 55 (0, 0)) := by rw [hW, Below.heap_alloc _ _ _ (by simp)]; exact heap_alloc_new _ _
  have h1 : W.heap[w.heap.size + 1]? = some (.cells #[.int .i64 0, .int .i64 0, .int .i64 0] 55 (0, 0)) := by
    have := heap_alloc_new (w.alloc (.cells #[.int .i64 x, .int .i64 y, .int .i64 z] 55)) (.cells #[.int .i64 0, .int .i64 0, .int .i64 0] 55)
    rw [World.size_alloc] at this
    rw [hW]; exact this
  have c0 : W.cell? ⟨w.heap.size, 0, none⟩ = some (.int .i64 x) := by rw [cell_of_row W _ 0 _ _ _ h0]; rfl
  have c1 : W.cell? ⟨w.heap.size, 1, none⟩ = some (.int .i64 y) := by rw [cell_of_row W _ 1 _ _ _ h0]; rfl
  have c2 : W.cell? ⟨w.heap.size, 2, none⟩ = some (.int .i64 z) := by rw [cell_of_row W _ 2 _ _ _ h0]; rfl
  have d0 : W.cell? ⟨w.heap.size + 1, 0, none⟩ = some (.int .i64 0) := by rw [cell_of_row W _ 0 _ _ _ h1]; rfl
  have d1 : W.cell? ⟨w.heap.size + 1, 1, none⟩ = some (.int .i64 0) := by rw [cell_of_row W _ 1 _ _ _ h1]; rfl
  have d2 : W.cell? ⟨w.heap.size + 1, 2, none⟩ = some (.int .i64 0) := by rw [cell_of_row W _ 2 _ _ _ h1]; rfl
  have f0 : W.frozen? ⟨w.heap.size + 1, 0, none⟩ = false := by simp [World.frozen?, h1]
  have f1 : W.frozen? ⟨w.heap.size + 1, 1, none⟩ = false := by simp [World.frozen?, h1]
  have f2 : W.frozen? ⟨w.heap.size + 1, 2, none⟩ = false := by simp [World.frozen?, h1]
  have HB := Lib.hid hbW
  have HW := Lib.hid hW
  have HH1 : Hid ((((W.setCell ⟨w.heap.size + 1, 0, none⟩ (.int .i64 x)).setCell ⟨w.heap.size + 1, 1, none⟩ (.int .i64 z)).setCell ⟨w.heap.size + 1, 2, none⟩ (.int .i64 y)).heap[w.heap.size + 1]? = some (.cells #[.int .i64 x, .int .i64 z, .int .i64 y] 55 (0, 0))) := Lib.hid (heap_setCell_same _ _ 2 _ _ _ (heap_setCell_same _ _ 1 _ _ _ (heap_setCell_same _ _ 0 _ _ _ h1)))
  clear hW hbW h0 h1
  go_enter Tryd.func36, Tryd.ntmps36
  go_upto_region 1 with fail
  rw [← HW.out]
  go_wp2_with fail
  refine bodyPost_ret (v := .agg #[.int .i64 x, .int .i64 z, .int .i64 y]) ?_ ?_ ?_
  · exact results_cell_row Tryd.results36 _ _ (w.heap.size + 1) 55 _ (0, 0) _ rfl HH1.out Tryd.underlying55 rfl size_fork
  · rfl
  · exact ⟨rfl, ((HB.out.setCell (by show w.heap.size ≤ w.heap.size + 1; omega) _).setCell (by show w.heap.size ≤ w.heap.size + 1; omega) _).setCell (by show w.heap.size ≤ w.heap.size + 1; omega) _⟩
set_option maxHeartbeats 8000000 in
theorem implTurnFork_any (A : Option Addr) (n c : Nat) (B : Option Addr) (m d : Nat) (xs : List Int) (rs : List (List Int)) (k : Int) (ea : Option Addr) (w : World) (hr : RdWB w w.heap.size A n B m xs rs) (hwf : WfW xs rs) (hs : FewW xs rs) (hki : -9223372036854775808 ≤ k ∧ k ≤ 9223372036854775807) (hg : w.cell? ⟨0, 0, none⟩ = some (.iface 88 (.pointer ea))) (hw0 : 0 < w.heap.size) :
    GaveW 16 #[.agg #[.slice A n c, .slice B m d], .int .i64 k] w (turnFork xs rs k) := by
  obtain ⟨W, hW⟩ : ∃ W, W = (w.alloc (.cells #[.slice A n c, .slice B m d] 28)).alloc (.cells #[.slice none 0 0, .slice none 0 0] 28) := ⟨_, rfl⟩
  have hbW : Below w.heap.size w W := by rw [hW]; exact (below_alloc _ _).trans ((below_alloc _ _).mono (by simp))
  have hsW : w.heap.size + 2 ≤ W.heap.size := by rw [hW]; simp
  have HX0 : Hid (Box2 W w.heap.size 28 (.slice A n c) (.slice B m d)) := Lib.hid (by rw [hW]; exact (box2_new _ _ _ _).alloc _)
  have HX1 : Hid (Box2 W (w.heap.size + 1) 28 (.slice none 0 0) (.slice none 0 0)) := Lib.hid (by
    have := box2_new (w.alloc (.cells #[.slice A n c, .slice B m d] 28)) 28 (.slice none 0 0) (.slice none 0 0)
    rw [World.size_alloc] at this
    rw [hW]; exact this)
  have HB0 := Lib.hid hbW
  have HW := Lib.hid hW
  have HR : Hid (RdWB W W.heap.size A n B m xs rs) := Lib.hid ((hr.below hbW).rd hbW.size)
  have HG : Hid (W.cell? ⟨0, 0, none⟩ = some (.iface 88 (.pointer ea))) := Lib.hid ((hbW.cell (p := ⟨0, 0, none⟩) hw0).trans hg)
  have HLR := Lib.hid hr.2.1
  have HLX := Lib.hid hr.1.1
  have HFW := Lib.hid hs
  have HWF := Lib.hid hwf
  have hm1 : m ≤ 1048576 := by have := hs.2.1.1; have := hr.2.1; omega
  have q0 := HX0.out.cell0
  have q1 := HX0.out.cell1
  clear hr hbW hW hs hwf hg
  rcases hB : webB xs rs with _ | _
  · refine gaveW_mk (turn_no hB) ?_
    have HNO := Lib.hid hB
    clear hB
    go_enter Tryd.func16, Tryd.ntmps16
    go_upto_region 1 with fail
    rw [← HW.out]
    go_wp2_with fail
    refine (openWeb_any _ _ _ _ _ _ xs rs ea _ HR.out HFW.out HWF.out HG.out (by omega)).mono ?_
    rintro e w1 ⟨⟨_, hno⟩, hb1⟩
    obtain rfl := hno HNO.out
    obtain ⟨V, hV⟩ : ∃ V, V = w1.alloc (.cells #[.slice none 0 0, .slice none 0 0] 44) := ⟨_, rfl⟩
    have hbV : Below w1.heap.size w1 V := by rw [hV]; exact below_alloc _ _
    have hsz1 := hb1.size
    have HXZ := Lib.hid ((HX1.out.below hb1 (by omega)).below hbV (by omega))
    have HBZ := Lib.hid (HB0.out.trans ((hb1.mono (by omega)).trans (hbV.mono (by omega))))
    have HV := Lib.hid hV
    clear q0 q1 hb1 hbV hV hno
    go_upto_region 2 with fail
    rw [← HV.out]
    have d0 := HXZ.out.cell0
    have d1 := HXZ.out.cell1
    have f0 := HXZ.out.free 0
    have f1 := HXZ.out.free 1
    go_wp2_with fail
    have e2 := (HXZ.out.set0 (.slice none 0 0)).set1 (.slice none 0 0)
    refine bodyPost_ret (v := .tuple #[.agg #[.slice none 0 0, .slice none 0 0], .int .i64 1]) ?_ ?_ ?_
    · exact results_row_tmp Tryd.results16 _ _ (w.heap.size + 1) _ _ rfl rfl (run_loadVar_row _ _ _ _ _ _ _ e2 Tryd.underlying28 rfl size_web)
    · rfl
    · first | exact ⟨_, _, _, rfl, OwnW.nil_ _ _, ((HBZ.out.setCell (by show w.heap.size ≤ w.heap.size + 1; omega) _).setCell (by show w.heap.size ≤ w.heap.size + 1; omega) _)⟩ | exact ⟨_, _, rfl, ⟨_, OwnW.nil_ _ _⟩, ((HBZ.out.setCell (by show w.heap.size ≤ w.heap.size + 1; omega) _).setCell (by show w.heap.size ≤ w.heap.size + 1; omega) _)⟩
  have HYES := Lib.hid hB
  have HFA := Lib.hid (webB_facts hB)
  have hit : xs.length + rs.length ≤ 8 := HFA.out.1
  obtain ⟨kn, hkn⟩ : ∃ kn, kn = k := ⟨_, rfl⟩
  by_cases hk : 0 ≤ k ∧ k < rs.length
  case neg =>
    refine gaveW_mk (turn_out hB hk) ?_
    have HK := Lib.hid hk
    clear hB hk hkn
    go_enter Tryd.func16, Tryd.ntmps16
    go_upto_region 1 with fail
    rw [← HW.out]
    go_wp2_with fail
    refine (openWeb_any _ _ _ _ _ _ xs rs ea _ HR.out HFW.out HWF.out HG.out (by omega)).mono ?_
    rintro e w1 ⟨⟨hyes, _⟩, hb1⟩
    obtain ⟨u, v, rfl, hoi⟩ := hyes HYES.out
    obtain ⟨Au, nu, cu, rfl, _⟩ := hoi.legs.form'
    obtain ⟨Av, cv, hv, _⟩ := hoi.forks.form
    obtain ⟨q, hq⟩ : ∃ q, q = rs.length := ⟨_, rfl⟩
    rw [← hq] at hv
    subst hv
    have hkq : ¬ (0 ≤ k ∧ k < (q : Int)) := by rw [hq]; exact HK.out
    have hq8 : q ≤ 8 := by omega
    obtain ⟨V, hV⟩ : ∃ V, V = w1.alloc (.cells #[.slice Au nu cu, .slice Av q cv] 44) := ⟨_, rfl⟩
    have hbV : Below w1.heap.size w1 V := by rw [hV]; exact below_alloc _ _
    have hT : Box2 V w1.heap.size 44 (.slice Au nu cu) (.slice Av q cv) := by rw [hV]; exact box2_new _ _ _ _
    have hsz1 := hb1.size
    have HXZ := Lib.hid ((HX1.out.below hb1 (by omega)).below hbV (by omega))
    have HBZ := Lib.hid (HB0.out.trans ((hb1.mono (by omega)).trans (hbV.mono (by omega))))
    have HV := Lib.hid hV
    have t0 := hT.cell0
    have t1 := hT.cell1
    clear q0 q1 hb1 hbV hV hyes hoi hT hq
    go_upto_region 2 with fail
    rw [← HV.out]
    by_cases hneg : k < 0
    · go_upto_region 5 with fail
      have d0 := HXZ.out.cell0
      have d1 := HXZ.out.cell1
      have f0 := HXZ.out.free 0
      have f1 := HXZ.out.free 1
      go_wp2_with fail
      have e2 := (HXZ.out.set0 (.slice none 0 0)).set1 (.slice none 0 0)
      refine bodyPost_ret (v := .tuple #[.agg #[.slice none 0 0, .slice none 0 0], .int .i64 2]) ?_ ?_ ?_
      · exact results_row_tmp Tryd.results16 _ _ (w.heap.size + 1) _ _ rfl rfl (run_loadVar_row _ _ _ _ _ _ _ e2 Tryd.underlying28 rfl size_web)
      · rfl
      · first | exact ⟨_, _, _, rfl, OwnW.nil_ _ _, ((HBZ.out.setCell (by show w.heap.size ≤ w.heap.size + 1; omega) _).setCell (by show w.heap.size ≤ w.heap.size + 1; omega) _)⟩ | exact ⟨_, _, rfl, ⟨_, OwnW.nil_ _ _⟩, ((HBZ.out.setCell (by show w.heap.size ≤ w.heap.size + 1; omega) _).setCell (by show w.heap.size ≤ w.heap.size + 1; omega) _)⟩
    · have hge : (q : Int) ≤ k := by omega
      go_upto_region 5 with fail
      have d0 := HXZ.out.cell0
      have d1 := HXZ.out.cell1
      have f0 := HXZ.out.free 0
      have f1 := HXZ.out.free 1
      go_wp2_with fail
      have e2 := (HXZ.out.set0 (.slice none 0 0)).set1 (.slice none 0 0)
      refine bodyPost_ret (v := .tuple #[.agg #[.slice none 0 0, .slice none 0 0], .int .i64 2]) ?_ ?_ ?_
      · exact results_row_tmp Tryd.results16 _ _ (w.heap.size + 1) _ _ rfl rfl (run_loadVar_row _ _ _ _ _ _ _ e2 Tryd.underlying28 rfl size_web)
      · rfl
      · first | exact ⟨_, _, _, rfl, OwnW.nil_ _ _, ((HBZ.out.setCell (by show w.heap.size ≤ w.heap.size + 1; omega) _).setCell (by show w.heap.size ≤ w.heap.size + 1; omega) _)⟩ | exact ⟨_, _, rfl, ⟨_, OwnW.nil_ _ _⟩, ((HBZ.out.setCell (by show w.heap.size ≤ w.heap.size + 1; omega) _).setCell (by show w.heap.size ≤ w.heap.size + 1; omega) _)⟩
  case pos =>
    obtain ⟨i, rfl⟩ : ∃ i : Nat, k = i := ⟨k.toNat, by omega⟩
    have hil : i < rs.length := by omega
    refine gaveW_mk (turn_yes hB hil) ?_
    obtain ⟨x, y, z, hxyz⟩ := three (threes_at HFA.out.2 hil)
    have HXYZ := Lib.hid hxyz
    have HIL := Lib.hid hil
    clear hB hk hxyz hkn
    go_enter Tryd.func16, Tryd.ntmps16
    go_upto_region 1 with fail
    rw [← HW.out]
    go_wp2_with fail
    refine (openWeb_any _ _ _ _ _ _ xs rs ea _ HR.out HFW.out HWF.out HG.out (by omega)).mono ?_
    rintro e w4 ⟨⟨hyes, _⟩, hb4⟩
    obtain ⟨u, v, rfl, hoi⟩ := hyes HYES.out
    obtain ⟨Au, nu, cu, rfl, hnu, _⟩ := hoi.legs.form'
    obtain ⟨V, cV, hv, hcV, hVg⟩ := hoi.forks.form
    obtain ⟨g, rfl⟩ := hVg (by omega)
    obtain ⟨q, hq⟩ : ∃ q, q = rs.length := ⟨_, rfl⟩
    rw [← hq] at hv
    subst hv
    have hiq : i < q := by rw [hq]; exact hil
    have hq8 : q ≤ 8 := by omega
    have hnu8 : nu ≤ 8 := by omega
    obtain ⟨X, hX⟩ : ∃ X, X = w4.alloc (.cells #[.slice Au nu cu, .slice (some ⟨g, 0, none⟩) q cV] 44) := ⟨_, rfl⟩
    have hbX : Below w4.heap.size w4 X := by rw [hX]; exact below_alloc _ _
    have hsX : w4.heap.size < X.heap.size := by rw [hX]; simp
    have hT : Box2 X w4.heap.size 44 (.slice Au nu cu) (.slice (some ⟨g, 0, none⟩) q cV) := by rw [hX]; exact box2_new _ _ _ _
    have hsz4 := hb4.size
    have hgl := hoi.forks.lt g rfl
    have hoX := hoi.below hbX
    have hf := hoX.forks.2
    rw [← hq] at hf
    have gx : X.cell? ⟨g, i * 3, none⟩ = some (.int .i64 x) := by
      have := hf.cellAt (i * 3 + 0) (by omega); rw [ints_get?, flat3_get hoX.forks.1 hil (by omega), HXYZ.out] at this; simpa using this
    have gy : X.cell? ⟨g, i * 3 + 1, none⟩ = some (.int .i64 y) := by
      have := hf.cellAt (i * 3 + 1) (by omega); rw [ints_get?, flat3_get hoX.forks.1 hil (by omega), HXYZ.out] at this; simpa using this
    have gz : X.cell? ⟨g, i * 3 + 2, none⟩ = some (.int .i64 z) := by
      have := hf.cellAt (i * 3 + 2) (by omega); rw [ints_get?, flat3_get hoX.forks.1 hil (by omega), HXYZ.out] at this; simpa using this
    have HK : Hid (∀ Y, Below X.heap.size X Y → Y.cell? ⟨w4.heap.size, 1, none⟩ = some (.slice (some ⟨g, 0, none⟩) q cV) ∧ Y.cell? ⟨g, i * 3, none⟩ = some (.int .i64 x) ∧ Y.cell? ⟨g, i * 3 + 1, none⟩ = some (.int .i64 y) ∧ Y.cell? ⟨g, i * 3 + 2, none⟩ = some (.int .i64 z)) := Lib.hid (fun Y hY => ⟨(hT.below hY hsX).cell1, (hY.cell (p := ⟨g, i * 3, none⟩) (by show g < _; omega)).trans gx, (hY.cell (p := ⟨g, i * 3 + 1, none⟩) (by show g < _; omega)).trans gy, (hY.cell (p := ⟨g, i * 3 + 2, none⟩) (by show g < _; omega)).trans gz⟩)
    have HT := Lib.hid hT
    have HOX := Lib.hid hoX
    have HX := Lib.hid hX
    have HXR : Hid (Box2 X (w.heap.size + 1) 28 (.slice none 0 0) (.slice none 0 0)) := Lib.hid ((HX1.out.below hb4 (by omega)).below hbX (by omega))
    have HBX : Hid (Below w.heap.size w X) := Lib.hid (HB0.out.trans ((hb4.mono (by omega)).trans (hbX.mono (by omega))))
    have HSD := HK.out X.drew (Below.refl _ _).drew
    have t0 := hT.cell0
    have t1 := hT.cell1
    have h0i : (0 : Int) ≤ (i : Int) := by omega
    have hin : (i : Int) < (q : Int) := by omega
    clear q0 q1 hyes hoi hb4 hbX hT hX hoX hf gx gy gz hq hil hVg hcV
    go_upto_region 2 with fail
    rw [← HX.out]
    go_upto_region 6 with fail
    clear t0 t1
    refine wp_region_store (fun X => X.cell? ⟨w4.heap.size, 1, none⟩ = some (.slice (some ⟨g, 0, none⟩) q cV) ∧ X.cell? ⟨g, i * 3, none⟩ = some (.int .i64 x) ∧ X.cell? ⟨g, i * 3 + 1, none⟩ = some (.int .i64 y) ∧ X.cell? ⟨g, i * 3 + 2, none⟩ = some (.int .i64 z)) 10 _ (by kernel_rfl) rfl rfl rfl rfl (by kernel_rfl) (by kernel_rfl) (by kernel_rfl) ?_
    simp only [List.set_cons_succ, List.set_cons_zero, nopOf, List.length_cons, List.length_nil, Nat.reduceAdd, Nat.zero_add]
    apply take_held 0 rfl rfl (by kernel_rfl) (by kernel_rfl) (by kernel_rfl) HSD
    case hy => (intro w0 hSw; (try dsimp only at hSw); go_simp; with_reducible rfl)
    try simp only [Act.put, List.setIfInBounds_toArray, List.set_cons_zero, List.set_cons_succ]
    apply take_held 1 rfl rfl (by kernel_rfl) (by kernel_rfl) (by kernel_rfl) HSD
    case hy => (intro w0 hSw; (try dsimp only at hSw); go_simp; with_reducible rfl)
    try simp only [Act.put, List.setIfInBounds_toArray, List.set_cons_zero, List.set_cons_succ]
    apply take_held 2 rfl rfl (by kernel_rfl) (by kernel_rfl) (by kernel_rfl) HSD
    case hy => (intro w0 hSw; (try dsimp only at hSw); go_simp; with_reducible rfl)
    try simp only [Act.put, List.setIfInBounds_toArray, List.set_cons_zero, List.set_cons_succ]
    apply take_held 3 rfl rfl (by kernel_rfl) (by kernel_rfl) (by kernel_rfl) HSD
    case hy => (intro w0 hSw; (try dsimp only at hSw); go_simp; with_reducible rfl)
    try simp only [Act.put, List.setIfInBounds_toArray, List.set_cons_zero, List.set_cons_succ]
    apply take_held 4 rfl rfl (by kernel_rfl) (by kernel_rfl) (by kernel_rfl) HSD
    case hy => (intro w0 hSw; (try dsimp only at hSw); go_simp; with_reducible rfl)
    try simp only [Act.put, List.setIfInBounds_toArray, List.set_cons_zero, List.set_cons_succ]
    apply take_held 5 rfl rfl (by kernel_rfl) (by kernel_rfl) (by kernel_rfl) HSD
    case hy => (intro w0 hSw; (try dsimp only at hSw); go_simp; with_reducible rfl)
    try simp only [Act.put, List.setIfInBounds_toArray, List.set_cons_zero, List.set_cons_succ]
    apply take_held 6 rfl rfl (by kernel_rfl) (by kernel_rfl) (by kernel_rfl) HSD
    case hy => (intro w0 hSw; (try dsimp only at hSw); go_simp; with_reducible rfl)
    try simp only [Act.put, List.setIfInBounds_toArray, List.set_cons_zero, List.set_cons_succ]
    apply take_held 7 rfl rfl (by kernel_rfl) (by kernel_rfl) (by kernel_rfl) HSD
    case hy => (intro w0 hSw; (try dsimp only at hSw); go_simp; with_reducible rfl)
    try simp only [Act.put, List.setIfInBounds_toArray, List.set_cons_zero, List.set_cons_succ]
    refine all_held 8 rfl rfl (by kernel_rfl) (fun K' hK => ?_)
    go_simp
    go_at_call 36
    refine (turned_any x y z _).mono ?_
    rintro en w5 ⟨rfl, hb5⟩
    have hb5' : Below X.heap.size X w5 := (Below.refl _ _).drew.trans hb5
    refine hK.out _ _ (HK.out _ hb5') ?_
    clear hK
    try simp only [Act.put, List.setIfInBounds_toArray, List.set_cons_zero, List.set_cons_succ]
    have HS1 := HK.out _ hb5'
    apply take_held 9 rfl rfl (by kernel_rfl) (by kernel_rfl) (by kernel_rfl) HS1
    case hy => (intro w0 hSw; (try dsimp only at hSw); go_simp; with_reducible rfl)
    try simp only [Act.put, List.setIfInBounds_toArray, List.set_cons_zero, List.set_cons_succ]
    apply take_held 10 rfl rfl (by kernel_rfl) (by kernel_rfl) (by kernel_rfl) HS1
    case hy => (intro w0 hSw; (try dsimp only at hSw); go_simp; with_reducible rfl)
    try simp only [Act.put, List.setIfInBounds_toArray, List.set_cons_zero, List.set_cons_succ]
    refine wpAnyH_done (by kernel_rfl) ?_ _
    show wpList _ _ _ _ _ _
    have hoZ := HOX.out.below hb5'
    have hfz := hoZ.forks.2
    obtain ⟨q2, cV2, hq2, _⟩ := hoZ.forks.form
    have e3 : q = rs.length := by injection hq2
    rw [← e3] at hfz
    have z1 : w5.frozen? ⟨g, i * 3, none⟩ = false := hfz.frozenAt _
    have z2 : w5.frozen? ⟨g, i * 3 + 1, none⟩ = false := hfz.frozenAt _
    have z3 : w5.frozen? ⟨g, i * 3 + 2, none⟩ = false := hfz.frozenAt _
    obtain ⟨_, y1, y2, y3⟩ := HS1
    have hfk := hoZ.forks.setFork i HIL.out x z y
    obtain ⟨Z, hZ⟩ : ∃ Z, Z = (((w5.setCell ⟨g, i * 3, none⟩ (.int .i64 x)).setCell ⟨g, i * 3 + 1, none⟩ (.int .i64 z)).setCell ⟨g, i * 3 + 2, none⟩ (.int .i64 y)) := ⟨_, rfl⟩
    have hgne1 : w4.heap.size ≠ g := by omega
    have hgne2 : w.heap.size + 1 ≠ g := by omega
    have hTZ : Box2 Z w4.heap.size 44 (.slice Au nu cu) (.slice (some ⟨g, 0, none⟩) q cV) := by rw [hZ]; exact (((HT.out.below hb5' hsX).other ⟨g, i * 3, none⟩ _ hgne1).other ⟨g, i * 3 + 1, none⟩ _ hgne1).other ⟨g, i * 3 + 2, none⟩ _ hgne1
    have hRZ : Box2 Z (w.heap.size + 1) 28 (.slice none 0 0) (.slice none 0 0) := by rw [hZ]; exact (((HXR.out.below hb5' (by omega)).other ⟨g, i * 3, none⟩ _ hgne2).other ⟨g, i * 3 + 1, none⟩ _ hgne2).other ⟨g, i * 3 + 2, none⟩ _ hgne2
    have hBZ : Below w.heap.size w Z := by rw [hZ]; exact (((HBX.out.trans (hb5'.mono (by omega))).setCell (by show w.heap.size ≤ g; omega) _).setCell (by show w.heap.size ≤ g; omega) _).setCell (by show w.heap.size ≤ g; omega) _
    have hgb : ∀ (V : World) (o : Nat) (a : Value), V.grownBy (V.setCell ⟨g, o, none⟩ a) (some g) := fun V o a => ⟨rfl, rfl, rfl, by simp [World.setCell], fun j hj hne => Below.heap_setCell _ _ _ _ (fun e => hne (by rw [e]))⟩
    have hLZ : Own Z W.heap.size (.slice Au nu cu) xs := by
      have hne : ∀ j, (Value.slice Au nu cu).ownBlock = some j → some g ≠ some j := fun j hj e => hoZ.off j hj (by simpa [Value.ownBlock] using e)
      rw [hZ]; exact ((hoZ.legs.kept (hgb _ _ _) hne).kept (hgb _ _ _) hne).kept (hgb _ _ _) hne
    have hFZ : OwnF Z W.heap.size (.slice (some ⟨g, 0, none⟩) q cV) (rs.set i (turnL (rAt rs i))) := by rw [hZ, HXYZ.out]; exact hfk
    have hsZ : X.heap.size ≤ Z.heap.size := by rw [hZ]; simpa [World.setCell] using hb5'.size
    have HTZ := Lib.hid hTZ
    have HRZ := Lib.hid hRZ
    have HBZ := Lib.hid hBZ
    have HLZ := Lib.hid hLZ
    have HFZ := Lib.hid hFZ
    have HZ := Lib.hid hZ
    clear hoZ hfz hq2 e3 hfk hgne1 hgne2 hTZ hRZ hBZ hgb hLZ hFZ hZ HSD hb5 hb5'
    go_upto_region 7 with fail
    rw [← HZ.out]
    have t0 := HTZ.out.cell0
    have t1 := HTZ.out.cell1
    clear y1 y2 y3 z1 z2 z3
    go_wp2_with fail
    refine (result_any Au nu cu (some ⟨g, 0, none⟩) q cV xs (rs.set i (turnL (rAt rs i))) _ HLZ.out.seg.rd HFZ.out.rdf (by omega) (by omega)).mono ?_
    rintro e w6 ⟨u6, v6, vs6, rfl, how6, hb6⟩
    obtain ⟨B6, n6, d6, rfl, _⟩ := how6.legs.form'
    obtain ⟨C6, f6, hv6, _⟩ := how6.forks.form
    obtain ⟨q6, hq6⟩ : ∃ q6, q6 = (rs.set i (turnL (rAt rs i))).length := ⟨_, rfl⟩
    rw [← hq6] at hv6
    subst hv6
    have HR6 := Lib.hid (HRZ.out.below hb6 (by omega))
    have HB6 := Lib.hid (HBZ.out.trans (hb6.mono (by omega)))
    have HOW := Lib.hid how6
    have d0 := HR6.out.cell0
    have d1 := HR6.out.cell1
    have f0 := HR6.out.free 0
    have f1 := HR6.out.free 1
    clear t0 t1 how6 hb6 hq6
    go_wp2_with fail
    have e2 := (HR6.out.set0 (.slice B6 n6 d6)).set1 (.slice C6 q6 f6)
    refine bodyPost_ret (v := .tuple #[.agg #[.slice B6 n6 d6, .slice C6 q6 f6], .int .i64 0]) ?_ ?_ ?_
    · exact results_row_tmp Tryd.results16 _ _ (w.heap.size + 1) _ _ rfl rfl (run_loadVar_row _ _ _ _ _ _ _ e2 Tryd.underlying28 rfl size_web)
    · rfl
    · exact ⟨_, _, vs6, rfl, ((HOW.out.set_other ⟨w.heap.size + 1, 0, none⟩ _ (by show w.heap.size + 1 < _; omega)).set_other ⟨w.heap.size + 1, 1, none⟩ _ (by show w.heap.size + 1 < _; omega)).mono (by omega), ((HB6.out.setCell (by show w.heap.size ≤ w.heap.size + 1; omega) _).setCell (by show w.heap.size ≤ w.heap.size + 1; omega) _)⟩
end Go.Proofs.YtdeefgmjlcdpfaaDoor
