/- ParseGauss: the model's contract. -/
import Derived.Test.YtpeckofpgiabaaaGReadSpec
namespace Go.Proofs.Ytpeckofpgiabaaa
open Go.RowKit
set_option linter.unusedVariables false
set_option linter.unusedSimpArgs false
set_option maxRecDepth 100000

set_option maxHeartbeats 4000000 in
theorem specParseGauss_any (s : ByteArray) (w : World) (hn : s.size ≤ 1048576) : GaveG 22 #[.string s] w (parseGauss s) := by
  suffices h : Calls Try.prog 22 #[.string s] w fun e w' => ∃ u v z, e = .returned (.tuple #[.agg #[u, v, z], .int .i64 (parseGauss s).2]) ∧ OwnG w' w.heap.size u v z (parseGauss s).1.1 (parseGauss s).1.2.1 (parseGauss s).1.2.2 ∧ Below w.heap.size w w' from h
  obtain ⟨lo, hlo⟩ : ∃ lo, lo = w.heap.size := ⟨_, rfl⟩
  obtain ⟨W, hW⟩ : ∃ W, W = w.alloc (.cells #[.slice none 0 0, .slice none 0 0, .slice none 0 0] 27) := ⟨_, rfl⟩
  have hbW : Below lo w W := by rw [hW, hlo]; exact below_alloc _ _
  have x0 : Box3 W lo 27 (.slice none 0 0) (.slice none 0 0) (.slice none 0 0) := by rw [hW, hlo]; exact box3_new _ _ _ _ _
  have hsW : lo < W.heap.size := x0.lt
  have HX := Lib.hid x0
  have HB := Lib.hid hbW
  have HW := Lib.hid hW
  have HLOW : Hid (lo = w.heap.size) := Lib.hid hlo
  clear hbW x0 hW hlo
  rw [← HLOW.out]
  rcases hr : readB s with _ | _
  · have HN := Lib.hid (parseG_no hr)
    have HR := Lib.hid hr
    clear hr
    go_enter Try.func22, Try.ntmps22
    go_wp2_with fail
    rw [← HW.out, ← HLOW.out]
    refine (specGRead_any s _ hn).mono ?_
    rintro e w1 ⟨A1, n1, c1, B1, m1, d1, C1, s1, t1, rfl, _, hb⟩
    rw [HR.out]
    obtain ⟨X, hX⟩ : ∃ X, X = w1.alloc (.cells #[.slice A1 n1 c1, .slice B1 m1 d1, .slice C1 s1 t1] 27) := ⟨_, rfl⟩
    have hbX : Below W.heap.size W X := by rw [hX]; exact hb.trans ((below_alloc _ _).mono hb.size)
    have hx := HX.out.below hbX hsW
    have q0 := hx.cell0
    have q1 := hx.cell1
    have q2 := hx.cell2
    have f0 := hx.free 0
    have f1 := hx.free 1
    have f2 := hx.free 2
    have HXX := Lib.hid hX
    have HX1 := Lib.hid hx
    have HBZ := Lib.hid (HB.out.trans (hbX.mono (by omega)))
    clear hx hbX hX hb
    go_upto_region 2 with fail
    rw [← HXX.out]
    go_wp2_with fail
    refine bodyPost_ret (v := .tuple #[.agg #[.slice none 0 0, .slice none 0 0, .slice none 0 0], .int .i64 6]) ?_ ?_ ?_
    · first | exact results_row_tmp Try.results22 _ _ lo _ _ rfl rfl (run_loadVar_row _ _ _ _ _ _ _ (((HX1.out.set0 (.slice none 0 0)).set1 (.slice none 0 0)).set2 (.slice none 0 0)) Try.underlying27 rfl size_gauss) | exact results_row_tmp Try.results22 _ _ lo _ _ rfl rfl (run_loadVar_row _ _ _ _ _ _ _ HX1.out Try.underlying27 rfl size_gauss)
    · rfl
    · first | exact ⟨_, _, _, by rw [HN.out], by rw [HN.out]; exact OwnG.nil_ _ _, ((HBZ.out.setCell (p := ⟨lo, 0, none⟩) (Nat.le_refl _) _).setCell (p := ⟨lo, 1, none⟩) (Nat.le_refl _) _).setCell (p := ⟨lo, 2, none⟩) (Nat.le_refl _) _⟩ | exact ⟨_, _, _, by rw [HN.out], by rw [HN.out]; exact OwnG.nil_ _ _, HBZ.out⟩
  · have HN := Lib.hid (parseG_yes hr)
    have HR := Lib.hid hr
    clear hr
    go_enter Try.func22, Try.ntmps22
    go_wp2_with fail
    rw [← HW.out, ← HLOW.out]
    refine (specGRead_any s _ hn).mono ?_
    rintro e w1 ⟨A1, n1, c1, B1, m1, d1, C1, s1, t1, rfl, how, hb⟩
    rw [HR.out]
    obtain ⟨X, hX⟩ : ∃ X, X = w1.alloc (.cells #[.slice A1 n1 c1, .slice B1 m1 d1, .slice C1 s1 t1] 27) := ⟨_, rfl⟩
    have hbX : Below W.heap.size W X := by rw [hX]; exact hb.trans ((below_alloc _ _).mono hb.size)
    have hox : OwnG X W.heap.size (.slice A1 n1 c1) (.slice B1 m1 d1) (.slice C1 s1 t1) (rdTo s s.size).1 (rdTo s s.size).2.1 (rdTo s s.size).2.2 := by rw [hX]; exact (how HR.out).below (below_alloc _ _)
    have hy : Box3 X w1.heap.size 27 (.slice A1 n1 c1) (.slice B1 m1 d1) (.slice C1 s1 t1) := by rw [hX]; exact box3_new _ _ _ _ _
    have hx := HX.out.below hbX hsW
    have y0 := hy.cell0
    have y1 := hy.cell1
    have y2 := hy.cell2
    have q0 := hx.cell0
    have q1 := hx.cell1
    have q2 := hx.cell2
    have f0 := hx.free 0
    have f1 := hx.free 1
    have f2 := hx.free 2
    have HXX := Lib.hid hX
    have HX1 := Lib.hid hx
    have HO1 := Lib.hid (hox.mono (by omega : lo ≤ W.heap.size))
    have HBZ := Lib.hid (HB.out.trans (hbX.mono (by omega)))
    clear hx hbX hX hb hox how hy
    go_upto_region 2 with fail
    rw [← HXX.out]
    go_wp2_with fail
    have e0 := HX1.out.set0 (.slice A1 n1 c1)
    have e1 := e0.set1 (.slice B1 m1 d1)
    have e2 := e1.set2 (.slice C1 s1 t1)
    refine bodyPost_ret (v := .tuple #[.agg #[.slice A1 n1 c1, .slice B1 m1 d1, .slice C1 s1 t1], .int .i64 0]) ?_ ?_ ?_
    · exact results_row_tmp Try.results22 _ _ lo _ _ rfl rfl (run_loadVar_row _ _ _ _ _ _ _ e2 Try.underlying27 rfl size_gauss)
    · rfl
    · exact ⟨_, _, _, by rw [HN.out], by rw [HN.out]; exact ((HO1.out.set_box HX1.out).set_box e0).set_box e1, ((HBZ.out.setCell (p := ⟨lo, 0, none⟩) (Nat.le_refl _) _).setCell (p := ⟨lo, 1, none⟩) (Nat.le_refl _) _).setCell (p := ⟨lo, 2, none⟩) (Nat.le_refl _) _⟩
end Go.Proofs.Ytpeckofpgiabaaa
