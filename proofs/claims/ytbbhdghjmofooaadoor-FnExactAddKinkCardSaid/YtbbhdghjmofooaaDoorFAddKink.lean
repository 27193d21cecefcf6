/- AddKink: the program's contract. -/
import Derived.Test.YtbbhdghjmofooaaDoorBAddKink
import Derived.Test.YtbbhdghjmofooaaDoorMAddKink
namespace Go.Proofs.YtbbhdghjmofooaaDoor
open Go.RowKit
set_option linter.unusedVariables false
set_option linter.unusedSimpArgs false
set_option maxRecDepth 100000

set_option maxHeartbeats 3200000 in
theorem implAddKink_any (A B C : Option Addr) (n c m d q f : Nat) (ws hs ss : List Int) (p : Int) (h : Int) (s : Int) (w : World) (hr : RdGB w w.heap.size A n B m C q ws hs ss) (hwf : WfG ws hs ss) (hf : FewG ws hs ss) (hip : -9223372036854775808 ≤ p ∧ p ≤ 9223372036854775807) (hih : -9223372036854775808 ≤ h ∧ h ≤ 9223372036854775807) (his : -9223372036854775808 ≤ s ∧ s ≤ 9223372036854775807) (hg : w.cell? ⟨0, 0, none⟩ = some (.iface 109 (.agg #[.pointer (some ⟨1, 64, none⟩)]))) :
    GaveG 23 #[.agg #[.slice A n c, .slice B m d, .slice C q f], .int .i64 p, .int .i64 h, .int .i64 s] w (addKinkOf ws hs ss p h s) := by

  have hw0 : 0 < w.heap.size := by
    rcases Nat.eq_zero_or_pos w.heap.size with h0 | h
    · simp [World.cell?, h0] at hg
    · exact h
  obtain ⟨b0, hb0⟩ : ∃ b, b = w.heap.size := ⟨_, rfl⟩
  obtain ⟨b1, hb1⟩ : ∃ b, b = b0 + 1 := ⟨_, rfl⟩
  obtain ⟨V, hV⟩ : ∃ V, V = w.alloc (.cells #[.slice A n c, .slice B m d, .slice C q f] 26) := ⟨_, rfl⟩
  obtain ⟨W, hW⟩ : ∃ W, W = V.alloc (.cells #[.slice none 0 0, .slice none 0 0, .slice none 0 0] 26) := ⟨_, rfl⟩
  have s0 : V.heap.size = b1 := by rw [hV, World.size_alloc, ← hb0, hb1]
  have hsW : W.heap.size = b1 + 1 := by rw [hW, World.size_alloc, s0]
  have k0 : Below b0 w V := by rw [hV, hb0]; exact below_alloc _ _
  have k1 : Below b1 V W := by rw [hW, ← s0]; exact below_alloc _ _
  have x0 : Box3 V b0 26 (.slice A n c) (.slice B m d) (.slice C q f) := by rw [hV, hb0]; exact box3_new _ _ _ _ _
  have x1 : Box3 W b1 26 (.slice none 0 0) (.slice none 0 0) (.slice none 0 0) := by rw [hW, ← s0]; exact box3_new _ _ _ _ _
  have x0' := x0.below k1 (by omega)
  have hbW : Below b0 w W := k0.trans (k1.mono (by omega))
  have hgW := (hbW.cell (p := ⟨0, 0, none⟩) (by show 0 < b0; omega)).trans hg
  have hrW : RdGB W W.heap.size A n B m C q ws hs ss := (hr.below (by rw [← hb0]; exact hbW)).rd hbW.size
  obtain ⟨r, hre⟩ : ∃ r, r = addKinkOf ws hs ss p h s := ⟨_, rfl⟩
  have HM := Lib.hid (behindAddKink A B C n c m d q f ws hs ss p h s r W hrW hwf hf hgW (fun hG9 => by rw [hre]; exact addKinkOf_no hG9) (fun hG9 lo kb L ars av w hk hl hlo => by rw [hre]; exact makesAddKink lo kb L ars av ws hs ss p h s w hk hG9 hl hlo hip hih his))
  have HRE := Lib.hid (show r.2 ≠ 0 → r.1 = ([], [], []) from by rw [hre]; exact addKinkOf_err)
  rw [← hre]
  clear hre
  have HX1 := Lib.hid x1
  have HBW := Lib.hid hbW
  have HSW := Lib.hid hsW
  have HB0 := Lib.hid hb0
  have HB1 := Lib.hid hb1
  have HW : Hid (W = (w.alloc (.cells #[.slice A n c, .slice B m d, .slice C q f] 26)).alloc (.cells #[.slice none 0 0, .slice none 0 0, .slice none 0 0] 26)) := Lib.hid (by rw [hW, hV])
  have q0 := x0'.cell0
  have q1 := x0'.cell1
  have q2 := x0'.cell2
  clear hV hW s0 hsW k0 k1 x0 x1 x0' hbW hr hg hb1 hwf hf hgW hrW
  unfold GaveG
  rw [← HB0.out]
  clear hb0
  go_enter Tryd.func23, Tryd.ntmps23
  go_upto_region 1 with fail
  rw [← HB0.out, ← HB1.out, ← HW.out]
  by_cases hB : r.2 = 0
  case neg =>
    have HNO := Lib.hid hB
    have HR1 := Lib.hid (HRE.out hB)
    clear hB
    go_wp2_with (go_at_call 32; refine HM.out.mono ?_; rintro e w5 h5; obtain ⟨-, hno, hb5⟩ := h5; have he := hno HNO.out; subst he; have hx5 := HX1.out.below hb5 (by have := HSW.out; omega); have c0 := hx5.cell0; have c1 := hx5.cell1; have c2 := hx5.cell2; have f0 := hx5.free 0; have f1 := hx5.free 1; have f2 := hx5.free 2)
    have e2 := ((hx5.set0 (.slice none 0 0)).set1 (.slice none 0 0)).set2 (.slice none 0 0)
    refine bodyPost_ret (v := .tuple #[.agg #[.slice none 0 0, .slice none 0 0, .slice none 0 0], .int .i64 r.2]) ?_ ?_ ?_
    · exact results_row_tmp Tryd.results23 _ _ b1 _ _ rfl rfl (run_loadVar_row _ _ _ _ _ _ _ e2 Tryd.underlying26 rfl size_gauss)
    · rfl
    · have hb := HBW.out.trans (hb5.mono (by have := HSW.out; have := HB1.out; omega))
      exact ⟨_, _, _, rfl, by rw [HR1.out]; exact OwnG.nil_ _ _, ((hb.setCell (p := ⟨b1, 0, none⟩) (by show b0 ≤ b1; have := HB1.out; omega) _).setCell (p := ⟨b1, 1, none⟩) (by show b0 ≤ b1; have := HB1.out; omega) _).setCell (p := ⟨b1, 2, none⟩) (by show b0 ≤ b1; have := HB1.out; omega) _⟩
  case pos =>
    have HYES := Lib.hid hB
    clear hB
    go_wp2_with (go_at_call 32; refine HM.out.mono ?_; rintro e w5 h5; obtain ⟨hyes, -, hb5⟩ := h5; obtain ⟨ug, vg, sg, rfl, ho⟩ := hyes HYES.out; obtain ⟨A9, n9, c9, B9, m9, d9, C9, s9, t9, rfl, rfl, rfl⟩ := form3 ho; have hx5 := HX1.out.below hb5 (by have := HSW.out; omega); have c0 := hx5.cell0; have c1 := hx5.cell1; have c2 := hx5.cell2; have f0 := hx5.free 0; have f1 := hx5.free 1; have f2 := hx5.free 2)
    have e2 := ((hx5.set0 (.slice A9 n9 c9)).set1 (.slice B9 m9 d9)).set2 (.slice C9 s9 t9)
    have hb1W : b1 < W.heap.size := by have := HSW.out; omega
    have ho2 := (((ho.off_ hb1W 0 (.slice A9 n9 c9)).off_ hb1W 1 (.slice B9 m9 d9)).off_ hb1W 2 (.slice C9 s9 t9)).mono (by have := HB1.out; omega : b0 ≤ W.heap.size)
    refine bodyPost_ret (v := .tuple #[.agg #[.slice A9 n9 c9, .slice B9 m9 d9, .slice C9 s9 t9], .int .i64 0]) ?_ ?_ ?_
    · exact results_row_tmp Tryd.results23 _ _ b1 _ _ rfl rfl (run_loadVar_row _ _ _ _ _ _ _ e2 Tryd.underlying26 rfl size_gauss)
    · rfl
    · have hb := HBW.out.trans (hb5.mono (by have := HSW.out; have := HB1.out; omega))
      exact ⟨_, _, _, by rw [HYES.out], ho2, ((hb.setCell (p := ⟨b1, 0, none⟩) (by show b0 ≤ b1; have := HB1.out; omega) _).setCell (p := ⟨b1, 1, none⟩) (by show b0 ≤ b1; have := HB1.out; omega) _).setCell (p := ⟨b1, 2, none⟩) (by show b0 ≤ b1; have := HB1.out; omega) _⟩
end Go.Proofs.YtbbhdghjmofooaaDoor
