/- behindMove at the mirroring. -/
import Derived.Test.YtbbhdghjmofooaaDoorMoveDoor
import Derived.Test.YtbbhdghjmofooaaDoorKnotBridge
namespace Go.Proofs.YtbbhdghjmofooaaDoor
open Go.RowKit
set_option linter.unusedVariables false
set_option linter.unusedSimpArgs false
set_option maxRecDepth 100000

theorem Own.off_ {w : World} {lo b j : Nat} {v x : Value} {xs : List Int} (h : Own w lo v xs) (hb : b < lo) : Own (w.setCell ⟨b, j, none⟩ x) lo v xs :=
  h.kept (grown_setCell w b j x) (fun k hk e => by
    injection e with e
    have := (h.lt k hk).1
    omega)
theorem OwnG.off_ {w : World} {lo b : Nat} {u v s : Value} {ws hs ss : List Int} (h : OwnG w lo u v s ws hs ss) (hb : b < lo) (j : Nat) (x : Value) : OwnG (w.setCell ⟨b, j, none⟩ x) lo u v s ws hs ss :=
  ⟨h.word.off_ hb, h.heads.off_ hb, h.signs.off_ hb, h.uv, h.us, h.vs⟩
theorem gaussB_all {ws hs ss : List Int} (h : gaussB ws hs ss = true) : (∀ i, i < hs.length → 0 ≤ hs[i]?.getD 0 ∧ hs[i]?.getD 0 ≤ 1) ∧ (∀ i, i < ss.length → -1 ≤ ss[i]?.getD 0 ∧ ss[i]?.getD 0 ≤ 1) := by
  refine ⟨fun i hi => ?_, fun i hi => ?_⟩
  · have h1 := bitN_iff.1 (all_at (gaussB_bits h) (k := i) hi)
    omega
  · have h1 := signN_iff.1 (all_at (gaussB_signs h) (k := i) hi)
    omega
def mirrorG (ws hs ss : List Int) : Trip := gnorm ws (hs.map (fun x => 1 - x)) (ss.map (fun x => -x))
set_option maxHeartbeats 16000000 in
theorem behind_mirror (A B C : Option Addr) (n c m d q f : Nat) (ws hs ss : List Int) (w : World) (hr : RdGB w w.heap.size A n B m C q ws hs ss) (hwf : WfG ws hs ss) (hf : FewG ws hs ss) (hg : w.cell? ⟨0, 0, none⟩ = some (.iface 109 (.agg #[.pointer (some ⟨1, 64, none⟩)]))) :
    Calls Tryd.prog 32 #[.agg #[.slice A n c, .slice B m d, .slice C q f], .iface 45 (.agg #[])] w fun en w' =>
      ((gaussB ws hs ss = true → ∃ u v s, en = .returned (.tuple #[.agg #[u, v, s], .int .i64 0]) ∧ OwnG w' w.heap.size u v s (mirrorG ws hs ss).1 (mirrorG ws hs ss).2.1 (mirrorG ws hs ss).2.2) ∧
       (gaussB ws hs ss = false → en = .returned (.tuple #[.agg #[.slice none 0 0, .slice none 0 0, .slice none 0 0], .int .i64 1]))) ∧ Below w.heap.size w w' := by
  have hmf : ∀ (fn : Fn) (first cap : Array Value) (w : World), (Instr.makeFunc fn first cap).run Tryd.prog w = .ok (.func fn first cap) w := fun _ _ _ _ => rfl
  have hw0 : 0 < w.heap.size := by
    rcases Nat.eq_zero_or_pos w.heap.size with h0 | h
    · simp [World.cell?, h0] at hg
    · exact h
  obtain ⟨b0, hb0⟩ : ∃ b, b = w.heap.size := ⟨_, rfl⟩
  obtain ⟨b1, hb1⟩ : ∃ b, b = b0 + 1 := ⟨_, rfl⟩
  obtain ⟨b2, hb2⟩ : ∃ b, b = b1 + 1 := ⟨_, rfl⟩
  obtain ⟨V, hV⟩ : ∃ V, V = w.alloc (.cells #[.slice A n c, .slice B m d, .slice C q f] 26) := ⟨_, rfl⟩
  obtain ⟨V1, hV1⟩ : ∃ V1, V1 = V.alloc (.cells #[.slice none 0 0, .slice none 0 0, .slice none 0 0] 26) := ⟨_, rfl⟩
  obtain ⟨W, hW⟩ : ∃ W, W = V1.alloc (.cells #[.int .i64 0] 2) := ⟨_, rfl⟩
  have s0 : V.heap.size = b1 := by rw [hV, World.size_alloc, ← hb0, hb1]
  have s1 : V1.heap.size = b2 := by rw [hV1, World.size_alloc, s0, hb2]
  have hsW : W.heap.size = b2 + 1 := by rw [hW, World.size_alloc, s1]
  have k0 : Below b0 w V := by rw [hV, hb0]; exact below_alloc _ _
  have k1 : Below b1 V V1 := by rw [hV1, ← s0]; exact below_alloc _ _
  have k2 : Below b2 V1 W := by rw [hW, ← s1]; exact below_alloc _ _
  have x0 : Box3 V b0 26 (.slice A n c) (.slice B m d) (.slice C q f) := by rw [hV, hb0]; exact box3_new _ _ _ _ _
  have x1 : Box3 V1 b1 26 (.slice none 0 0) (.slice none 0 0) (.slice none 0 0) := by rw [hV1, ← s0]; exact box3_new _ _ _ _ _
  have x2 : W.heap[b2]? = some (.cells #[.int .i64 0] 2 (0, 0)) := by rw [hW, ← s1]; exact heap_alloc_new _ _
  have x0' := (x0.below k1 (by omega)).below k2 (by omega)
  have x1' := x1.below k2 (by omega)
  have hbW : Below b0 w W := (k0.trans (k1.mono (by omega))).trans (k2.mono (by omega))
  have HR : Hid (RdGB W b0 A n B m C q ws hs ss) := Lib.hid (by rw [hb0]; exact hr.below (by rw [← hb0]; exact hbW))
  have HX0 := Lib.hid x0'
  have HX1 := Lib.hid x1'
  have HX2 := Lib.hid x2
  have HBW := Lib.hid hbW
  have HSW := Lib.hid hsW
  have HB0 := Lib.hid hb0
  have HB1 := Lib.hid hb1
  have HB2 := Lib.hid hb2
  have HWF := Lib.hid hwf
  have HF := Lib.hid hf
  have HL : Hid (ws.length = n ∧ hs.length = m ∧ ss.length = q) := Lib.hid ⟨hr.1.1, hr.2.1.1, hr.2.2.1⟩
  have HGW : Hid (W.cell? ⟨0, 0, none⟩ = some (.iface 109 (.agg #[.pointer (some ⟨1, 64, none⟩)]))) := Lib.hid ((hbW.cell (p := ⟨0, 0, none⟩) (by show 0 < b0; omega)).trans hg)
  have HW : Hid (W = ((w.alloc (.cells #[.slice A n c, .slice B m d, .slice C q f] 26)).alloc (.cells #[.slice none 0 0, .slice none 0 0, .slice none 0 0] 26)).alloc (.cells #[.int .i64 0] 2)) := Lib.hid (by rw [hW, hV1, hV])
  have q0 := x0'.cell0
  have q1 := x0'.cell1
  have q2 := x0'.cell2
  have hl01 : b0 < b1 := by omega
  have hl12 : b1 < b2 := by omega
  clear hV hV1 hW s0 s1 hsW k0 k1 k2 x0 x1 x2 x0' x1' hbW hr hg hb1 hb2 hwf hf
  rw [← HB0.out]
  rcases hB : gaussB ws hs ss with _ | _
  · have HNO := Lib.hid hB
    clear hB hb0
    go_enter_defers Tryd.func32, Tryd.ntmps32
    go_upto_region 2 with fail
    rw [← HB0.out, ← HB1.out, ← HB2.out, ← HW.out]
    have HRW : Hid (RdGB W W.heap.size A n B m C q ws hs ss) := Lib.hid ⟨(HR.out.1).up_ (by have := HSW.out; omega), (HR.out.2.1).up_ (by have := HSW.out; omega), (HR.out.2.2).up_ (by have := HSW.out; omega)⟩
    go_wp2_with (first | (go_at_call 49; refine (implGauss_any _ _ _ _ _ _ _ _ _ ws hs ss _ HRW.out HWF.out HF.out).mono ?_; rintro e w5 ⟨rfl, hb5⟩; rw [HNO.out]) | (go_at_call 48; refine (demand_no _ _).mono ?_; rintro e w6 ⟨rfl, rfl⟩))
    have hsW := HSW.out
    have hx1 := HX1.out.below hb5 (by omega)
    have hcell : w6.heap[b2]? = some (.cells #[.int .i64 0] 2 (0, 0)) := (hb5.block _ (by omega)).trans HX2.out
    have hcl : w6.cell? ⟨b2, 0, none⟩ = some (.int .i64 0) := by rw [cell_of_row w6 _ 0 _ _ _ hcell]; rfl
    have hfz : w6.frozen? ⟨b2, 0, none⟩ = false := by simp [World.frozen?, hcell]
    have hg6 := (hb5.cell (p := ⟨0, 0, none⟩) (by show 0 < W.heap.size; omega)).trans HGW.out
    try dsimp only
    refine leaves_cons (f := 46) (args := #[.pointer (some ⟨b2, 0, none⟩)]) (by simp) (by simp [go_sem]) ?_
    refine (mcatch_panicking ⟨b2, 0, none⟩ 0 1 [] _ hcl hfz hg6).mono ?_
    rintro e u' wz ⟨rfl, rfl, w7, hb7, hwz⟩
    have h67 := hb5.size
    have hx2 := (hx1.below hb7 (by omega)).other ⟨b2, 0, none⟩ (.int .i64 1) (by show b1 ≠ b2; omega)
    rw [← hwz] at hx2
    have c0 := hx2.cell0
    have c1 := hx2.cell1
    have c2 := hx2.cell2
    have hc7 : w7.cell? ⟨b2, 0, none⟩ = some (.int .i64 0) := (hb7.cell (p := ⟨b2, 0, none⟩) (by show b2 < w6.heap.size; omega)).trans hcl
    have c3 : wz.cell? ⟨b2, 0, none⟩ = some (.int .i64 1) := by rw [hwz]; exact World.cell?_setCell_one hc7 _
    have HBZ : Below b0 w wz := by
      rw [hwz]; exact ((HBW.out.trans (hb5.mono (by omega))).trans (hb7.mono (by omega))).setCell (by show b0 ≤ b2; omega) _
    clear hwz
    simp [Leaves, settle, results, Tryd.results32, go_sem, c0, c1, c2, c3]
    exact HBZ
  · have HYES := Lib.hid hB
    clear hB hb0
    have HRW : Hid (RdGB W W.heap.size A n B m C q ws hs ss) := Lib.hid ⟨(HR.out.1).up_ (by have := HSW.out; omega), (HR.out.2.1).up_ (by have := HSW.out; omega), (HR.out.2.2).up_ (by have := HSW.out; omega)⟩
    go_enter_defers Tryd.func32, Tryd.ntmps32
    go_upto_region 2 with fail
    rw [← HB0.out, ← HB1.out, ← HB2.out, ← HW.out]
    go_upto_region 3 with (first | (go_at_call 49; refine (implGauss_any _ _ _ _ _ _ _ _ _ ws hs ss _ HRW.out HWF.out HF.out).mono ?_; rintro e w5 ⟨rfl, hb5⟩; rw [HYES.out]) | (go_at_call 48; refine (demand_yes _ _).mono ?_; rintro e w6 ⟨rfl, rfl⟩))
    have hsW := HSW.out
    have hs5 := hb5.size
    have hx0 := HX0.out.below hb5 (by omega)
    clear q0 q1 q2
    have q0 := hx0.cell0
    have q1 := hx0.cell1
    have q2 := hx0.cell2
    have HB5 := Lib.hid hb5
    have HK := Lib.hid (knotOf_any A B C n c m d q f ws hs ss _ ((HRW.out.below hb5).rd hb5.size) HYES.out)
    clear hb5 hx0
    go_upto_region 4 with (go_at_call 50; refine HK.out.mono ?_; rintro e w7 ⟨kb, L, ars, av, rfl, hkw, hal, hb7⟩)
    have hlns := gaussB_lens HYES.out
    have hall := gaussB_all HYES.out
    have hs7 := hb7.size
    have HMI := Lib.hid (mirroring_any w6.heap.size kb L ars av ws hs ss w7 hkw (by omega) hal.symm (by omega) hs7 (fun i hi => hall.1 i (by omega)) (fun i hi => hall.2 i (by omega)))
    have HB7 := Lib.hid hb7
    have HAL := Lib.hid hal
    clear hkw hal hlns hall hb7 q0 q1 q2
    have hmeth : ∀ (n : Nat) (w : World), (Go.method (n + 1) 45 (.agg #[]) "loop.example/g01303/impl.makeIn").run Tryd.prog w = .ok (100, .agg #[]) w := fun _ _ => by kernel_rfl
    unfold ptr at HMI ⊢
    go_upto_region 5 with (go_at_call 100; refine HMI.out.mono ?_; rintro e w8 ⟨rfl, hk8, hb8⟩)
    have hlns := gaussB_lens HYES.out
    have hwd := gaussB_word HYES.out
    have hal := HAL.out
    have hxs : ∀ x ∈ ws, 0 ≤ x ∧ x.toNat < ars.length := fun x hx => by
      have h1 := word_lt hwd hx
      omega
    have hkx := hk8.knotX (fun j hj => (hxs _ (by rw [List.getElem?_eq_getElem hj]; exact List.getElem_mem hj)).2)
    have hgn := gnorm_arrows (hs := hs.map (fun x => 1 - x)) (ss := ss.map (fun x => -x)) hk8.arrows.inj hxs
    have hs8 := hb8.size
    have hx1 := ((HX1.out.below HB5.out (by omega)).below HB7.out (by omega)).below hb8 (by omega)
    have hcell : w8.heap[b2]? = some (.cells #[.int .i64 0] 2 (0, 0)) := (hb8.block _ (by omega)).trans ((HB7.out.block _ (by omega)).trans ((HB5.out.block _ (by omega)).trans HX2.out))
    have HB8 : Hid (Below b0 w w8) := Lib.hid (((HBW.out.trans (HB5.out.mono (by omega))).trans (HB7.out.mono (by omega))).trans (hb8.mono (by omega)))
    have HGA := Lib.hid (gauss_any L kb av (arrowsOf ars ws) _ _ w8 hkx (by simp [arrowsOf]; omega))
    have HGN := Lib.hid hgn
    have HX8 := Lib.hid hx1
    have HC8 := Lib.hid hcell
    have hb28 : b2 < w8.heap.size := by omega
    clear hlns hwd hal hxs hkx hgn hx1 hcell hk8 hb8 hmeth HK HMI
    unfold ptr at HGA
    go_wp2_with (go_at_call 51; refine HGA.out.mono ?_; rintro e w9 ⟨ug, vg, sg, rfl, ho9, hb9⟩; obtain ⟨A9, n9, c9, B9, m9, d9, C9, s9, t9, rfl, rfl, rfl⟩ := form3 ho9; have hx9 := HX8.out.below hb9 (by omega); have c0 := hx9.cell0; have c1 := hx9.cell1; have c2 := hx9.cell2; have f0 := hx9.free 0; have f1 := hx9.free 1; have f2 := hx9.free 2; have hcell9 : w9.heap[b2]? = some (.cells #[.int .i64 0] 2 (0, 0)) := (hb9.block _ hb28).trans HC8.out; have c3 : w9.cell? ⟨b2, 0, none⟩ = some (.int .i64 0) := (by rw [cell_of_row w9 _ 0 _ _ _ hcell9]; rfl); have f3 : w9.frozen? ⟨b2, 0, none⟩ = false := (by simp [World.frozen?, hcell9]))
    have hs89 := hb9.size
    have hb18 : b1 < w8.heap.size := by omega
    have ho10 : OwnG w9 w8.heap.size (.slice A9 n9 c9) (.slice B9 m9 d9) (.slice C9 s9 t9) (mirrorG ws hs ss).1 (mirrorG ws hs ss).2.1 (mirrorG ws hs ss).2.2 := by
      unfold mirrorG; rw [← HGN.out]; exact ho9
    refine leaves_cons (f := 46) (args := #[.pointer (some ⟨b2, 0, none⟩)]) (by simp) (by simp [go_sem]) ?_
    refine (mcatch_idle ⟨b2, 0, none⟩ _).mono ?_
    rintro e u' wz ⟨rfl, rfl, hwz⟩
    have hx2 := (((hx9.set0 (.slice A9 n9 c9)).set1 (.slice B9 m9 d9)).set2 (.slice C9 s9 t9)).other ⟨b2, 0, none⟩ (.int .i64 0) (by show b1 ≠ b2; omega)
    rw [← hwz] at hx2
    have d0 := hx2.cell0
    have d1 := hx2.cell1
    have d2 := hx2.cell2
    have v3 : (((w9.setCell ⟨b1, 0, none⟩ (.slice A9 n9 c9)).setCell ⟨b1, 1, none⟩ (.slice B9 m9 d9)).setCell ⟨b1, 2, none⟩ (.slice C9 s9 t9)).heap[b2]? = some (.cells #[.int .i64 0] 2 (0, 0)) := by
      rw [Below.heap_setCell _ _ _ _ (by show b2 ≠ b1; omega), Below.heap_setCell _ _ _ _ (by show b2 ≠ b1; omega), Below.heap_setCell _ _ _ _ (by show b2 ≠ b1; omega)]
      exact hcell9
    have d3 : wz.cell? ⟨b2, 0, none⟩ = some (.int .i64 0) := by
      rw [hwz]; exact World.cell?_setCell_one (cell_of_row _ b2 0 _ _ _ v3) _
    have HBZ : Below b0 w wz := by
      rw [hwz]; exact ((((HB8.out.trans (hb9.mono (by omega))).setCell (by show b0 ≤ b1; omega) _).setCell (by show b0 ≤ b1; omega) _).setCell (by show b0 ≤ b1; omega) _).setCell (by show b0 ≤ b2; omega) _
    have HOG : OwnG wz b0 (.slice A9 n9 c9) (.slice B9 m9 d9) (.slice C9 s9 t9) (mirrorG ws hs ss).1 (mirrorG ws hs ss).2.1 (mirrorG ws hs ss).2.2 := by
      rw [hwz]; exact ((((ho10.off_ hb18 _ _).off_ hb18 _ _).off_ hb18 _ _).off_ hb28 _ _).mono (by omega)
    clear hwz
    simp [Leaves, settle, results, Tryd.results32, go_sem, d0, d1, d2, d3]
    exact ⟨⟨_, _, _, ⟨rfl, rfl, rfl⟩, HOG⟩, HBZ⟩
end Go.Proofs.YtbbhdghjmofooaaDoor
