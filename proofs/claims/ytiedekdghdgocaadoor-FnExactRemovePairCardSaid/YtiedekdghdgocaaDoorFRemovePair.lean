/- behindMove at the move secondOpposite. -/
/- RemovePair: the program's contract. -/
import Derived.Test.YtiedekdghdgocaaDoorBehind
import Derived.Test.YtiedekdghdgocaaDoorMRemovePair
namespace Go.Proofs.YtiedekdghdgocaaDoor
open Go.RowKit
set_option linter.unusedVariables false
set_option linter.unusedSimpArgs false
set_option maxRecDepth 100000

set_option maxHeartbeats 16000000 in
theorem behindRemovePair (A B C : Option Addr) (n c m d q f : Nat) (ws hs ss : List Int) (i : Int) (k : Int) (r : Trip × Int) (w : World) (hr : RdGB w w.heap.size A n B m C q ws hs ss) (hwf : WfG ws hs ss) (hf : FewG ws hs ss) (hg : w.cell? ⟨0, 0, none⟩ = some (.iface 100 (.agg #[.pointer (some ⟨1, 55, none⟩)])))
    (hno : gaussB ws hs ss = false → r = (([], [], []), 1)) (hyes : gaussB ws hs ss = true → ∀ (lo kb : Nat) (L : List Nd) (ars : List Nat) (av : Value) (w : World), KnotW w lo kb L ars av ws hs ss → ars.length = hs.length → lo ≤ w.heap.size → Calls Tryd.prog 88 #[.agg #[.int .i64 i, .int .i64 k], ptr kb] w (MadeIn kb lo r w)) :
    Calls Tryd.prog 21 #[.agg #[.slice A n c, .slice B m d, .slice C q f], .iface 50 (.agg #[.int .i64 i, .int .i64 k])] w (Behind r w) := by

  have hmf : ∀ (fn : Fn) (first cap : Array Value) (w : World), (Instr.makeFunc fn first cap).run Tryd.prog w = .ok (.func fn first cap) w := fun _ _ _ _ => rfl
  have hw0 : 0 < w.heap.size := by
    rcases Nat.eq_zero_or_pos w.heap.size with h0 | h
    · simp [World.cell?, h0] at hg
    · exact h
  obtain ⟨b0, hb0⟩ : ∃ b, b = w.heap.size := ⟨_, rfl⟩
  obtain ⟨b1, hb1⟩ : ∃ b, b = b0 + 1 := ⟨_, rfl⟩
  obtain ⟨b2, hb2⟩ : ∃ b, b = b1 + 1 := ⟨_, rfl⟩
  obtain ⟨V, hV⟩ : ∃ V, V = w.alloc (.cells #[.slice A n c, .slice B m d, .slice C q f] 26) := ⟨_, rfl⟩
  obtain ⟨V1, hV1⟩ : ∃ V1, V1 = V.alloc (.cells #[.slice none 0 0, .slice none 0 0, .slice none 0 0] 26) := ⟨_, rfl⟩
  obtain ⟨W, hW⟩ : ∃ W, W = V1.alloc (.cells #[.int .i64 0] 2) := ⟨_, rfl⟩
  have s0 : V.heap.size = b1 := by rw [hV, World.size_alloc, ← hb0, hb1]
  have s1 : V1.heap.size = b2 := by rw [hV1, World.size_alloc, s0, hb2]
  have hsW : W.heap.size = b2 + 1 := by rw [hW, World.size_alloc, s1]
  have k0 : Below b0 w V := by rw [hV, hb0]; exact below_alloc _ _
  have k1 : Below b1 V V1 := by rw [hV1, ← s0]; exact below_alloc _ _
  have k2 : Below b2 V1 W := by rw [hW, ← s1]; exact below_alloc _ _
  have x0 : Box3 V b0 26 (.slice A n c) (.slice B m d) (.slice C q f) := by rw [hV, hb0]; exact box3_new _ _ _ _ _
  have x1 : Box3 V1 b1 26 (.slice none 0 0) (.slice none 0 0) (.slice none 0 0) := by rw [hV1, ← s0]; exact box3_new _ _ _ _ _
  have x2 : W.heap[b2]? = some (.cells #[.int .i64 0] 2 (0, 0)) := by rw [hW, ← s1]; exact heap_alloc_new _ _
  have x0' := (x0.below k1 (by omega)).below k2 (by omega)
  have x1' := x1.below k2 (by omega)
  have hbW : Below b0 w W := (k0.trans (k1.mono (by omega))).trans (k2.mono (by omega))
  have HR : Hid (RdGB W b0 A n B m C q ws hs ss) := Lib.hid (by rw [hb0]; exact hr.below (by rw [← hb0]; exact hbW))
  have HX0 := Lib.hid x0'
  have HX1 := Lib.hid x1'
  have HX2 := Lib.hid x2
  have HBW := Lib.hid hbW
  have HSW := Lib.hid hsW
  have HB0 := Lib.hid hb0
  have HB1 := Lib.hid hb1
  have HB2 := Lib.hid hb2
  have HWF := Lib.hid hwf
  have HNOR := Lib.hid hno
  have HYESR := Lib.hid hyes
  have HF := Lib.hid hf
  have HL : Hid (ws.length = n ∧ hs.length = m ∧ ss.length = q) := Lib.hid ⟨hr.1.1, hr.2.1.1, hr.2.2.1⟩
  have HGW : Hid (W.cell? ⟨0, 0, none⟩ = some (.iface 100 (.agg #[.pointer (some ⟨1, 55, none⟩)]))) := Lib.hid ((hbW.cell (p := ⟨0, 0, none⟩) (by show 0 < b0; omega)).trans hg)
  have HW : Hid (W = ((w.alloc (.cells #[.slice A n c, .slice B m d, .slice C q f] 26)).alloc (.cells #[.slice none 0 0, .slice none 0 0, .slice none 0 0] 26)).alloc (.cells #[.int .i64 0] 2)) := Lib.hid (by rw [hW, hV1, hV])
  have q0 := x0'.cell0
  have q1 := x0'.cell1
  have q2 := x0'.cell2
  have hl01 : b0 < b1 := by omega
  have hl12 : b1 < b2 := by omega
  clear hV hV1 hW s0 s1 hsW k0 k1 k2 x0 x1 x2 x0' x1' hbW hr hg hb1 hb2 hwf hf hno hyes
  rcases hB : gaussB ws hs ss with _ | _
  · have HNO := Lib.hid hB
    clear hB hb0
    go_enter_defers Tryd.func21, Tryd.ntmps21
    go_upto_region 2 with fail
    rw [← HB0.out, ← HB1.out, ← HB2.out, ← HW.out]
    have HRW : Hid (RdGB W W.heap.size A n B m C q ws hs ss) := Lib.hid ⟨(HR.out.1).up_ (by have := HSW.out; omega), (HR.out.2.1).up_ (by have := HSW.out; omega), (HR.out.2.2).up_ (by have := HSW.out; omega)⟩
    go_wp2_with (first | (go_at_call 34; refine (implGauss_any _ _ _ _ _ _ _ _ _ ws hs ss _ HRW.out HWF.out HF.out).mono ?_; rintro e w5 ⟨rfl, hb5⟩; rw [HNO.out]) | (go_at_call 33; refine (demand_no _ _).mono ?_; rintro e w6 ⟨rfl, rfl⟩))
    have hsW := HSW.out
    have hx1 := HX1.out.below hb5 (by omega)
    have hcell : w6.heap[b2]? = some (.cells #[.int .i64 0] 2 (0, 0)) := (hb5.block _ (by omega)).trans HX2.out
    have hcl : w6.cell? ⟨b2, 0, none⟩ = some (.int .i64 0) := by rw [cell_of_row w6 _ 0 _ _ _ hcell]; rfl
    have hfz : w6.frozen? ⟨b2, 0, none⟩ = false := by simp [World.frozen?, hcell]
    have hg6 := (hb5.cell (p := ⟨0, 0, none⟩) (by show 0 < W.heap.size; omega)).trans HGW.out
    try dsimp only
    refine leaves_cons (f := 31) (args := #[.pointer (some ⟨b2, 0, none⟩)]) (by simp) (by simp [go_sem]) ?_
    refine (mcatch_panicking ⟨b2, 0, none⟩ 0 1 [] _ hcl hfz hg6).mono ?_
    rintro e u' wz ⟨rfl, rfl, w7, hb7, hwz⟩
    have h67 := hb5.size
    have hx2 := (hx1.below hb7 (by omega)).other ⟨b2, 0, none⟩ (.int .i64 1) (by show b1 ≠ b2; omega)
    rw [← hwz] at hx2
    have c0 := hx2.cell0
    have c1 := hx2.cell1
    have c2 := hx2.cell2
    have hc7 : w7.cell? ⟨b2, 0, none⟩ = some (.int .i64 0) := (hb7.cell (p := ⟨b2, 0, none⟩) (by show b2 < w6.heap.size; omega)).trans hcl
    have c3 : wz.cell? ⟨b2, 0, none⟩ = some (.int .i64 1) := by rw [hwz]; exact World.cell?_setCell_one hc7 _
    have HBZ : Below b0 w wz := by
      rw [hwz]; exact ((HBW.out.trans (hb5.mono (by omega))).trans (hb7.mono (by omega))).setCell (by show b0 ≤ b2; omega) _
    clear hwz
    simp [Leaves, settle, results, Tryd.results21, go_sem, c0, c1, c2, c3]
    have hr1 := HNOR.out HNO.out
    subst hr1
    exact ⟨(fun h => by cases h), fun _ => rfl, by rw [← HB0.out]; exact HBZ⟩
  · have HYES := Lib.hid hB
    clear hB hb0
    have HRW : Hid (RdGB W W.heap.size A n B m C q ws hs ss) := Lib.hid ⟨(HR.out.1).up_ (by have := HSW.out; omega), (HR.out.2.1).up_ (by have := HSW.out; omega), (HR.out.2.2).up_ (by have := HSW.out; omega)⟩
    go_enter_defers Tryd.func21, Tryd.ntmps21
    go_upto_region 2 with fail
    rw [← HB0.out, ← HB1.out, ← HB2.out, ← HW.out]
    go_upto_region 3 with (first | (go_at_call 34; refine (implGauss_any _ _ _ _ _ _ _ _ _ ws hs ss _ HRW.out HWF.out HF.out).mono ?_; rintro e w5 ⟨rfl, hb5⟩; rw [HYES.out]) | (go_at_call 33; refine (demand_yes _ _).mono ?_; rintro e w6 ⟨rfl, rfl⟩))
    have hsW := HSW.out
    have hs5 := hb5.size
    have hx0 := HX0.out.below hb5 (by omega)
    clear q0 q1 q2
    have q0 := hx0.cell0
    have q1 := hx0.cell1
    have q2 := hx0.cell2
    have HB5 := Lib.hid hb5
    have HK := Lib.hid (knotOf_any A B C n c m d q f ws hs ss _ ((HRW.out.below hb5).rd hb5.size) HYES.out)
    clear hb5 hx0
    go_upto_region 4 with (go_at_call 35; refine HK.out.mono ?_; rintro e w7 ⟨kb, L, ars, av, rfl, hkw, hal, hb7⟩)
    have hs7 := hb7.size
    have HB7 := Lib.hid hb7
    have HMI := Lib.hid (HYESR.out HYES.out w6.heap.size kb L ars av w7 hkw hal hs7)
    clear hkw hal hb7 q0 q1 q2
    have hmeth : ∀ (n : Nat) (w : World), (Go.method (n + 1) 50 (.agg #[.int .i64 i, .int .i64 k]) "loop.example/g01303/impl.makeIn").run Tryd.prog w = .ok (88, .agg #[.int .i64 i, .int .i64 k]) w := fun _ _ => by kernel_rfl
    unfold ptr at HMI ⊢
    by_cases hz : r.2 = 0
    · have HZ := Lib.hid hz
      clear hz
      go_upto_region 5 with (go_at_call 88; refine HMI.out.mono ?_; rintro e w8 h8; obtain ⟨h81, -, hb8⟩ := h8; obtain ⟨he8, L8, av8, X8, hd8, sg8, hkx, hxl, hgn⟩ := h81 HZ.out; subst he8)
      have hs8 := hb8.size
      have hx1 := ((HX1.out.below HB5.out (by omega)).below HB7.out (by omega)).below hb8 (by omega)
      have hcell : w8.heap[b2]? = some (.cells #[.int .i64 0] 2 (0, 0)) := (hb8.block _ (by omega)).trans ((HB7.out.block _ (by omega)).trans ((HB5.out.block _ (by omega)).trans HX2.out))
      have HB8 : Hid (Below b0 w w8) := Lib.hid (((HBW.out.trans (HB5.out.mono (by omega))).trans (HB7.out.mono (by omega))).trans (hb8.mono (by omega)))
      have HGA := Lib.hid (gauss_any L8 kb av8 X8 hd8 sg8 w8 hkx hxl)
      have HGN := Lib.hid hgn
      have HX8 := Lib.hid hx1
      have HC8 := Lib.hid hcell
      have hb28 : b2 < w8.heap.size := by omega
      clear hkx hgn hxl hx1 hcell hb8 hmeth HK HMI
      unfold ptr at HGA
      go_wp2_with (go_at_call 36; refine HGA.out.mono ?_; rintro e w9 ⟨ug, vg, sg, rfl, ho9, hb9⟩; obtain ⟨A9, n9, c9, B9, m9, d9, C9, s9, t9, rfl, rfl, rfl⟩ := form3 ho9; have hx9 := HX8.out.below hb9 (by omega); have c0 := hx9.cell0; have c1 := hx9.cell1; have c2 := hx9.cell2; have f0 := hx9.free 0; have f1 := hx9.free 1; have f2 := hx9.free 2; have hcell9 : w9.heap[b2]? = some (.cells #[.int .i64 0] 2 (0, 0)) := (hb9.block _ hb28).trans HC8.out; have c3 : w9.cell? ⟨b2, 0, none⟩ = some (.int .i64 0) := (by rw [cell_of_row w9 _ 0 _ _ _ hcell9]; rfl); have f3 : w9.frozen? ⟨b2, 0, none⟩ = false := (by simp [World.frozen?, hcell9]))
      have hs89 := hb9.size
      have hb18 : b1 < w8.heap.size := by omega
      have ho10 : OwnG w9 w8.heap.size (.slice A9 n9 c9) (.slice B9 m9 d9) (.slice C9 s9 t9) r.1.1 r.1.2.1 r.1.2.2 := by
        rw [← HGN.out]; exact ho9
      refine leaves_cons (f := 31) (args := #[.pointer (some ⟨b2, 0, none⟩)]) (by simp) (by simp [go_sem]) ?_
      refine (mcatch_idle ⟨b2, 0, none⟩ _).mono ?_
      rintro e u' wz ⟨rfl, rfl, hwz⟩
      have hx2 := (((hx9.set0 (.slice A9 n9 c9)).set1 (.slice B9 m9 d9)).set2 (.slice C9 s9 t9)).other ⟨b2, 0, none⟩ (.int .i64 0) (by show b1 ≠ b2; omega)
      rw [← hwz] at hx2
      have d0 := hx2.cell0
      have d1 := hx2.cell1
      have d2 := hx2.cell2
      have v3 : (((w9.setCell ⟨b1, 0, none⟩ (.slice A9 n9 c9)).setCell ⟨b1, 1, none⟩ (.slice B9 m9 d9)).setCell ⟨b1, 2, none⟩ (.slice C9 s9 t9)).heap[b2]? = some (.cells #[.int .i64 0] 2 (0, 0)) := by
        rw [Below.heap_setCell _ _ _ _ (by show b2 ≠ b1; omega), Below.heap_setCell _ _ _ _ (by show b2 ≠ b1; omega), Below.heap_setCell _ _ _ _ (by show b2 ≠ b1; omega)]
        exact hcell9
      have d3 : wz.cell? ⟨b2, 0, none⟩ = some (.int .i64 0) := by
        rw [hwz]; exact World.cell?_setCell_one (cell_of_row _ b2 0 _ _ _ v3) _
      have HBZ : Below b0 w wz := by
        rw [hwz]; exact ((((HB8.out.trans (hb9.mono (by omega))).setCell (by show b0 ≤ b1; omega) _).setCell (by show b0 ≤ b1; omega) _).setCell (by show b0 ≤ b1; omega) _).setCell (by show b0 ≤ b2; omega) _
      have HOG : OwnG wz b0 (.slice A9 n9 c9) (.slice B9 m9 d9) (.slice C9 s9 t9) r.1.1 r.1.2.1 r.1.2.2 := by
        rw [hwz]; exact ((((ho10.off_ hb18 _ _).off_ hb18 _ _).off_ hb18 _ _).off_ hb28 _ _).mono (by omega)
      clear hwz
      simp [Leaves, settle, results, Tryd.results21, go_sem, d0, d1, d2, d3]
      exact ⟨fun _ => ⟨_, _, _, rfl, by rw [← HB0.out]; exact HOG⟩, fun h => absurd HZ.out h, by rw [← HB0.out]; exact HBZ⟩
    · have HZ := Lib.hid hz
      clear hz
      go_wp2_with (go_at_call 88; refine HMI.out.mono ?_; rintro e w8 h8; obtain ⟨-, h82, hb8⟩ := h8; obtain rfl := h82 HZ.out)
      have hsW := HSW.out
      have hs8 := hb8.size
      have hx1 := ((HX1.out.below HB5.out (by omega)).below HB7.out (by omega)).below hb8 (by omega)
      have hcell : w8.heap[b2]? = some (.cells #[.int .i64 0] 2 (0, 0)) := (hb8.block _ (by omega)).trans ((HB7.out.block _ (by omega)).trans ((HB5.out.block _ (by omega)).trans HX2.out))
      have hcl : w8.cell? ⟨b2, 0, none⟩ = some (.int .i64 0) := by rw [cell_of_row w8 _ 0 _ _ _ hcell]; rfl
      have hfz : w8.frozen? ⟨b2, 0, none⟩ = false := by simp [World.frozen?, hcell]
      have hg6 := (hb8.cell (p := ⟨0, 0, none⟩) (by show 0 < w6.heap.size; omega)).trans ((HB7.out.cell (p := ⟨0, 0, none⟩) (by show 0 < w6.heap.size; omega)).trans ((HB5.out.cell (p := ⟨0, 0, none⟩) (by show 0 < W.heap.size; omega)).trans HGW.out))
      try dsimp only
      refine leaves_cons (f := 31) (args := #[.pointer (some ⟨b2, 0, none⟩)]) (by simp) (by simp [go_sem]) ?_
      refine (mcatch_panicking ⟨b2, 0, none⟩ 0 r.2 [] _ hcl hfz hg6).mono ?_
      rintro e u' wz ⟨rfl, rfl, w7, hb7, hwz⟩
      have h67 := hb8.size
      have hx2 := (hx1.below hb7 (by omega)).other ⟨b2, 0, none⟩ (.int .i64 r.2) (by show b1 ≠ b2; omega)
      rw [← hwz] at hx2
      have c0 := hx2.cell0
      have c1 := hx2.cell1
      have c2 := hx2.cell2
      have hc7 : w7.cell? ⟨b2, 0, none⟩ = some (.int .i64 0) := (hb7.cell (p := ⟨b2, 0, none⟩) (by show b2 < w8.heap.size; omega)).trans hcl
      have c3 : wz.cell? ⟨b2, 0, none⟩ = some (.int .i64 r.2) := by rw [hwz]; exact World.cell?_setCell_one hc7 _
      have HBZ : Below b0 w wz := by
        rw [hwz]; exact ((((HBW.out.trans (HB5.out.mono (by omega))).trans (HB7.out.mono (by omega))).trans (hb8.mono (by omega))).trans (hb7.mono (by omega))).setCell (by show b0 ≤ b2; omega) _
      clear hwz
      simp [Leaves, settle, results, Tryd.results21, go_sem, c0, c1, c2, c3]
      exact ⟨fun h => absurd h HZ.out, fun _ => rfl, by rw [← HB0.out]; exact HBZ⟩
end Go.Proofs.YtiedekdghdgocaaDoor

namespace Go.Proofs.YtiedekdghdgocaaDoor
open Go.RowKit
set_option linter.unusedVariables false
set_option linter.unusedSimpArgs false
set_option maxRecDepth 100000

set_option maxHeartbeats 3200000 in
theorem implRemovePair_any (A B C : Option Addr) (n c m d q f : Nat) (ws hs ss : List Int) (i : Int) (k : Int) (w : World) (hr : RdGB w w.heap.size A n B m C q ws hs ss) (hwf : WfG ws hs ss) (hf : FewG ws hs ss) (hii : -9223372036854775808 ≤ i ∧ i ≤ 9223372036854775807) (hik : -9223372036854775808 ≤ k ∧ k ≤ 9223372036854775807) (hg : w.cell? ⟨0, 0, none⟩ = some (.iface 100 (.agg #[.pointer (some ⟨1, 55, none⟩)]))) :
    GaveG 13 #[.agg #[.slice A n c, .slice B m d, .slice C q f], .int .i64 i, .int .i64 k] w (removePairOf ws hs ss i k) := by

  have hw0 : 0 < w.heap.size := by
    rcases Nat.eq_zero_or_pos w.heap.size with h0 | h
    · simp [World.cell?, h0] at hg
    · exact h
  obtain ⟨b0, hb0⟩ : ∃ b, b = w.heap.size := ⟨_, rfl⟩
  obtain ⟨b1, hb1⟩ : ∃ b, b = b0 + 1 := ⟨_, rfl⟩
  obtain ⟨V, hV⟩ : ∃ V, V = w.alloc (.cells #[.slice A n c, .slice B m d, .slice C q f] 26) := ⟨_, rfl⟩
  obtain ⟨W, hW⟩ : ∃ W, W = V.alloc (.cells #[.slice none 0 0, .slice none 0 0, .slice none 0 0] 26) := ⟨_, rfl⟩
  have s0 : V.heap.size = b1 := by rw [hV, World.size_alloc, ← hb0, hb1]
  have hsW : W.heap.size = b1 + 1 := by rw [hW, World.size_alloc, s0]
  have k0 : Below b0 w V := by rw [hV, hb0]; exact below_alloc _ _
  have k1 : Below b1 V W := by rw [hW, ← s0]; exact below_alloc _ _
  have x0 : Box3 V b0 26 (.slice A n c) (.slice B m d) (.slice C q f) := by rw [hV, hb0]; exact box3_new _ _ _ _ _
  have x1 : Box3 W b1 26 (.slice none 0 0) (.slice none 0 0) (.slice none 0 0) := by rw [hW, ← s0]; exact box3_new _ _ _ _ _
  have x0' := x0.below k1 (by omega)
  have hbW : Below b0 w W := k0.trans (k1.mono (by omega))
  have hgW := (hbW.cell (p := ⟨0, 0, none⟩) (by show 0 < b0; omega)).trans hg
  have hrW : RdGB W W.heap.size A n B m C q ws hs ss := (hr.below (by rw [← hb0]; exact hbW)).rd hbW.size
  obtain ⟨r, hre⟩ : ∃ r, r = removePairOf ws hs ss i k := ⟨_, rfl⟩
  have HM := Lib.hid (behindRemovePair A B C n c m d q f ws hs ss i k r W hrW hwf hf hgW (fun hG9 => by rw [hre]; exact removePairOf_no hG9) (fun hG9 lo kb L ars av w hk hl hlo => by rw [hre]; exact makesRemovePair lo kb L ars av ws hs ss i k w hk hG9 hl hlo hii hik))
  have HRE := Lib.hid (show r.2 ≠ 0 → r.1 = ([], [], []) from by rw [hre]; exact removePairOf_err)
  rw [← hre]
  clear hre
  have HX1 := Lib.hid x1
  have HBW := Lib.hid hbW
  have HSW := Lib.hid hsW
  have HB0 := Lib.hid hb0
  have HB1 := Lib.hid hb1
  have HW : Hid (W = (w.alloc (.cells #[.slice A n c, .slice B m d, .slice C q f] 26)).alloc (.cells #[.slice none 0 0, .slice none 0 0, .slice none 0 0] 26)) := Lib.hid (by rw [hW, hV])
  have q0 := x0'.cell0
  have q1 := x0'.cell1
  have q2 := x0'.cell2
  clear hV hW s0 hsW k0 k1 x0 x1 x0' hbW hr hg hb1 hwf hf hgW hrW
  unfold GaveG
  rw [← HB0.out]
  clear hb0
  go_enter Tryd.func13, Tryd.ntmps13
  go_upto_region 1 with fail
  rw [← HB0.out, ← HB1.out, ← HW.out]
  by_cases hB : r.2 = 0
  case neg =>
    have HNO := Lib.hid hB
    have HR1 := Lib.hid (HRE.out hB)
    clear hB
    go_wp2_with (go_at_call 21; refine HM.out.mono ?_; rintro e w5 h5; obtain ⟨-, hno, hb5⟩ := h5; have he := hno HNO.out; subst he; have hx5 := HX1.out.below hb5 (by have := HSW.out; omega); have c0 := hx5.cell0; have c1 := hx5.cell1; have c2 := hx5.cell2; have f0 := hx5.free 0; have f1 := hx5.free 1; have f2 := hx5.free 2)
    have e2 := ((hx5.set0 (.slice none 0 0)).set1 (.slice none 0 0)).set2 (.slice none 0 0)
    refine bodyPost_ret (v := .tuple #[.agg #[.slice none 0 0, .slice none 0 0, .slice none 0 0], .int .i64 r.2]) ?_ ?_ ?_
    · exact results_row_tmp Tryd.results13 _ _ b1 _ _ rfl rfl (run_loadVar_row _ _ _ _ _ _ _ e2 Tryd.underlying26 rfl size_gauss)
    · rfl
    · have hb := HBW.out.trans (hb5.mono (by have := HSW.out; have := HB1.out; omega))
      exact ⟨_, _, _, rfl, by rw [HR1.out]; exact OwnG.nil_ _ _, ((hb.setCell (p := ⟨b1, 0, none⟩) (by show b0 ≤ b1; have := HB1.out; omega) _).setCell (p := ⟨b1, 1, none⟩) (by show b0 ≤ b1; have := HB1.out; omega) _).setCell (p := ⟨b1, 2, none⟩) (by show b0 ≤ b1; have := HB1.out; omega) _⟩
  case pos =>
    have HYES := Lib.hid hB
    clear hB
    go_wp2_with (go_at_call 21; refine HM.out.mono ?_; rintro e w5 h5; obtain ⟨hyes, -, hb5⟩ := h5; obtain ⟨ug, vg, sg, rfl, ho⟩ := hyes HYES.out; obtain ⟨A9, n9, c9, B9, m9, d9, C9, s9, t9, rfl, rfl, rfl⟩ := form3 ho; have hx5 := HX1.out.below hb5 (by have := HSW.out; omega); have c0 := hx5.cell0; have c1 := hx5.cell1; have c2 := hx5.cell2; have f0 := hx5.free 0; have f1 := hx5.free 1; have f2 := hx5.free 2)
    have e2 := ((hx5.set0 (.slice A9 n9 c9)).set1 (.slice B9 m9 d9)).set2 (.slice C9 s9 t9)
    have hb1W : b1 < W.heap.size := by have := HSW.out; omega
    have ho2 := (((ho.off_ hb1W 0 (.slice A9 n9 c9)).off_ hb1W 1 (.slice B9 m9 d9)).off_ hb1W 2 (.slice C9 s9 t9)).mono (by have := HB1.out; omega : b0 ≤ W.heap.size)
    refine bodyPost_ret (v := .tuple #[.agg #[.slice A9 n9 c9, .slice B9 m9 d9, .slice C9 s9 t9], .int .i64 0]) ?_ ?_ ?_
    · exact results_row_tmp Tryd.results13 _ _ b1 _ _ rfl rfl (run_loadVar_row _ _ _ _ _ _ _ e2 Tryd.underlying26 rfl size_gauss)
    · rfl
    · have hb := HBW.out.trans (hb5.mono (by have := HSW.out; have := HB1.out; omega))
      exact ⟨_, _, _, by rw [HYES.out], ho2, ((hb.setCell (p := ⟨b1, 0, none⟩) (by show b0 ≤ b1; have := HB1.out; omega) _).setCell (p := ⟨b1, 1, none⟩) (by show b0 ≤ b1; have := HB1.out; omega) _).setCell (p := ⟨b1, 2, none⟩) (by show b0 ≤ b1; have := HB1.out; omega) _⟩
end Go.Proofs.YtiedekdghdgocaaDoor
