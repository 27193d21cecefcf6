/- MirrorGauss: the program's contract. -/
import Derived.Test.YtbbhdghjmofooaaDoorMirror
import Derived.Test.YtbbhdghjmofooaaDoorPure4
namespace Go.Proofs.YtbbhdghjmofooaaDoor
open Go.RowKit
set_option linter.unusedVariables false
set_option linter.unusedSimpArgs false
set_option maxRecDepth 100000

/-- a Gauss word is in order already -/
theorem met_word {ws : List Int} (h : isWord ws = true) : met ws = upTo (ws.length / 2) := by
  have h0 := (met_norm ws).1
  rw [isWord_norm h] at h0
  obtain ⟨L, hL⟩ : ∃ L, L = (met ws).length := ⟨_, rfl⟩
  rw [← hL] at h0
  have hl : L = ws.length / 2 := by
    rcases Nat.lt_trichotomy L (ws.length / 2) with hlt | he | hgt
    · have h4 : (L : Int) ∈ met ws := (met_mem ws _).2 (word_mem h (by omega) (by omega))
      rw [h0, upTo_mem] at h4
      omega
    · exact he
    · have h4 : ((ws.length / 2 : Nat) : Int) ∈ met ws := by rw [h0, upTo_mem]; omega
      have h5 := word_lt h ((met_mem ws _).1 h4)
      omega
  rw [h0, hl]
theorem gnorm_word {ws hs ss : List Int} (h : isWord ws = true) (hh : hs.length = ws.length / 2) (hs' : ss.length = ws.length / 2) : gnorm ws hs ss = (ws, hs, ss) := by
  have hp : ∀ zs : List Int, zs.length = ws.length / 2 → (upTo (ws.length / 2)).map (pickI zs) = zs := fun zs hz => by
    refine List.ext_getElem (by simp [upTo, hz]) (fun i h1 h2 => ?_)
    simp [upTo, pickI, h2]
  unfold gnorm
  rw [isWord_norm h, met_word h, hp hs hh, hp ss hs']
def mirrorOf (ws hs ss : List Int) : Trip × Int := if gaussB ws hs ss then ((ws, hs.map (fun x => 1 - x), ss.map (fun x => -x)), 0) else (([], [], []), 1)
theorem mirrorOf_no {ws hs ss : List Int} (h : gaussB ws hs ss = false) : mirrorOf ws hs ss = (([], [], []), 1) := by unfold mirrorOf; rw [h]; rfl
theorem mirrorOf_yes {ws hs ss : List Int} (h : gaussB ws hs ss = true) : mirrorOf ws hs ss = ((ws, hs.map (fun x => 1 - x), ss.map (fun x => -x)), 0) := by unfold mirrorOf; rw [h]; rfl
theorem mirrorOf_few {ws hs ss : List Int} (h : needG ws hs ss ≤ 1048576) : FewG (mirrorOf ws hs ss).1.1 (mirrorOf ws hs ss).1.2.1 (mirrorOf ws hs ss).1.2.2 := by
  unfold FewG mirrorOf
  split
  · unfold needG at h ⊢
    simpa using h
  · unfold needG; simp
theorem mirrorG_word {ws hs ss : List Int} (h : gaussB ws hs ss = true) : mirrorG ws hs ss = (ws, hs.map (fun x => 1 - x), ss.map (fun x => -x)) := by
  have hl := gaussB_lens h
  exact gnorm_word (gaussB_word h) (by simpa using hl.2.1) (by simpa using hl.2.2)
set_option maxHeartbeats 3200000 in
theorem implMirrorGauss_any (A B C : Option Addr) (n c m d q f : Nat) (ws hs ss : List Int) (w : World) (hr : RdGB w w.heap.size A n B m C q ws hs ss) (hwf : WfG ws hs ss) (hf : FewG ws hs ss) (hg : w.cell? ⟨0, 0, none⟩ = some (.iface 109 (.agg #[.pointer (some ⟨1, 64, none⟩)]))) :
    GaveG 17 #[.agg #[.slice A n c, .slice B m d, .slice C q f]] w (mirrorOf ws hs ss) := by
  have hw0 : 0 < w.heap.size := by
    rcases Nat.eq_zero_or_pos w.heap.size with h0 | h
    · simp [World.cell?, h0] at hg
    · exact h
  obtain ⟨b0, hb0⟩ : ∃ b, b = w.heap.size := ⟨_, rfl⟩
  obtain ⟨b1, hb1⟩ : ∃ b, b = b0 + 1 := ⟨_, rfl⟩
  obtain ⟨V, hV⟩ : ∃ V, V = w.alloc (.cells #[.slice A n c, .slice B m d, .slice C q f] 26) := ⟨_, rfl⟩
  obtain ⟨W, hW⟩ : ∃ W, W = V.alloc (.cells #[.slice none 0 0, .slice none 0 0, .slice none 0 0] 26) := ⟨_, rfl⟩
  have s0 : V.heap.size = b1 := by rw [hV, World.size_alloc, ← hb0, hb1]
  have hsW : W.heap.size = b1 + 1 := by rw [hW, World.size_alloc, s0]
  have k0 : Below b0 w V := by rw [hV, hb0]; exact below_alloc _ _
  have k1 : Below b1 V W := by rw [hW, ← s0]; exact below_alloc _ _
  have x0 : Box3 V b0 26 (.slice A n c) (.slice B m d) (.slice C q f) := by rw [hV, hb0]; exact box3_new _ _ _ _ _
  have x1 : Box3 W b1 26 (.slice none 0 0) (.slice none 0 0) (.slice none 0 0) := by rw [hW, ← s0]; exact box3_new _ _ _ _ _
  have x0' := x0.below k1 (by omega)
  have hbW : Below b0 w W := k0.trans (k1.mono (by omega))
  have hgW := (hbW.cell (p := ⟨0, 0, none⟩) (by show 0 < b0; omega)).trans hg
  have hrW : RdGB W W.heap.size A n B m C q ws hs ss := (hr.below (by rw [← hb0]; exact hbW)).rd hbW.size
  have HM := Lib.hid (behind_mirror A B C n c m d q f ws hs ss W hrW hwf hf hgW)
  have HX1 := Lib.hid x1
  have HBW := Lib.hid hbW
  have HSW := Lib.hid hsW
  have HB0 := Lib.hid hb0
  have HB1 := Lib.hid hb1
  have HW : Hid (W = (w.alloc (.cells #[.slice A n c, .slice B m d, .slice C q f] 26)).alloc (.cells #[.slice none 0 0, .slice none 0 0, .slice none 0 0] 26)) := Lib.hid (by rw [hW, hV])
  have q0 := x0'.cell0
  have q1 := x0'.cell1
  have q2 := x0'.cell2
  clear hV hW s0 hsW k0 k1 x0 x1 x0' hbW hr hg hb1 hwf hf hgW hrW
  unfold GaveG
  rw [← HB0.out]
  clear hb0
  go_enter Tryd.func17, Tryd.ntmps17
  go_upto_region 1 with fail
  rw [← HB0.out, ← HB1.out, ← HW.out]
  rcases hB : gaussB ws hs ss with _ | _
  · have HNO := Lib.hid hB
    clear hB
    go_wp2_with (go_at_call 32; refine HM.out.mono ?_; rintro e w5 ⟨⟨_, hno⟩, hb5⟩; have he := hno HNO.out; subst he; have hx5 := HX1.out.below hb5 (by have := HSW.out; omega); have c0 := hx5.cell0; have c1 := hx5.cell1; have c2 := hx5.cell2; have f0 := hx5.free 0; have f1 := hx5.free 1; have f2 := hx5.free 2)
    have e2 := ((hx5.set0 (.slice none 0 0)).set1 (.slice none 0 0)).set2 (.slice none 0 0)
    refine bodyPost_ret (v := .tuple #[.agg #[.slice none 0 0, .slice none 0 0, .slice none 0 0], .int .i64 1]) ?_ ?_ ?_
    · exact results_row_tmp Tryd.results17 _ _ b1 _ _ rfl rfl (run_loadVar_row _ _ _ _ _ _ _ e2 Tryd.underlying26 rfl size_gauss)
    · rfl
    · have hb := HBW.out.trans (hb5.mono (by have := HSW.out; have := HB1.out; omega))
      exact ⟨_, _, _, by rw [mirrorOf_no HNO.out], by rw [mirrorOf_no HNO.out]; exact OwnG.nil_ _ _, ((hb.setCell (p := ⟨b1, 0, none⟩) (by show b0 ≤ b1; have := HB1.out; omega) _).setCell (p := ⟨b1, 1, none⟩) (by show b0 ≤ b1; have := HB1.out; omega) _).setCell (p := ⟨b1, 2, none⟩) (by show b0 ≤ b1; have := HB1.out; omega) _⟩
  · have HYES := Lib.hid hB
    clear hB
    go_wp2_with (go_at_call 32; refine HM.out.mono ?_; rintro e w5 ⟨⟨hyes, _⟩, hb5⟩; obtain ⟨ug, vg, sg, rfl, ho⟩ := hyes HYES.out; obtain ⟨A9, n9, c9, B9, m9, d9, C9, s9, t9, rfl, rfl, rfl⟩ := form3 ho; have hx5 := HX1.out.below hb5 (by have := HSW.out; omega); have c0 := hx5.cell0; have c1 := hx5.cell1; have c2 := hx5.cell2; have f0 := hx5.free 0; have f1 := hx5.free 1; have f2 := hx5.free 2)
    have e2 := ((hx5.set0 (.slice A9 n9 c9)).set1 (.slice B9 m9 d9)).set2 (.slice C9 s9 t9)
    have hb1W : b1 < W.heap.size := by have := HSW.out; omega
    have ho2 := (((ho.off_ hb1W 0 (.slice A9 n9 c9)).off_ hb1W 1 (.slice B9 m9 d9)).off_ hb1W 2 (.slice C9 s9 t9)).mono (by have := HB1.out; omega : b0 ≤ W.heap.size)
    rw [mirrorG_word HYES.out] at ho2
    refine bodyPost_ret (v := .tuple #[.agg #[.slice A9 n9 c9, .slice B9 m9 d9, .slice C9 s9 t9], .int .i64 0]) ?_ ?_ ?_
    · exact results_row_tmp Tryd.results17 _ _ b1 _ _ rfl rfl (run_loadVar_row _ _ _ _ _ _ _ e2 Tryd.underlying26 rfl size_gauss)
    · rfl
    · have hb := HBW.out.trans (hb5.mono (by have := HSW.out; have := HB1.out; omega))
      exact ⟨_, _, _, by rw [mirrorOf_yes HYES.out], by rw [mirrorOf_yes HYES.out]; exact ho2, ((hb.setCell (p := ⟨b1, 0, none⟩) (by show b0 ≤ b1; have := HB1.out; omega) _).setCell (p := ⟨b1, 1, none⟩) (by show b0 ≤ b1; have := HB1.out; omega) _).setCell (p := ⟨b1, 2, none⟩) (by show b0 ≤ b1; have := HB1.out; omega) _⟩
end Go.Proofs.YtbbhdghjmofooaaDoor
