/- The model's l07Without: a Gauss word without some chords. -/
import Derived.Test.YtiedekdghdgocaaDoorGCopy
namespace Go.Proofs.YtiedekdghdgocaaDoor
open Go.RowKit
set_option linter.unusedVariables false
set_option linter.unusedSimpArgs false
set_option maxRecDepth 100000

theorem below_drewQ (w : World) (q : Nat) : Below w.heap.size w (w.drewN q) := ⟨rfl, rfl, rfl, Nat.le_refl _, fun _ _ => rfl⟩
def keepL (ws cs : List Int) : List Int := ws.filter (fun y => !cs.contains y)
theorem keepL_next {ws cs : List Int} {k : Nat} (hk : k < ws.length) : keepL (ws.take (k + 1)) cs = if cs.contains (ws[k]?.getD 0) then keepL (ws.take k) cs else keepL (ws.take k) cs ++ [ws[k]?.getD 0] := by
  unfold keepL
  rw [take_next ws k hk, List.filter_append, List.filter_cons]
  cases cs.contains (ws[k]?.getD 0) <;> simp
theorem keepL_len (ws cs : List Int) : (keepL ws cs).length ≤ ws.length := List.length_filter_le _ _
theorem contains_take {cs : List Int} {j : Nat} (h : j < cs.length) (y : Int) : (cs.take (j + 1)).contains y = ((cs.take j).contains y || (y == cs[j]?.getD 0)) := by
  rw [take_next cs j h, Bool.eq_iff_iff]
  simp only [List.contains_iff_mem, List.mem_append, List.mem_singleton, Bool.or_eq_true, beq_iff_eq]
theorem own_made (w : World) : Own (w.alloc (.cells #[] 2)) w.heap.size (.slice (some ⟨w.heap.size, 0, none⟩) 0 0) [] :=
  ⟨rfl, .inr ⟨w.heap.size, 0, #[], rfl, Nat.le_refl _, heap_alloc_new _ _, Nat.le_refl _, by unfold maxLen; omega, rfl, rfl⟩⟩
set_option maxHeartbeats 8000000 in
theorem without_any (A B C X : Option Addr) (n c m d q f nx cx : Nat) (ws hs ss cs : List Int) (w : World) (hr : RdGB w w.heap.size A n B m C q ws hs ss) (hx : Rd w X nx cs) (hn : n ≤ 1000) (hm : m ≤ 1000) (hq : q ≤ 1000) (hnx : nx ≤ 1000) (hin : ∀ y ∈ ws, 0 ≤ y ∧ y < m ∧ y < q) :
    Calls Tryd.prog 27 #[.agg #[.slice A n c, .slice B m d, .slice C q f], .slice X nx cx] w fun e w' => ∃ u v s, e = .returned (.agg #[u, v, s]) ∧ OwnG w' w.heap.size u v s (gnorm (keepL ws cs) hs ss).1 (gnorm (keepL ws cs) hs ss).2.1 (gnorm (keepL ws cs) hs ss).2.2 ∧ Below w.heap.size w w' := by
  obtain ⟨b0, hb0⟩ : ∃ b, b = w.heap.size := ⟨_, rfl⟩
  obtain ⟨b1, hb1⟩ : ∃ b, b = b0 + 1 := ⟨_, rfl⟩
  obtain ⟨V, hV⟩ : ∃ V, V = w.alloc (.cells #[.slice A n c, .slice B m d, .slice C q f] 26) := ⟨_, rfl⟩
  obtain ⟨W, hW⟩ : ∃ W, W = V.alloc (.cells #[.slice none 0 0, .slice none 0 0, .slice none 0 0] 26) := ⟨_, rfl⟩
  have s0 : V.heap.size = b1 := by rw [hV, World.size_alloc, ← hb0, hb1]
  have hsW : W.heap.size = b1 + 1 := by rw [hW, World.size_alloc, s0]
  have k0 : Below b0 w V := by rw [hV, hb0]; exact below_alloc _ _
  have k1 : Below b1 V W := by rw [hW, ← s0]; exact below_alloc _ _
  have x0 : Box3 V b0 26 (.slice A n c) (.slice B m d) (.slice C q f) := by rw [hV, hb0]; exact box3_new _ _ _ _ _
  have x1 : Box3 W b1 26 (.slice none 0 0) (.slice none 0 0) (.slice none 0 0) := by rw [hW, ← s0]; exact box3_new _ _ _ _ _
  have x0' := x0.below k1 (by omega)
  have hbW : Below b0 w W := k0.trans (k1.mono (by omega))
  have hrW : RdGB W b0 A n B m C q ws hs ss := by rw [hb0]; exact hr.below (by rw [← hb0]; exact hbW)
  have hxW : Rd W X nx cs := hx.below (by rw [← hb0]; exact hbW)
  have HL : Hid (ws.length = n ∧ hs.length = m ∧ ss.length = q ∧ cs.length = nx) := Lib.hid ⟨hr.1.1, hr.2.1.1, hr.2.2.1, hx.len⟩
  have HIN : Hid (∀ y ∈ keepL ws cs, 0 ≤ y ∧ y < m ∧ y < q) := Lib.hid (fun y hy => hin y (List.mem_filter.1 hy).1)
  have HX1 := Lib.hid x1
  have HBW := Lib.hid hbW
  have HSW := Lib.hid hsW
  have HB0 := Lib.hid hb0
  have HB1 := Lib.hid hb1
  have HW : Hid (W = (w.alloc (.cells #[.slice A n c, .slice B m d, .slice C q f] 26)).alloc (.cells #[.slice none 0 0, .slice none 0 0, .slice none 0 0] 26)) := Lib.hid (by rw [hW, hV])
  have hl0 : b0 < W.heap.size := by omega
  have hl1 : b1 < W.heap.size := by omega
  have hl01 : b0 ≤ b1 := by omega
  have HC : Hid (∀ V, Below W.heap.size W V → V.cell? ⟨b0, 0, none⟩ = some (.slice A n c) ∧ V.cell? ⟨b0, 1, none⟩ = some (.slice B m d) ∧ V.cell? ⟨b0, 2, none⟩ = some (.slice C q f)) := Lib.hid (fun V hV => ⟨(x0'.below hV hl0).cell0, (x0'.below hV hl0).cell1, (x0'.below hV hl0).cell2⟩)
  have HRW : Hid (∀ V, Below W.heap.size W V → Rd V A n ws ∧ Rd V B m hs ∧ Rd V C q ss ∧ Rd V X nx cs) := Lib.hid (fun V hV => by
    have h1 := hrW.rd (show b0 ≤ W.heap.size by omega)
    exact ⟨(h1.1.rd (Nat.le_refl _)).below hV, (h1.2.1.rd (Nat.le_refl _)).below hV, (h1.2.2.rd (Nat.le_refl _)).below hV, hxW.below hV⟩)
  have HOM : Hid (Own (W.alloc (.cells #[] 2)) W.heap.size (.slice (some ⟨W.heap.size, 0, none⟩) 0 0) []) := Lib.hid (own_made W)
  clear hV hW s0 hsW k0 k1 x0 x1 x0' hbW hr hb1 hrW hxW hx hin
  rw [← HB0.out]
  clear hb0
  go_enter Tryd.func27, Tryd.ntmps27
  go_upto_region 1 with fail
  rw [← HB0.out, ← HB1.out, ← HW.out]
  go_wp2_with fail
  go_loopg [5, 6] n (fun g v i wr => ∃ k : Nat, k + g = n ∧ i = .int .i64 k ∧ Hid (Own wr W.heap.size v (keepL (ws.take k) cs)) ∧ Hid (Below W.heap.size W wr))
  case atStart => exact ⟨0, by omega, rfl, by simpa [keepL] using HOM, Lib.hid (below_alloc _ _)⟩
  case round =>
    obtain ⟨k, hkg, rfl, ho, hb⟩ := hrel
    obtain ⟨c0, c1, c2⟩ := HC.out wr hb.out
    by_cases hlt : k < n
    · have hkl : k < ws.length := by rw [HL.out.1]; exact hlt
      have hnext := keepL_next (cs := cs) hkl
      have hrk := (HRW.out wr hb.out).1
      obtain ⟨y, hy⟩ : ∃ y, y = ws[k]?.getD 0 := ⟨_, rfl⟩
      rw [← hy] at hnext
      have HY := Lib.hid hy
      have HNX := Lib.hid hnext
      have hzr := hb.out.size
      have hkl2 : (keepL (ws.take k) cs).length ≤ 1099511627776 := by have h1 := keepL_len (ws.take k) cs; rw [List.length_take] at h1; omega
      clear hnext hy
      obtain ⟨gp, rfl⟩ : ∃ g, gk = g + 1 := ⟨gk - 1, by omega⟩
      obtain ⟨wo, hwo⟩ : ∃ x, x = wr := ⟨_, rfl⟩
      subst hwo
      go_wp2_with fail
      go_loopw [7, 8] (fun s7 s8 wz => ∃ j : Nat, j ≤ nx ∧ s8 = .int .i64 j ∧ s7 = .bool ((cs.take j).contains y) ∧ Hid (Below wo.heap.size wo wz)) (fun _ s8 _ => nx - (intOf s8).toNat)
      case atStart => exact ⟨0, by omega, rfl, by simp, Lib.hid (Below.refl _ _)⟩
      case round =>
        obtain ⟨j, hj, rfl, rfl, hbz⟩ := hrel
        have HBZ : Hid (Below W.heap.size W wr) := Lib.hid (hb.out.trans (hbz.out.mono hzr))
        obtain ⟨d0, d1, d2⟩ := HC.out wr HBZ.out
        by_cases hjl : j < nx
        · have hjc : j < cs.length := by rw [HL.out.2.2.2]; exact hjl
          have hcj := contains_take hjc y
          obtain ⟨x, hxe⟩ : ∃ x, x = cs[j]?.getD 0 := ⟨_, rfl⟩
          rw [← hxe] at hcj
          obtain ⟨hra, _, _, hrx⟩ := HRW.out wr HBZ.out
          obtain ⟨aa, rfl, _, hca⟩ := hra.2 (by omega)
          obtain ⟨ax, rfl, _, hcx⟩ := hrx.2 (by omega)
          have ca := hca k hlt
          have cx := hcx j hjl
          rw [getD_eq, ← HY.out] at ca
          rw [getD_eq, ← hxe] at cx
          clear hca hcx hra hrx hxe
          rcases hct : (cs.take j).contains y with _ | _
          · rw [hct] at hcj
            rcases hyx : (y == x) with _ | _
            all_goals (
              rw [hyx] at hcj
              have HCJ := Lib.hid hcj
              clear hcj hct
              go_wp2
              go_quiet (fail)
              go_wp2
              go_roundw
              case rel => exact ⟨j + 1, by omega, by go_num, by rw [HCJ.out]; rfl, Lib.hid (hbz.out.trans ((below_drewQ _ _).mono hbz.out.size))⟩
              case measure => simp [intOf]; omega)
          · rw [hct] at hcj
            have HCJ := Lib.hid hcj
            clear hcj hct
            go_wp2
            go_quiet (fail)
            go_wp2
            go_roundw
            case rel => exact ⟨j + 1, by omega, by go_num, by rw [HCJ.out]; rfl, Lib.hid (hbz.out.trans ((below_drewQ _ _).mono hbz.out.size))⟩
            case measure => simp [intOf]; omega
        · obtain rfl : j = nx := by omega
          have hct : cs.take j = cs := List.take_of_length_le (by rw [HL.out.2.2.2]; exact Nat.le_refl _)
          rw [hct]
          clear hct
          have HO2 : Hid (Own wr W.heap.size u5 (keepL (ws.take k) cs)) := Lib.hid (ho.out.below hbz.out)
          obtain ⟨hra, _, _, _⟩ := HRW.out wr HBZ.out
          obtain ⟨aa, rfl, _, hca⟩ := hra.2 (by omega)
          have ca := hca k hlt
          rw [getD_eq, ← HY.out] at ca
          clear hca hra
          rcases hcc : cs.contains y with _ | _
          · have HK : Hid (keepL (ws.take (k + 1)) cs = keepL (ws.take k) cs ++ [y]) := Lib.hid (by rw [HNX.out, hcc]; rfl)
            clear hcc
            have hzz := HBZ.out.size
            go_wp2_with (at_builtin; refine push_int wr rfl (.tmp 38) (.tmp 44) rfl W.heap.size _ (keepL (ws.take k) cs) y rfl HO2.out rfl hkl2 hzz ?_; intro v3 w3 ho3 hg3 hat3; have HO3 := Lib.hid ho3; have HB3 : Hid (Below W.heap.size W w3) := Lib.hid (HBZ.out.grown hg3 hzz (fun x hx => (HO2.out.lt x hx).1)); clear ho3 hg3 hat3)
            go_roundg gp
            case rel => exact ⟨k + 1, by omega, by go_num, by rw [HK.out]; exact HO3, HB3⟩
            case measure => omega
          · have HK : Hid (keepL (ws.take (k + 1)) cs = keepL (ws.take k) cs) := Lib.hid (by rw [HNX.out, hcc]; rfl)
            clear hcc
            go_wp2
            go_roundg gp
            case rel => exact ⟨k + 1, by omega, by go_num, by rw [HK.out]; exact HO2, HBZ⟩
            case measure => omega
    · obtain rfl : k = n := by omega
      have HOK : Hid (Own wr W.heap.size u5 (keepL ws cs)) := Lib.hid (by have h := ho.out; rwa [show ws.take k = ws from List.take_of_length_le (by rw [HL.out.1]; exact Nat.le_refl _)] at h)
      obtain ⟨A3, n3, c3, hv3, hl3, hr3⟩ := HOK.out.form'
      subst hv3
      have hn3 : n3 ≤ 1000 := by have h1 := keepL_len ws cs; have := HL.out.1; omega
      have hzr := hb.out.size
      obtain ⟨_, hrb, hrc, _⟩ := HRW.out wr hb.out
      have HN := Lib.hid (gnormal_any A3 B C n3 c3 m d q f (keepL ws cs) hs ss wr hr3 hrb hrc (by omega) (by omega) (by omega) HIN.out)
      clear hl3 hr3 hrb hrc ho
      go_wp2_with (go_at_call 18; refine HN.out.mono ?_; rintro e w4 ⟨u4, t4, s4, rfl, ho4, hb4⟩; obtain ⟨A6, n6, d6, B6, m6, e6, C6, q6, f6, rfl, rfl, rfl⟩ := form3 ho4; have HO4 := Lib.hid (ho4.mono hzr); have HB4 : Hid (Below W.heap.size W w4) := Lib.hid (hb.out.trans (hb4.mono hzr)); have hx4 := HX1.out.below HB4.out hl1; have p0 := hx4.cell0; have p1 := hx4.cell1; have p2 := hx4.cell2; have f0 := hx4.free 0; have f1 := hx4.free 1; have f2 := hx4.free 2; clear ho4 hb4)
      have hx4' := HX1.out.below HB4.out hl1
      have e2 := ((hx4'.set0 (.slice A6 n6 d6)).set1 (.slice B6 m6 e6)).set2 (.slice C6 q6 f6)
      have hbb := HBW.out.trans (HB4.out.mono (by omega))
      have ho2 := (((HO4.out.off_ hl1 0 (.slice A6 n6 d6)).off_ hl1 1 (.slice B6 m6 e6)).off_ hl1 2 (.slice C6 q6 f6)).mono (by omega : b0 ≤ W.heap.size)
      refine bodyPost_ret (v := .agg #[.slice A6 n6 d6, .slice B6 m6 e6, .slice C6 q6 f6]) ?_ ?_ ?_
      · exact results_cell_row Tryd.results27 _ _ b1 26 _ (0, 0) _ rfl e2 Tryd.underlying26 rfl size_gauss
      · rfl
      · exact ⟨_, _, _, rfl, ho2, ((hbb.setCell (p := ⟨b1, 0, none⟩) hl01 _).setCell (p := ⟨b1, 1, none⟩) hl01 _).setCell (p := ⟨b1, 2, none⟩) hl01 _⟩
end Go.Proofs.YtiedekdghdgocaaDoor
