/- RemoveKink: the model's contract. -/
import Derived.Test.YtbbhdghjmofooaaDoorWithout
import Derived.Test.YtbbhdghjmofooaaDoorKnotDrop
import Derived.Test.YtbbhdghjmofooaaDoorMRemoveKink
namespace Go.Proofs.YtbbhdghjmofooaaDoor
open Go.RowKit
set_option linter.unusedVariables false
set_option linter.unusedSimpArgs false
set_option maxRecDepth 100000

set_option maxHeartbeats 16000000 in
theorem specRemoveKink_any (A B C : Option Addr) (n c m d q f : Nat) (ws hs ss : List Int) (i : Int) (w : World) (hr : RdGB w w.heap.size A n B m C q ws hs ss) (hwf : WfG ws hs ss) (hf : FewG ws hs ss) (hii : -9223372036854775808 ≤ i ∧ i ≤ 9223372036854775807) :
    GaveG 24 #[.agg #[.slice A n c, .slice B m d, .slice C q f], .int .i64 i] w (removeKinkOf ws hs ss i) := by
  obtain ⟨b0, hb0⟩ : ∃ b, b = w.heap.size := ⟨_, rfl⟩
  obtain ⟨b1, hb1⟩ : ∃ b, b = b0 + 1 := ⟨_, rfl⟩
  obtain ⟨b2, hb2⟩ : ∃ b, b = b1 + 1 := ⟨_, rfl⟩
  obtain ⟨V, hV⟩ : ∃ V, V = w.alloc (.cells #[.slice A n c, .slice B m d, .slice C q f] 26) := ⟨_, rfl⟩
  obtain ⟨V1, hV1⟩ : ∃ W, W = V.alloc (.cells #[.slice none 0 0, .slice none 0 0, .slice none 0 0] 26) := ⟨_, rfl⟩
  obtain ⟨W, hW⟩ : ∃ W, W = V1.alloc (.cells #[.int .i64 i] 2) := ⟨_, rfl⟩
  have s0 : V.heap.size = b1 := by rw [hV, World.size_alloc, ← hb0, hb1]
  have s1 : V1.heap.size = b2 := by rw [hV1, World.size_alloc, s0, hb2]
  have hsW : W.heap.size = b2 + 1 := by rw [hW, World.size_alloc, s1]
  have k0 : Below b0 w V := by rw [hV, hb0]; exact below_alloc _ _
  have k1 : Below b1 V V1 := by rw [hV1, ← s0]; exact below_alloc _ _
  have k2 : Below b2 V1 W := by rw [hW, ← s1]; exact below_alloc _ _
  have x0 : Box3 V b0 26 (.slice A n c) (.slice B m d) (.slice C q f) := by rw [hV, hb0]; exact box3_new _ _ _ _ _
  have x1 : Box3 V1 b1 26 (.slice none 0 0) (.slice none 0 0) (.slice none 0 0) := by rw [hV1, ← s0]; exact box3_new _ _ _ _ _
  have x0' := (x0.below k1 (by omega)).below k2 (by omega)
  have x1' := x1.below k2 (by omega)
  have hone : Rd W (some ⟨b2, 0, none⟩) 1 [i] := by rw [hW, ← s1]; exact rd_one _ _
  have hbW : Below b0 w W := (k0.trans (k1.mono (by omega))).trans (k2.mono (by omega))
  have hrW : RdGB W W.heap.size A n B m C q ws hs ss := (hr.below (by rw [← hb0]; exact hbW)).rd hbW.size
  have HR := Lib.hid hrW
  have HF := Lib.hid hf
  have HX0 := Lib.hid x0'
  have HX1 := Lib.hid x1'
  have HBW := Lib.hid hbW
  have HSW := Lib.hid hsW
  have HONE := Lib.hid hone
  have HB0 := Lib.hid hb0
  have HB1 := Lib.hid hb1
  have HB2 := Lib.hid hb2
  have HL : Hid (ws.length = n ∧ hs.length = m ∧ ss.length = q) := Lib.hid ⟨hr.1.1, hr.2.1.1, hr.2.2.1⟩
  have HW : Hid (W = ((w.alloc (.cells #[.slice A n c, .slice B m d, .slice C q f] 26)).alloc (.cells #[.slice none 0 0, .slice none 0 0, .slice none 0 0] 26)).alloc (.cells #[.int .i64 i] 2)) := Lib.hid (by rw [hW, hV1, hV])
  have q0 := x0'.cell0
  have q1 := x0'.cell1
  have q2 := x0'.cell2
  have hl0 : b0 < W.heap.size := by omega
  have hl1 : b1 < W.heap.size := by omega
  have hl01 : b0 ≤ b1 := by omega
  obtain ⟨r, hre⟩ : ∃ r, r = removeKinkOf ws hs ss i := ⟨_, rfl⟩
  have HRE := Lib.hid hre
  rw [← hre]
  obtain ⟨z, hz⟩ : ∃ z, z = chordCode ws hs ss [i] := ⟨_, rfl⟩
  have HZ := Lib.hid hz
  clear hV hV1 hW s0 s1 hsW k0 k1 k2 x0 x1 x0' x1' hbW hr hb1 hb2 hwf hf hrW hone hre hz
  unfold GaveG
  rw [← HB0.out]
  clear hb0
  have HCA : Hid (∀ w5, Below W.heap.size W w5 → Box3 w5 b1 26 (.slice none 0 0) (.slice none 0 0) (.slice none 0 0)) := Lib.hid (fun w5 hb => HX1.out.below hb hl1)
  have HERR : Hid (z ≠ 0 → r = (([], [], []), z)) := Lib.hid (fun h => by
    rw [HRE.out]
    rcases hG : gaussB ws hs ss with _ | _
    · rw [removeKinkOf_no hG, HZ.out, chordCode_no hG]
    · rcases hc : chordB hs i with _ | _
      · have h2 : [i].all (chordIn ss.length) = false := by
          rw [← Bool.not_eq_true] at hc ⊢
          intro hh
          have h3 := List.all_eq_true.1 hh i (by simp)
          have h4 := inB_true.1 h3
          have hlns := gaussB_lens hG
          exact hc (by unfold chordB; rw [decide_eq_true h4.1, decide_eq_true (show i < (hs.length : Int) by omega)]; rfl)
        rw [removeKinkOf_out hG hc, HZ.out, chordCode_out hG h2]
      · exfalso
        apply h
        rw [HZ.out, chordCode_yes hG]
        rw [List.all_eq_true]
        intro x hx
        have hx2 : x = i := by simpa using hx
        rw [hx2]
        unfold chordB at hc
        rw [Bool.and_eq_true, decide_eq_true_eq, decide_eq_true_eq] at hc
        have hlns := gaussB_lens hG
        exact inB_true.2 ⟨hc.1, by omega⟩)
  have HC : Hid (∀ V, Below W.heap.size W V → V.cell? ⟨b0, 0, none⟩ = some (.slice A n c) ∧ V.cell? ⟨b0, 1, none⟩ = some (.slice B m d) ∧ V.cell? ⟨b0, 2, none⟩ = some (.slice C q f)) := Lib.hid (fun V hV => ⟨(HX0.out.below hV hl0).cell0, (HX0.out.below hV hl0).cell1, (HX0.out.below hV hl0).cell2⟩)
  have HRV : Hid (∀ V, Below W.heap.size W V → RdGB V V.heap.size A n B m C q ws hs ss) := Lib.hid (fun V hV => (HR.out.below hV).rd hV.size)
  by_cases hz0 : z = 0
  case neg =>
    have e1 : (z != 0) = true := by simpa using hz0
    have HZN := Lib.hid (HERR.out hz0)
    clear hz0
    go_enter Tryd.func24, Tryd.ntmps24
    go_wp2_with (go_at_call 37; rw [← HB0.out, ← HB1.out, ← HB2.out, ← HW.out]; refine (chord_any _ _ _ _ _ _ _ _ _ _ _ _ ws hs ss [i] _ HR.out HF.out HONE.out (by omega)).mono ?_; rintro e w5 ⟨rfl, hb5⟩; rw [← HZ.out]; have hx5 := HX1.out.below hb5 hl1; have c0 := hx5.cell0; have c1 := hx5.cell1; have c2 := hx5.cell2; have f0 := hx5.free 0; have f1 := hx5.free 1; have f2 := hx5.free 2)
    have e2 := ((hx5.set0 (.slice none 0 0)).set1 (.slice none 0 0)).set2 (.slice none 0 0)
    rw [HZN.out]
    refine bodyPost_ret (v := .tuple #[.agg #[.slice none 0 0, .slice none 0 0, .slice none 0 0], .int .i64 z]) ?_ ?_ ?_
    · exact results_row_tmp Tryd.results24 _ _ b1 _ _ rfl rfl (run_loadVar_row _ _ _ _ _ _ _ e2 Tryd.underlying26 rfl size_gauss)
    · rfl
    · have hb := HBW.out.trans (hb5.mono (by omega))
      exact ⟨_, _, _, rfl, OwnG.nil_ _ _, ((hb.setCell (p := ⟨b1, 0, none⟩) hl01 _).setCell (p := ⟨b1, 1, none⟩) hl01 _).setCell (p := ⟨b1, 2, none⟩) hl01 _⟩
  case pos =>
    have hG : gaussB ws hs ss = true := by
      rcases hG : gaussB ws hs ss with _ | _
      · have := HZ.out; rw [chordCode_no hG] at this; omega
      · rfl
    have hcb : chordB hs i = true := by
      rcases hc : chordB hs i with _ | _
      · exfalso
        have h1 := HZ.out
        rcases ha : [i].all (chordIn ss.length) with _ | _
        · rw [chordCode_out hG ha] at h1; omega
        · have h3 := List.all_eq_true.1 ha i (by simp)
          have h4 := inB_true.1 h3
          have hlns := gaussB_lens hG
          rw [← Bool.not_eq_true] at hc
          exact hc (by unfold chordB; rw [decide_eq_true h4.1, decide_eq_true (show i < (hs.length : Int) by omega)]; rfl)
      · rfl
    have hlns := gaussB_lens hG
    have hwd := gaussB_word hG
    have h12 := isWord_len hwd
    have hL := HL.out
    have hcb2 := hcb
    unfold chordB at hcb2
    rw [Bool.and_eq_true, decide_eq_true_eq, decide_eq_true_eq] at hcb2
    obtain ⟨k, rfl⟩ : ∃ k : Nat, i = k := ⟨i.toNat, by omega⟩
    have hcw : ws.count (k : Int) = 2 := isWord_count hwd (word_mem hwd (by omega) (by omega))
    obtain ⟨t1, t2, _⟩ := two_places hcw
    have hmw : (k : Int) ∈ ws := List.count_pos_iff.1 (by omega)
    obtain ⟨p1, hp1⟩ : ∃ p, p = place1 ws k := ⟨_, rfl⟩
    obtain ⟨p2, hp2⟩ : ∃ p, p = place2 ws k := ⟨_, rfl⟩
    have HPL : Hid (∀ V, Below W.heap.size W V → Told 40 #[.slice A n c, .int .i64 k] V (.tuple #[.int .i64 p1, .int .i64 p2])) := Lib.hid (fun V hV => by
      have h1 := specPlaces_any A n c ws (k : Int) V (HRV.out V hV).1 (by omega)
      rwa [firstAt_mem hmw, lastAt_two hcw, ← hp2, show (ws.idxOf (k : Int) : Int) = (p1 : Int) by rw [hp1]; rfl] at h1)
    have HIN : Hid (∀ y ∈ ws, 0 ≤ y ∧ y < m ∧ y < q) := Lib.hid (fun y hy => by have h1 := word_lt hwd hy; omega)
    have hn12 : n ≤ 12 := by omega
    have hm6 : m ≤ 12 := by omega
    have hq6 : q ≤ 12 := by omega
    have HZ0 := Lib.hid hz0
    have hp1b : p1 < 12 := by omega
    rcases hbs : besideB ws (k : Int) with _ | _
    · have HRY : Hid (r = (([], [], []), 5)) := Lib.hid (by rw [HRE.out, removeKinkOf_apart hG hcb hbs])
      have e1 : ((p2 : Int) != (p1 : Int) + 1) = true := by
        have h1 : ¬ place2 ws (k : Int) = place1 ws k + 1 := by unfold besideB at hbs; simpa using hbs
        simp; omega
      clear hG hcb hcb2 hlns hwd h12 hL hcw t1 t2 hmw hp1 hp2 hz0 hbs
      go_enter Tryd.func24, Tryd.ntmps24
      go_wp2_with (first
        | (go_at_call 37; rw [← HB0.out, ← HB1.out, ← HB2.out, ← HW.out]; refine (chord_any _ _ _ _ _ _ _ _ _ _ _ _ ws hs ss [(k : Int)] _ HR.out HF.out HONE.out (by omega)).mono ?_; rintro e w5 ⟨rfl, hb5⟩; rw [← HZ.out, HZ0.out]; obtain ⟨a0, a1, a2⟩ := HC.out w5 hb5; have HB5 := Lib.hid hb5; clear hb5)
        | (go_at_call 40; refine (HPL.out w5 HB5.out).mono ?_; rintro e w6 ⟨rfl, hb6⟩; have HB6 := Lib.hid (HB5.out.trans (hb6.mono HB5.out.size)); obtain ⟨a0, a1, a2⟩ := HC.out w6 HB6.out; have hx6 := HX1.out.below HB6.out hl1; have c0 := hx6.cell0; have c1 := hx6.cell1; have c2 := hx6.cell2; have f0 := hx6.free 0; have f1 := hx6.free 1; have f2 := hx6.free 2; clear hb6))
      have hx6' := HX1.out.below HB6.out hl1
      have e2 := ((hx6'.set0 (.slice none 0 0)).set1 (.slice none 0 0)).set2 (.slice none 0 0)
      rw [HRY.out]
      refine bodyPost_ret (v := .tuple #[.agg #[.slice none 0 0, .slice none 0 0, .slice none 0 0], .int .i64 5]) ?_ ?_ ?_
      · exact results_row_tmp Tryd.results24 _ _ b1 _ _ rfl rfl (run_loadVar_row _ _ _ _ _ _ _ e2 Tryd.underlying26 rfl size_gauss)
      · rfl
      · have hb := HBW.out.trans (HB6.out.mono (by omega))
        exact ⟨_, _, _, rfl, OwnG.nil_ _ _, ((hb.setCell (p := ⟨b1, 0, none⟩) hl01 _).setCell (p := ⟨b1, 1, none⟩) hl01 _).setCell (p := ⟨b1, 2, none⟩) hl01 _⟩
    · have HRY : Hid (r = (gnorm (keepL ws [(k : Int)]) hs ss, 0)) := Lib.hid (by rw [HRE.out, removeKinkOf_yes hG hcb hbs, dropI_filter hcw]; rfl)
      have e1 : ((p2 : Int) != (p1 : Int) + 1) = false := by
        have h1 : place2 ws (k : Int) = place1 ws k + 1 := by unfold besideB at hbs; simpa using hbs
        simp; omega
      clear hG hcb hcb2 hlns hwd h12 hL hcw t1 t2 hmw hp1 hp2 hz0 hbs
      go_enter Tryd.func24, Tryd.ntmps24
      go_wp2_with (first
        | (go_at_call 37; rw [← HB0.out, ← HB1.out, ← HB2.out, ← HW.out]; refine (chord_any _ _ _ _ _ _ _ _ _ _ _ _ ws hs ss [(k : Int)] _ HR.out HF.out HONE.out (by omega)).mono ?_; rintro e w5 ⟨rfl, hb5⟩; rw [← HZ.out, HZ0.out]; obtain ⟨a0, a1, a2⟩ := HC.out w5 hb5; have HB5 := Lib.hid hb5; clear hb5)
        | (go_at_call 40; refine (HPL.out w5 HB5.out).mono ?_; rintro e w6 ⟨rfl, hb6⟩; have HB6 := Lib.hid (HB5.out.trans (hb6.mono HB5.out.size)); obtain ⟨a0, a1, a2⟩ := HC.out w6 HB6.out; clear hb6)
        | (go_at_call 42; have HB7 : Hid (Below W.heap.size W (w6.alloc (.cells #[.int .i64 (k : Int)] 2))) := Lib.hid (HB6.out.trans ((below_alloc _ _).mono HB6.out.size)); refine (without_any A B C _ n c m d q f 1 1 ws hs ss [(k : Int)] _ (HRV.out _ HB7.out) (rd_one _ _) (by omega) (by omega) (by omega) (by omega) HIN.out).mono ?_; rintro e w8 ⟨u8, t8, s8, rfl, ho8, hb8⟩; obtain ⟨A6, n6, d6, B6, m6, e6, C6, q6, f6, rfl, rfl, rfl⟩ := form3 ho8; have HO8 := Lib.hid (ho8.mono HB7.out.size); have HB8 : Hid (Below W.heap.size W w8) := Lib.hid (HB7.out.trans (hb8.mono HB7.out.size)); have hx8 := HX1.out.below HB8.out hl1; have c0 := hx8.cell0; have c1 := hx8.cell1; have c2 := hx8.cell2; have f0 := hx8.free 0; have f1 := hx8.free 1; have f2 := hx8.free 2; clear ho8 hb8))
      have hx8' := HX1.out.below HB8.out hl1
      have e2 := ((hx8'.set0 (.slice A6 n6 d6)).set1 (.slice B6 m6 e6)).set2 (.slice C6 q6 f6)
      have ho2 := (((HO8.out.off_ hl1 0 (.slice A6 n6 d6)).off_ hl1 1 (.slice B6 m6 e6)).off_ hl1 2 (.slice C6 q6 f6)).mono (by omega : b0 ≤ W.heap.size)
      rw [HRY.out]
      refine bodyPost_ret (v := .tuple #[.agg #[.slice A6 n6 d6, .slice B6 m6 e6, .slice C6 q6 f6], .int .i64 0]) ?_ ?_ ?_
      · exact results_row_tmp Tryd.results24 _ _ b1 _ _ rfl rfl (run_loadVar_row _ _ _ _ _ _ _ e2 Tryd.underlying26 rfl size_gauss)
      · rfl
      · have hb := HBW.out.trans (HB8.out.mono (by omega))
        exact ⟨_, _, _, rfl, ho2, ((hb.setCell (p := ⟨b1, 0, none⟩) hl01 _).setCell (p := ⟨b1, 1, none⟩) hl01 _).setCell (p := ⟨b1, 2, none⟩) hl01 _⟩
end Go.Proofs.YtbbhdghjmofooaaDoor
