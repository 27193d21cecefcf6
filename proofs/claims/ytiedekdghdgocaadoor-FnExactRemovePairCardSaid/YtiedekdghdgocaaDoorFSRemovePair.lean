/- RemovePair: the model's contract. -/
import Derived.Test.YtiedekdghdgocaaDoorWithout
import Derived.Test.YtiedekdghdgocaaDoorKnotDrop
import Derived.Test.YtiedekdghdgocaaDoorMRemovePair
import Derived.Test.YtiedekdghdgocaaDoorFSSwitchChord
import Derived.Deep.Cut
import Derived.BigQuiet
namespace Go.Proofs.YtiedekdghdgocaaDoor
open Go.RowKit
set_option linter.unusedVariables false
set_option linter.unusedSimpArgs false
set_option maxRecDepth 100000

theorem rd_pair (w : World) (x y : Int) : Rd (w.alloc (.cells #[.int .i64 x, .int .i64 y] 2)) (some ⟨w.heap.size, 0, none⟩) 2 [x, y] := by
  refine ⟨rfl, fun _ => ⟨_, rfl, by simp, fun j hj => ?_⟩⟩
  rw [add_row, World.cell?_alloc_at _ _ _ _ rfl]
  rcases j with _ | _ | j
  · rfl
  · rfl
  · omega
theorem chord_two {hs ss : List Int} (hl : hs.length = ss.length) (i k : Int) : [i, k].all (chordIn ss.length) = (chordB hs i && chordB hs k) := by
  have key : ∀ x : Int, chordIn ss.length x = chordB hs x := fun x => by
    unfold chordIn chordB inB
    rw [hl, show decide (x ≤ (ss.length : Int) - 1) = decide (x < (ss.length : Int)) from by rw [decide_eq_decide]; omega]
  simp [key]
theorem near1 {p q : Nat} (h : ((q : Int) - (p : Int) == 1) = true) : nearB p q = true := by
  rw [beq_iff_eq] at h
  unfold nearB
  rw [Bool.or_eq_true, beq_iff_eq]
  left; omega
theorem near2 {p q : Nat} (h : ((p : Int) - (q : Int) == 1) = true) : nearB p q = true := by
  rw [beq_iff_eq] at h
  unfold nearB
  rw [Bool.or_eq_true, beq_iff_eq, beq_iff_eq]
  right; omega
theorem near0 {p q : Nat} (h : ((q : Int) - (p : Int) == 1) = false) (h2 : ((p : Int) - (q : Int) == 1) = false) : nearB p q = false := by
  rw [beq_eq_false_iff_ne] at h h2
  unfold nearB
  rw [Bool.or_eq_false_iff, beq_eq_false_iff_ne, beq_eq_false_iff_ne]
  exact ⟨by omega, by omega⟩
set_option maxHeartbeats 16000000 in
theorem specRemovePair_any (A B C : Option Addr) (n c m d q f : Nat) (ws hs ss : List Int) (i k : Int) (w : World) (hr : RdGB w w.heap.size A n B m C q ws hs ss) (hwf : WfG ws hs ss) (hf : FewG ws hs ss) (hii : -9223372036854775808 ≤ i ∧ i ≤ 9223372036854775807) (hkk : -9223372036854775808 ≤ k ∧ k ≤ 9223372036854775807) :
    GaveG 12 #[.agg #[.slice A n c, .slice B m d, .slice C q f], .int .i64 i, .int .i64 k] w (removePairOf ws hs ss i k) := by
  obtain ⟨b0, hb0⟩ : ∃ b, b = w.heap.size := ⟨_, rfl⟩
  obtain ⟨b1, hb1⟩ : ∃ b, b = b0 + 1 := ⟨_, rfl⟩
  obtain ⟨b2, hb2⟩ : ∃ b, b = b1 + 1 := ⟨_, rfl⟩
  obtain ⟨V, hV⟩ : ∃ V, V = w.alloc (.cells #[.slice A n c, .slice B m d, .slice C q f] 26) := ⟨_, rfl⟩
  obtain ⟨V1, hV1⟩ : ∃ W, W = V.alloc (.cells #[.slice none 0 0, .slice none 0 0, .slice none 0 0] 26) := ⟨_, rfl⟩
  obtain ⟨W, hW⟩ : ∃ W, W = V1.alloc (.cells #[.int .i64 i, .int .i64 k] 2) := ⟨_, rfl⟩
  have s0 : V.heap.size = b1 := by rw [hV, World.size_alloc, ← hb0, hb1]
  have s1 : V1.heap.size = b2 := by rw [hV1, World.size_alloc, s0, hb2]
  have hsW : W.heap.size = b2 + 1 := by rw [hW, World.size_alloc, s1]
  have k0 : Below b0 w V := by rw [hV, hb0]; exact below_alloc _ _
  have k1 : Below b1 V V1 := by rw [hV1, ← s0]; exact below_alloc _ _
  have k2 : Below b2 V1 W := by rw [hW, ← s1]; exact below_alloc _ _
  have x0 : Box3 V b0 26 (.slice A n c) (.slice B m d) (.slice C q f) := by rw [hV, hb0]; exact box3_new _ _ _ _ _
  have x1 : Box3 V1 b1 26 (.slice none 0 0) (.slice none 0 0) (.slice none 0 0) := by rw [hV1, ← s0]; exact box3_new _ _ _ _ _
  have x0' := (x0.below k1 (by omega)).below k2 (by omega)
  have x1' := x1.below k2 (by omega)
  have hone : Rd W (some ⟨b2, 0, none⟩) 2 [i, k] := by rw [hW, ← s1]; exact rd_pair _ _ _
  have hbW : Below b0 w W := (k0.trans (k1.mono (by omega))).trans (k2.mono (by omega))
  have hrW : RdGB W W.heap.size A n B m C q ws hs ss := (hr.below (by rw [← hb0]; exact hbW)).rd hbW.size
  have HR := Lib.hid hrW
  have HF := Lib.hid hf
  have HX0 := Lib.hid x0'
  have HX1 := Lib.hid x1'
  have HBW := Lib.hid hbW
  have HSW := Lib.hid hsW
  have HONE := Lib.hid hone
  have HB0 := Lib.hid hb0
  have HB1 := Lib.hid hb1
  have HB2 := Lib.hid hb2
  have HL : Hid (ws.length = n ∧ hs.length = m ∧ ss.length = q) := Lib.hid ⟨hr.1.1, hr.2.1.1, hr.2.2.1⟩
  have HW : Hid (W = ((w.alloc (.cells #[.slice A n c, .slice B m d, .slice C q f] 26)).alloc (.cells #[.slice none 0 0, .slice none 0 0, .slice none 0 0] 26)).alloc (.cells #[.int .i64 i, .int .i64 k] 2)) := Lib.hid (by rw [hW, hV1, hV])
  have q0 := x0'.cell0
  have q1 := x0'.cell1
  have q2 := x0'.cell2
  have hl0 : b0 < W.heap.size := by omega
  have hl1 : b1 < W.heap.size := by omega
  have hl01 : b0 ≤ b1 := by omega
  obtain ⟨r, hre⟩ : ∃ r, r = removePairOf ws hs ss i k := ⟨_, rfl⟩
  have HRE := Lib.hid hre
  rw [← hre]
  obtain ⟨z, hz⟩ : ∃ z, z = chordCode ws hs ss [i, k] := ⟨_, rfl⟩
  have HZ := Lib.hid hz
  clear hV hV1 hW s0 s1 hsW k0 k1 k2 x0 x1 x0' x1' hbW hr hb1 hb2 hwf hf hrW hone hre hz
  unfold GaveG
  rw [← HB0.out]
  clear hb0
  have HCA : Hid (∀ w5, Below W.heap.size W w5 → Box3 w5 b1 26 (.slice none 0 0) (.slice none 0 0) (.slice none 0 0)) := Lib.hid (fun w5 hb => HX1.out.below hb hl1)
  have HERR : Hid (z ≠ 0 → r = (([], [], []), z)) := Lib.hid (fun h => by
    rw [HRE.out]
    rcases hG : gaussB ws hs ss with _ | _
    · rw [removePairOf_no hG, HZ.out, chordCode_no hG]
    · have hlns := gaussB_lens hG
      have h2 := chord_two (hs := hs) (ss := ss) (by omega) i k
      rcases hc : (chordB hs i && chordB hs k) with _ | _
      · rw [hc] at h2
        have htw : twoB hs i k = false := by unfold twoB; rw [← Bool.and_assoc, hc]; rfl
        rw [removePairOf_out hG htw, HZ.out, chordCode_out hG h2]
      · exfalso
        rw [hc] at h2
        exact h (by rw [HZ.out, chordCode_yes hG h2]))
  have HC : Hid (∀ V, Below W.heap.size W V → V.cell? ⟨b0, 0, none⟩ = some (.slice A n c) ∧ V.cell? ⟨b0, 1, none⟩ = some (.slice B m d) ∧ V.cell? ⟨b0, 2, none⟩ = some (.slice C q f)) := Lib.hid (fun V hV => ⟨(HX0.out.below hV hl0).cell0, (HX0.out.below hV hl0).cell1, (HX0.out.below hV hl0).cell2⟩)
  have HRV : Hid (∀ V, Below W.heap.size W V → RdGB V V.heap.size A n B m C q ws hs ss) := Lib.hid (fun V hV => (HR.out.below hV).rd hV.size)
  by_cases hz0 : z = 0
  case neg =>
    have e1 : (z != 0) = true := by simpa using hz0
    have e0 : (z == 0) = false := by simpa using hz0
    have HZN := Lib.hid (HERR.out hz0)
    clear hz0
    go_enter Tryd.func12, Tryd.ntmps12
    go_wp2_with (go_at_call 25; rw [← HB0.out, ← HB1.out, ← HB2.out, ← HW.out]; refine (chord_any _ _ _ _ _ _ _ _ _ _ _ _ ws hs ss [i, k] _ HR.out HF.out HONE.out (by omega)).mono ?_; rintro e w5 ⟨rfl, hb5⟩; rw [← HZ.out]; have hx5 := HX1.out.below hb5 hl1; have c0 := hx5.cell0; have c1 := hx5.cell1; have c2 := hx5.cell2; have f0 := hx5.free 0; have f1 := hx5.free 1; have f2 := hx5.free 2)
    have e2 := ((hx5.set0 (.slice none 0 0)).set1 (.slice none 0 0)).set2 (.slice none 0 0)
    rw [HZN.out]
    refine bodyPost_ret (v := .tuple #[.agg #[.slice none 0 0, .slice none 0 0, .slice none 0 0], .int .i64 z]) ?_ ?_ ?_
    · exact results_row_tmp Tryd.results12 _ _ b1 _ _ rfl rfl (run_loadVar_row _ _ _ _ _ _ _ e2 Tryd.underlying26 rfl size_gauss)
    · rfl
    · have hb := HBW.out.trans (hb5.mono (by omega))
      exact ⟨_, _, _, rfl, OwnG.nil_ _ _, ((hb.setCell (p := ⟨b1, 0, none⟩) hl01 _).setCell (p := ⟨b1, 1, none⟩) hl01 _).setCell (p := ⟨b1, 2, none⟩) hl01 _⟩
  have hG : gaussB ws hs ss = true := by
    rcases hG : gaussB ws hs ss with _ | _
    · have := HZ.out; rw [chordCode_no hG] at this; omega
    · rfl
  have hlns := gaussB_lens hG
  have hcb : (chordB hs i && chordB hs k) = true := by
    have h2 := chord_two (hs := hs) (ss := ss) (by omega) i k
    rcases hc : (chordB hs i && chordB hs k) with _ | _
    · exfalso
      rw [hc] at h2
      have h1 := HZ.out
      rw [chordCode_out hG h2] at h1; omega
    · rfl
  have HZ0 := Lib.hid hz0
  by_cases hsame : i = k
  case pos =>
    have e1 : (i == k) = true := by simpa using hsame
    have HRY : Hid (r = (([], [], []), 2)) := Lib.hid (by rw [HRE.out, removePairOf_out hG (by unfold twoB; rw [hsame]; simp)])
    clear hz0 hG hlns hcb hsame
    go_enter Tryd.func12, Tryd.ntmps12
    go_wp2_with (go_at_call 25; rw [← HB0.out, ← HB1.out, ← HB2.out, ← HW.out]; refine (chord_any _ _ _ _ _ _ _ _ _ _ _ _ ws hs ss [i, k] _ HR.out HF.out HONE.out (by omega)).mono ?_; rintro e w5 ⟨rfl, hb5⟩; rw [← HZ.out, HZ0.out]; have hx5 := HX1.out.below hb5 hl1; have c0 := hx5.cell0; have c1 := hx5.cell1; have c2 := hx5.cell2; have f0 := hx5.free 0; have f1 := hx5.free 1; have f2 := hx5.free 2)
    have e2 := ((hx5.set0 (.slice none 0 0)).set1 (.slice none 0 0)).set2 (.slice none 0 0)
    rw [HRY.out]
    refine bodyPost_ret (v := .tuple #[.agg #[.slice none 0 0, .slice none 0 0, .slice none 0 0], .int .i64 2]) ?_ ?_ ?_
    · exact results_row_tmp Tryd.results12 _ _ b1 _ _ rfl rfl (run_loadVar_row _ _ _ _ _ _ _ e2 Tryd.underlying26 rfl size_gauss)
    · rfl
    · have hb := HBW.out.trans (hb5.mono (by omega))
      exact ⟨_, _, _, rfl, OwnG.nil_ _ _, ((hb.setCell (p := ⟨b1, 0, none⟩) hl01 _).setCell (p := ⟨b1, 1, none⟩) hl01 _).setCell (p := ⟨b1, 2, none⟩) hl01 _⟩
  have e1 : (i == k) = false := by simpa using hsame
  have htw : twoB hs i k = true := by
    unfold twoB; rw [← Bool.and_assoc, hcb]; simpa using hsame
  have hwd := gaussB_word hG
  have h12 := isWord_len hwd
  have hL := HL.out
  have hcb2 := hcb
  unfold chordB at hcb2
  rw [Bool.and_eq_true, Bool.and_eq_true, Bool.and_eq_true, decide_eq_true_eq, decide_eq_true_eq, decide_eq_true_eq, decide_eq_true_eq] at hcb2
  obtain ⟨a, rfl⟩ : ∃ a : Nat, i = a := ⟨i.toNat, by omega⟩
  obtain ⟨c', rfl⟩ : ∃ c : Nat, k = c := ⟨k.toNat, by omega⟩
  have hca : ws.count (a : Int) = 2 := isWord_count hwd (word_mem hwd (by omega) (by omega))
  have hcc : ws.count (c' : Int) = 2 := isWord_count hwd (word_mem hwd (by omega) (by omega))
  obtain ⟨t1, t2, _⟩ := two_places hca
  obtain ⟨t3, t4, _⟩ := two_places hcc
  have hma : (a : Int) ∈ ws := List.count_pos_iff.1 (by omega)
  have hmc : (c' : Int) ∈ ws := List.count_pos_iff.1 (by omega)
  obtain ⟨p1, hp1⟩ : ∃ p, p = place1 ws a := ⟨_, rfl⟩
  obtain ⟨p2, hp2⟩ : ∃ p, p = place2 ws a := ⟨_, rfl⟩
  obtain ⟨q1, hq1⟩ : ∃ p, p = place1 ws c' := ⟨_, rfl⟩
  obtain ⟨q2, hq2⟩ : ∃ p, p = place2 ws c' := ⟨_, rfl⟩
  have HPA : Hid (∀ V, Below W.heap.size W V → Calls Tryd.prog 26 #[.slice A n c, .int .i64 (a : Int)] V fun e w' => e = .returned (.tuple #[.int .i64 (p1 : Int), .int .i64 (p2 : Int)]) ∧ Below V.heap.size V w') := Lib.hid (fun V hV => by
    have h1 := specPlaces_any A n c ws (a : Int) V (HRV.out V hV).1 (by omega)
    rw [firstAt_mem hma, lastAt_two hca, ← hp2, show (ws.idxOf (a : Int) : Int) = (p1 : Int) by rw [hp1]; rfl] at h1
    exact h1)
  have HPC : Hid (∀ V, Below W.heap.size W V → Calls Tryd.prog 26 #[.slice A n c, .int .i64 (c' : Int)] V fun e w' => e = .returned (.tuple #[.int .i64 (q1 : Int), .int .i64 (q2 : Int)]) ∧ Below V.heap.size V w') := Lib.hid (fun V hV => by
    have h1 := specPlaces_any A n c ws (c' : Int) V (HRV.out V hV).1 (by omega)
    rw [firstAt_mem hmc, lastAt_two hcc, ← hq2, show (ws.idxOf (c' : Int) : Int) = (q1 : Int) by rw [hq1]; rfl] at h1
    exact h1)
  have HIN : Hid (∀ y ∈ ws, 0 ≤ y ∧ y < m ∧ y < q) := Lib.hid (fun y hy => by have h1 := word_lt hwd hy; omega)
  have hn12 : n ≤ 12 := by omega
  have hm6 : m ≤ 12 := by omega
  have hq6 : q ≤ 12 := by omega
  have hb12 : p1 < 12 ∧ p2 < 12 ∧ q1 < 12 ∧ q2 < 12 := by omega
  have ham : a < m := by omega
  have hcm : c' < m := by omega
  have haq : a < q := by omega
  have hcq : c' < q := by omega
  obtain ⟨s1, hs1⟩ : ∃ s, s = ss[a]?.getD 0 := ⟨_, rfl⟩
  obtain ⟨s2, hs2⟩ : ∃ s, s = ss[c']?.getD 0 := ⟨_, rfl⟩
  obtain ⟨x1, hx1⟩ : ∃ s, s = hs[a]?.getD 0 := ⟨_, rfl⟩
  obtain ⟨x2, hx2⟩ : ∃ s, s = hs[c']?.getD 0 := ⟨_, rfl⟩
  have hss1 := gauss_sign hG (k := a) (by omega)
  have hss2 := gauss_sign hG (k := c') (by omega)
  rw [← hs1] at hss1
  rw [← hs2] at hss2
  have HPB : Hid (pairB ws hs ss a c' = ((nearB p1 q1 && nearB p2 q2) && ((s1 + s2 == 0) && (x1 == x2)))) := Lib.hid (by
    unfold pairB; rw [hs1, hs2, hx1, hx2, hp1, hp2, hq1, hq2]; rfl)
  have HNO : Hid (pairB ws hs ss a c' = false → r = (([], [], []), 5)) := Lib.hid (fun h => by rw [HRE.out, removePairOf_apart hG htw h])
  have HYE : Hid (pairB ws hs ss a c' = true → r = (gnorm (keepL ws [(a : Int), (c' : Int)]) hs ss, 0)) := Lib.hid (fun h => by rw [HRE.out, removePairOf_yes hG htw h])
  have HCL : Hid (∀ V, Below W.heap.size W V → ∃ gb gc, B = some gb ∧ C = some gc ∧ V.cell? (gb.add a) = some (.int .i64 x1) ∧ V.cell? (gb.add c') = some (.int .i64 x2) ∧ V.cell? (gc.add a) = some (.int .i64 s1) ∧ V.cell? (gc.add c') = some (.int .i64 s2)) := Lib.hid (fun V hV => by
    obtain ⟨_, hrb, hrc⟩ := HRV.out V hV
    obtain ⟨gb, e1, _, y1⟩ := Rd.at_ (w := V) hrb ham
    obtain ⟨gb', e1', _, y2⟩ := Rd.at_ (w := V) hrb hcm
    obtain ⟨gc, e2, _, y3⟩ := Rd.at_ (w := V) hrc haq
    obtain ⟨gc', e2', _, y4⟩ := Rd.at_ (w := V) hrc hcq
    obtain rfl : gb = gb' := by rw [e1] at e1'; injection e1'
    obtain rfl : gc = gc' := by rw [e2] at e2'; injection e2'
    rw [getD_eq, ← hx1] at y1
    rw [getD_eq, ← hx2] at y2
    rw [getD_eq, ← hs1] at y3
    rw [getD_eq, ← hs2] at y4
    exact ⟨gb, gc, e1, e2, y1, y2, y3, y4⟩)
  clear hG hcb hcb2 hlns hwd h12 hL hca hcc t1 t2 t3 t4 hma hmc hp1 hp2 hq1 hq2 hz0 hs1 hs2 hx1 hx2 hsame htw
  go_enter Tryd.func12, Tryd.ntmps12
  go_upto_region 8 with (first
    | (go_at_call 25; rw [← HB0.out, ← HB1.out, ← HB2.out, ← HW.out]; refine (chord_any _ _ _ _ _ _ _ _ _ _ _ _ ws hs ss [(a : Int), (c' : Int)] _ HR.out HF.out HONE.out (by omega)).mono ?_; rintro e w5 ⟨rfl, hb5⟩; rw [← HZ.out, HZ0.out]; obtain ⟨a0, a1, a2⟩ := HC.out w5 hb5; have HB5 := Lib.hid hb5; clear hb5)
    | (go_at_call 26; (with_reducible refine (HPA.out w5 HB5.out).mono ?_); rintro e w6 ⟨rfl, hb6⟩; have HB6 := Lib.hid (HB5.out.trans (hb6.mono HB5.out.size)); obtain ⟨a0, a1, a2⟩ := HC.out w6 HB6.out; clear hb6)
    | (go_at_call 26; (with_reducible refine (HPC.out w6 HB6.out).mono ?_); rintro e w7 ⟨rfl, hb7⟩; have HB7 := Lib.hid (HB6.out.trans (hb7.mono HB6.out.size)); obtain ⟨a0, a1, a2⟩ := HC.out w7 HB7.out; clear hb7))
  have hs1b : -1 ≤ s1 ∧ s1 ≤ 1 := by omega
  have hs2b : -1 ≤ s2 ∧ s2 ≤ 1 := by omega
  have hi1 : (a : Int) < (m : Int) := by omega
  have hi2 : (c' : Int) < (m : Int) := by omega
  have hi3 : (a : Int) < (q : Int) := by omega
  have hi4 : (c' : Int) < (q : Int) := by omega
  rcases hnpu : ((q1 : Int) - (p1 : Int) == 1) with _ | _
  · rcases hnpv : ((p1 : Int) - (q1 : Int) == 1) with _ | _
    · have hnp := near0 hnpu hnpv
      have HRY := Lib.hid (HNO.out (by rw [HPB.out, hnp]; simp))
      clear hnp
      go_upto_region 9 with fail
      go_quiet (fail)
      obtain ⟨V9, hV9⟩ : ∃ V, V = w7.drewN nq := ⟨_, rfl⟩
      have HB9 : Hid (Below W.heap.size W V9) := Lib.hid (by rw [hV9]; exact HB7.out.trans ((below_drewN_ _ _).mono HB7.out.size))
      rw [← hV9]
      clear hV9
      have hx9 := HX1.out.below HB9.out hl1
      have c0 := hx9.cell0
      have c1 := hx9.cell1
      have c2 := hx9.cell2
      have f0 := hx9.free 0
      have f1 := hx9.free 1
      have f2 := hx9.free 2
      go_wp2_with fail
      have hx9' := HX1.out.below HB9.out hl1
      have e2 := ((hx9'.set0 (.slice none 0 0)).set1 (.slice none 0 0)).set2 (.slice none 0 0)
      rw [HRY.out]
      refine bodyPost_ret (v := .tuple #[.agg #[.slice none 0 0, .slice none 0 0, .slice none 0 0], .int .i64 5]) ?_ ?_ ?_
      · exact results_row_tmp Tryd.results12 _ _ b1 _ _ rfl rfl (run_loadVar_row _ _ _ _ _ _ _ e2 Tryd.underlying26 rfl size_gauss)
      · rfl
      · have hb := HBW.out.trans (HB9.out.mono (by omega))
        exact ⟨_, _, _, rfl, OwnG.nil_ _ _, ((hb.setCell (p := ⟨b1, 0, none⟩) hl01 _).setCell (p := ⟨b1, 1, none⟩) hl01 _).setCell (p := ⟨b1, 2, none⟩) hl01 _⟩
    · have hnp := near2 hnpv
      rcases hnqu : ((q2 : Int) - (p2 : Int) == 1) with _ | _
      · rcases hnqv : ((p2 : Int) - (q2 : Int) == 1) with _ | _
        · have hnq := near0 hnqu hnqv
          have HRY := Lib.hid (HNO.out (by rw [HPB.out, hnq]; simp))
          clear hnq
          go_upto_region 9 with fail
          go_quiet (fail)
          obtain ⟨V9, hV9⟩ : ∃ V, V = w7.drewN nq := ⟨_, rfl⟩
          have HB9 : Hid (Below W.heap.size W V9) := Lib.hid (by rw [hV9]; exact HB7.out.trans ((below_drewN_ _ _).mono HB7.out.size))
          rw [← hV9]
          clear hV9
          have hx9 := HX1.out.below HB9.out hl1
          have c0 := hx9.cell0
          have c1 := hx9.cell1
          have c2 := hx9.cell2
          have f0 := hx9.free 0
          have f1 := hx9.free 1
          have f2 := hx9.free 2
          go_wp2_with fail
          have hx9' := HX1.out.below HB9.out hl1
          have e2 := ((hx9'.set0 (.slice none 0 0)).set1 (.slice none 0 0)).set2 (.slice none 0 0)
          rw [HRY.out]
          refine bodyPost_ret (v := .tuple #[.agg #[.slice none 0 0, .slice none 0 0, .slice none 0 0], .int .i64 5]) ?_ ?_ ?_
          · exact results_row_tmp Tryd.results12 _ _ b1 _ _ rfl rfl (run_loadVar_row _ _ _ _ _ _ _ e2 Tryd.underlying26 rfl size_gauss)
          · rfl
          · have hb := HBW.out.trans (HB9.out.mono (by omega))
            exact ⟨_, _, _, rfl, OwnG.nil_ _ _, ((hb.setCell (p := ⟨b1, 0, none⟩) hl01 _).setCell (p := ⟨b1, 1, none⟩) hl01 _).setCell (p := ⟨b1, 2, none⟩) hl01 _⟩
        · have hnq := near2 hnqv
          rcases hx1 : (s1 + s2 != 0) with _ | _
          · have hz1 : (s1 + s2 == 0) = true := by simpa using hx1
            rcases hx2 : (x1 != x2) with _ | _
            · have hz2 : (x1 == x2) = true := by simpa using hx2
              have HRY := Lib.hid (HYE.out (by rw [HPB.out, hnp, hnq, hz1, hz2]; rfl))
              clear hnp hnq hz1 hz2
              go_upto_region 9 with fail
              obtain ⟨gb, gc, rfl, rfl, y1, y2, y3, y4⟩ := HCL.out w7 HB7.out
              go_quiet (fail)
              obtain ⟨V9, hV9⟩ : ∃ V, V = w7.drewN nq := ⟨_, rfl⟩
              have HB9 : Hid (Below W.heap.size W V9) := Lib.hid (by rw [hV9]; exact HB7.out.trans ((below_drewN_ _ _).mono HB7.out.size))
              rw [← hV9]
              clear hV9
              obtain ⟨a0, a1, a2⟩ := HC.out V9 HB9.out
              go_wp2_with (go_at_call 27; have HBA : Hid (Below W.heap.size W (V9.alloc (.cells #[.int .i64 (a : Int), .int .i64 (c' : Int)] 2))) := Lib.hid (HB9.out.trans ((below_alloc _ _).mono HB9.out.size)); refine (without_any A (some gb) (some gc) _ n c m d q f 2 2 ws hs ss [(a : Int), (c' : Int)] _ (HRV.out _ HBA.out) (rd_pair _ _ _) (by omega) (by omega) (by omega) (by omega) HIN.out).mono ?_; rintro e w8 ⟨u8, t8, s8, rfl, ho8, hb8⟩; obtain ⟨A6, n6, d6, B6, m6, e6, C6, q6, f6, rfl, rfl, rfl⟩ := form3 ho8; have HO8 := Lib.hid (ho8.mono HBA.out.size); have HB8 : Hid (Below W.heap.size W w8) := Lib.hid (HBA.out.trans (hb8.mono HBA.out.size)); have hx8 := HX1.out.below HB8.out hl1; have c0 := hx8.cell0; have c1 := hx8.cell1; have c2 := hx8.cell2; have f0 := hx8.free 0; have f1 := hx8.free 1; have f2 := hx8.free 2; clear ho8 hb8)
              have hx8' := HX1.out.below HB8.out hl1
              have e2 := ((hx8'.set0 (.slice A6 n6 d6)).set1 (.slice B6 m6 e6)).set2 (.slice C6 q6 f6)
              have ho2 := (((HO8.out.off_ hl1 0 (.slice A6 n6 d6)).off_ hl1 1 (.slice B6 m6 e6)).off_ hl1 2 (.slice C6 q6 f6)).mono (by omega : b0 ≤ W.heap.size)
              rw [HRY.out]
              refine bodyPost_ret (v := .tuple #[.agg #[.slice A6 n6 d6, .slice B6 m6 e6, .slice C6 q6 f6], .int .i64 0]) ?_ ?_ ?_
              · exact results_row_tmp Tryd.results12 _ _ b1 _ _ rfl rfl (run_loadVar_row _ _ _ _ _ _ _ e2 Tryd.underlying26 rfl size_gauss)
              · rfl
              · have hb := HBW.out.trans (HB8.out.mono (by omega))
                exact ⟨_, _, _, rfl, ho2, ((hb.setCell (p := ⟨b1, 0, none⟩) hl01 _).setCell (p := ⟨b1, 1, none⟩) hl01 _).setCell (p := ⟨b1, 2, none⟩) hl01 _⟩
            · have hz2 : (x1 == x2) = false := by simpa using hx2
              have HRY := Lib.hid (HNO.out (by rw [HPB.out, hz2]; simp))
              clear hnp hnq hz1 hz2
              go_upto_region 9 with fail
              obtain ⟨gb, gc, rfl, rfl, y1, y2, y3, y4⟩ := HCL.out w7 HB7.out
              go_quiet (fail)
              obtain ⟨V9, hV9⟩ : ∃ V, V = w7.drewN nq := ⟨_, rfl⟩
              have HB9 : Hid (Below W.heap.size W V9) := Lib.hid (by rw [hV9]; exact HB7.out.trans ((below_drewN_ _ _).mono HB7.out.size))
              rw [← hV9]
              clear hV9
              have hx9 := HX1.out.below HB9.out hl1
              have c0 := hx9.cell0
              have c1 := hx9.cell1
              have c2 := hx9.cell2
              have f0 := hx9.free 0
              have f1 := hx9.free 1
              have f2 := hx9.free 2
              go_wp2_with fail
              have hx9' := HX1.out.below HB9.out hl1
              have e2 := ((hx9'.set0 (.slice none 0 0)).set1 (.slice none 0 0)).set2 (.slice none 0 0)
              rw [HRY.out]
              refine bodyPost_ret (v := .tuple #[.agg #[.slice none 0 0, .slice none 0 0, .slice none 0 0], .int .i64 5]) ?_ ?_ ?_
              · exact results_row_tmp Tryd.results12 _ _ b1 _ _ rfl rfl (run_loadVar_row _ _ _ _ _ _ _ e2 Tryd.underlying26 rfl size_gauss)
              · rfl
              · have hb := HBW.out.trans (HB9.out.mono (by omega))
                exact ⟨_, _, _, rfl, OwnG.nil_ _ _, ((hb.setCell (p := ⟨b1, 0, none⟩) hl01 _).setCell (p := ⟨b1, 1, none⟩) hl01 _).setCell (p := ⟨b1, 2, none⟩) hl01 _⟩
          · have hz1 : (s1 + s2 == 0) = false := by simpa using hx1
            have HRY := Lib.hid (HNO.out (by rw [HPB.out, hz1]; simp))
            clear hnp hnq hz1
            go_upto_region 9 with fail
            obtain ⟨gb, gc, rfl, rfl, y1, y2, y3, y4⟩ := HCL.out w7 HB7.out
            go_quiet (fail)
            obtain ⟨V9, hV9⟩ : ∃ V, V = w7.drewN nq := ⟨_, rfl⟩
            have HB9 : Hid (Below W.heap.size W V9) := Lib.hid (by rw [hV9]; exact HB7.out.trans ((below_drewN_ _ _).mono HB7.out.size))
            rw [← hV9]
            clear hV9
            have hx9 := HX1.out.below HB9.out hl1
            have c0 := hx9.cell0
            have c1 := hx9.cell1
            have c2 := hx9.cell2
            have f0 := hx9.free 0
            have f1 := hx9.free 1
            have f2 := hx9.free 2
            go_wp2_with fail
            have hx9' := HX1.out.below HB9.out hl1
            have e2 := ((hx9'.set0 (.slice none 0 0)).set1 (.slice none 0 0)).set2 (.slice none 0 0)
            rw [HRY.out]
            refine bodyPost_ret (v := .tuple #[.agg #[.slice none 0 0, .slice none 0 0, .slice none 0 0], .int .i64 5]) ?_ ?_ ?_
            · exact results_row_tmp Tryd.results12 _ _ b1 _ _ rfl rfl (run_loadVar_row _ _ _ _ _ _ _ e2 Tryd.underlying26 rfl size_gauss)
            · rfl
            · have hb := HBW.out.trans (HB9.out.mono (by omega))
              exact ⟨_, _, _, rfl, OwnG.nil_ _ _, ((hb.setCell (p := ⟨b1, 0, none⟩) hl01 _).setCell (p := ⟨b1, 1, none⟩) hl01 _).setCell (p := ⟨b1, 2, none⟩) hl01 _⟩
      · have hnq := near1 hnqu
        rcases hx1 : (s1 + s2 != 0) with _ | _
        · have hz1 : (s1 + s2 == 0) = true := by simpa using hx1
          rcases hx2 : (x1 != x2) with _ | _
          · have hz2 : (x1 == x2) = true := by simpa using hx2
            have HRY := Lib.hid (HYE.out (by rw [HPB.out, hnp, hnq, hz1, hz2]; rfl))
            clear hnp hnq hz1 hz2
            go_upto_region 9 with fail
            obtain ⟨gb, gc, rfl, rfl, y1, y2, y3, y4⟩ := HCL.out w7 HB7.out
            go_quiet (fail)
            obtain ⟨V9, hV9⟩ : ∃ V, V = w7.drewN nq := ⟨_, rfl⟩
            have HB9 : Hid (Below W.heap.size W V9) := Lib.hid (by rw [hV9]; exact HB7.out.trans ((below_drewN_ _ _).mono HB7.out.size))
            rw [← hV9]
            clear hV9
            obtain ⟨a0, a1, a2⟩ := HC.out V9 HB9.out
            go_wp2_with (go_at_call 27; have HBA : Hid (Below W.heap.size W (V9.alloc (.cells #[.int .i64 (a : Int), .int .i64 (c' : Int)] 2))) := Lib.hid (HB9.out.trans ((below_alloc _ _).mono HB9.out.size)); refine (without_any A (some gb) (some gc) _ n c m d q f 2 2 ws hs ss [(a : Int), (c' : Int)] _ (HRV.out _ HBA.out) (rd_pair _ _ _) (by omega) (by omega) (by omega) (by omega) HIN.out).mono ?_; rintro e w8 ⟨u8, t8, s8, rfl, ho8, hb8⟩; obtain ⟨A6, n6, d6, B6, m6, e6, C6, q6, f6, rfl, rfl, rfl⟩ := form3 ho8; have HO8 := Lib.hid (ho8.mono HBA.out.size); have HB8 : Hid (Below W.heap.size W w8) := Lib.hid (HBA.out.trans (hb8.mono HBA.out.size)); have hx8 := HX1.out.below HB8.out hl1; have c0 := hx8.cell0; have c1 := hx8.cell1; have c2 := hx8.cell2; have f0 := hx8.free 0; have f1 := hx8.free 1; have f2 := hx8.free 2; clear ho8 hb8)
            have hx8' := HX1.out.below HB8.out hl1
            have e2 := ((hx8'.set0 (.slice A6 n6 d6)).set1 (.slice B6 m6 e6)).set2 (.slice C6 q6 f6)
            have ho2 := (((HO8.out.off_ hl1 0 (.slice A6 n6 d6)).off_ hl1 1 (.slice B6 m6 e6)).off_ hl1 2 (.slice C6 q6 f6)).mono (by omega : b0 ≤ W.heap.size)
            rw [HRY.out]
            refine bodyPost_ret (v := .tuple #[.agg #[.slice A6 n6 d6, .slice B6 m6 e6, .slice C6 q6 f6], .int .i64 0]) ?_ ?_ ?_
            · exact results_row_tmp Tryd.results12 _ _ b1 _ _ rfl rfl (run_loadVar_row _ _ _ _ _ _ _ e2 Tryd.underlying26 rfl size_gauss)
            · rfl
            · have hb := HBW.out.trans (HB8.out.mono (by omega))
              exact ⟨_, _, _, rfl, ho2, ((hb.setCell (p := ⟨b1, 0, none⟩) hl01 _).setCell (p := ⟨b1, 1, none⟩) hl01 _).setCell (p := ⟨b1, 2, none⟩) hl01 _⟩
          · have hz2 : (x1 == x2) = false := by simpa using hx2
            have HRY := Lib.hid (HNO.out (by rw [HPB.out, hz2]; simp))
            clear hnp hnq hz1 hz2
            go_upto_region 9 with fail
            obtain ⟨gb, gc, rfl, rfl, y1, y2, y3, y4⟩ := HCL.out w7 HB7.out
            go_quiet (fail)
            obtain ⟨V9, hV9⟩ : ∃ V, V = w7.drewN nq := ⟨_, rfl⟩
            have HB9 : Hid (Below W.heap.size W V9) := Lib.hid (by rw [hV9]; exact HB7.out.trans ((below_drewN_ _ _).mono HB7.out.size))
            rw [← hV9]
            clear hV9
            have hx9 := HX1.out.below HB9.out hl1
            have c0 := hx9.cell0
            have c1 := hx9.cell1
            have c2 := hx9.cell2
            have f0 := hx9.free 0
            have f1 := hx9.free 1
            have f2 := hx9.free 2
            go_wp2_with fail
            have hx9' := HX1.out.below HB9.out hl1
            have e2 := ((hx9'.set0 (.slice none 0 0)).set1 (.slice none 0 0)).set2 (.slice none 0 0)
            rw [HRY.out]
            refine bodyPost_ret (v := .tuple #[.agg #[.slice none 0 0, .slice none 0 0, .slice none 0 0], .int .i64 5]) ?_ ?_ ?_
            · exact results_row_tmp Tryd.results12 _ _ b1 _ _ rfl rfl (run_loadVar_row _ _ _ _ _ _ _ e2 Tryd.underlying26 rfl size_gauss)
            · rfl
            · have hb := HBW.out.trans (HB9.out.mono (by omega))
              exact ⟨_, _, _, rfl, OwnG.nil_ _ _, ((hb.setCell (p := ⟨b1, 0, none⟩) hl01 _).setCell (p := ⟨b1, 1, none⟩) hl01 _).setCell (p := ⟨b1, 2, none⟩) hl01 _⟩
        · have hz1 : (s1 + s2 == 0) = false := by simpa using hx1
          have HRY := Lib.hid (HNO.out (by rw [HPB.out, hz1]; simp))
          clear hnp hnq hz1
          go_upto_region 9 with fail
          obtain ⟨gb, gc, rfl, rfl, y1, y2, y3, y4⟩ := HCL.out w7 HB7.out
          go_quiet (fail)
          obtain ⟨V9, hV9⟩ : ∃ V, V = w7.drewN nq := ⟨_, rfl⟩
          have HB9 : Hid (Below W.heap.size W V9) := Lib.hid (by rw [hV9]; exact HB7.out.trans ((below_drewN_ _ _).mono HB7.out.size))
          rw [← hV9]
          clear hV9
          have hx9 := HX1.out.below HB9.out hl1
          have c0 := hx9.cell0
          have c1 := hx9.cell1
          have c2 := hx9.cell2
          have f0 := hx9.free 0
          have f1 := hx9.free 1
          have f2 := hx9.free 2
          go_wp2_with fail
          have hx9' := HX1.out.below HB9.out hl1
          have e2 := ((hx9'.set0 (.slice none 0 0)).set1 (.slice none 0 0)).set2 (.slice none 0 0)
          rw [HRY.out]
          refine bodyPost_ret (v := .tuple #[.agg #[.slice none 0 0, .slice none 0 0, .slice none 0 0], .int .i64 5]) ?_ ?_ ?_
          · exact results_row_tmp Tryd.results12 _ _ b1 _ _ rfl rfl (run_loadVar_row _ _ _ _ _ _ _ e2 Tryd.underlying26 rfl size_gauss)
          · rfl
          · have hb := HBW.out.trans (HB9.out.mono (by omega))
            exact ⟨_, _, _, rfl, OwnG.nil_ _ _, ((hb.setCell (p := ⟨b1, 0, none⟩) hl01 _).setCell (p := ⟨b1, 1, none⟩) hl01 _).setCell (p := ⟨b1, 2, none⟩) hl01 _⟩
  · have hnp := near1 hnpu
    rcases hnqu : ((q2 : Int) - (p2 : Int) == 1) with _ | _
    · rcases hnqv : ((p2 : Int) - (q2 : Int) == 1) with _ | _
      · have hnq := near0 hnqu hnqv
        have HRY := Lib.hid (HNO.out (by rw [HPB.out, hnq]; simp))
        clear hnq
        go_upto_region 9 with fail
        go_quiet (fail)
        obtain ⟨V9, hV9⟩ : ∃ V, V = w7.drewN nq := ⟨_, rfl⟩
        have HB9 : Hid (Below W.heap.size W V9) := Lib.hid (by rw [hV9]; exact HB7.out.trans ((below_drewN_ _ _).mono HB7.out.size))
        rw [← hV9]
        clear hV9
        have hx9 := HX1.out.below HB9.out hl1
        have c0 := hx9.cell0
        have c1 := hx9.cell1
        have c2 := hx9.cell2
        have f0 := hx9.free 0
        have f1 := hx9.free 1
        have f2 := hx9.free 2
        go_wp2_with fail
        have hx9' := HX1.out.below HB9.out hl1
        have e2 := ((hx9'.set0 (.slice none 0 0)).set1 (.slice none 0 0)).set2 (.slice none 0 0)
        rw [HRY.out]
        refine bodyPost_ret (v := .tuple #[.agg #[.slice none 0 0, .slice none 0 0, .slice none 0 0], .int .i64 5]) ?_ ?_ ?_
        · exact results_row_tmp Tryd.results12 _ _ b1 _ _ rfl rfl (run_loadVar_row _ _ _ _ _ _ _ e2 Tryd.underlying26 rfl size_gauss)
        · rfl
        · have hb := HBW.out.trans (HB9.out.mono (by omega))
          exact ⟨_, _, _, rfl, OwnG.nil_ _ _, ((hb.setCell (p := ⟨b1, 0, none⟩) hl01 _).setCell (p := ⟨b1, 1, none⟩) hl01 _).setCell (p := ⟨b1, 2, none⟩) hl01 _⟩
      · have hnq := near2 hnqv
        rcases hx1 : (s1 + s2 != 0) with _ | _
        · have hz1 : (s1 + s2 == 0) = true := by simpa using hx1
          rcases hx2 : (x1 != x2) with _ | _
          · have hz2 : (x1 == x2) = true := by simpa using hx2
            have HRY := Lib.hid (HYE.out (by rw [HPB.out, hnp, hnq, hz1, hz2]; rfl))
            clear hnp hnq hz1 hz2
            go_upto_region 9 with fail
            obtain ⟨gb, gc, rfl, rfl, y1, y2, y3, y4⟩ := HCL.out w7 HB7.out
            go_quiet (fail)
            obtain ⟨V9, hV9⟩ : ∃ V, V = w7.drewN nq := ⟨_, rfl⟩
            have HB9 : Hid (Below W.heap.size W V9) := Lib.hid (by rw [hV9]; exact HB7.out.trans ((below_drewN_ _ _).mono HB7.out.size))
            rw [← hV9]
            clear hV9
            obtain ⟨a0, a1, a2⟩ := HC.out V9 HB9.out
            go_wp2_with (go_at_call 27; have HBA : Hid (Below W.heap.size W (V9.alloc (.cells #[.int .i64 (a : Int), .int .i64 (c' : Int)] 2))) := Lib.hid (HB9.out.trans ((below_alloc _ _).mono HB9.out.size)); refine (without_any A (some gb) (some gc) _ n c m d q f 2 2 ws hs ss [(a : Int), (c' : Int)] _ (HRV.out _ HBA.out) (rd_pair _ _ _) (by omega) (by omega) (by omega) (by omega) HIN.out).mono ?_; rintro e w8 ⟨u8, t8, s8, rfl, ho8, hb8⟩; obtain ⟨A6, n6, d6, B6, m6, e6, C6, q6, f6, rfl, rfl, rfl⟩ := form3 ho8; have HO8 := Lib.hid (ho8.mono HBA.out.size); have HB8 : Hid (Below W.heap.size W w8) := Lib.hid (HBA.out.trans (hb8.mono HBA.out.size)); have hx8 := HX1.out.below HB8.out hl1; have c0 := hx8.cell0; have c1 := hx8.cell1; have c2 := hx8.cell2; have f0 := hx8.free 0; have f1 := hx8.free 1; have f2 := hx8.free 2; clear ho8 hb8)
            have hx8' := HX1.out.below HB8.out hl1
            have e2 := ((hx8'.set0 (.slice A6 n6 d6)).set1 (.slice B6 m6 e6)).set2 (.slice C6 q6 f6)
            have ho2 := (((HO8.out.off_ hl1 0 (.slice A6 n6 d6)).off_ hl1 1 (.slice B6 m6 e6)).off_ hl1 2 (.slice C6 q6 f6)).mono (by omega : b0 ≤ W.heap.size)
            rw [HRY.out]
            refine bodyPost_ret (v := .tuple #[.agg #[.slice A6 n6 d6, .slice B6 m6 e6, .slice C6 q6 f6], .int .i64 0]) ?_ ?_ ?_
            · exact results_row_tmp Tryd.results12 _ _ b1 _ _ rfl rfl (run_loadVar_row _ _ _ _ _ _ _ e2 Tryd.underlying26 rfl size_gauss)
            · rfl
            · have hb := HBW.out.trans (HB8.out.mono (by omega))
              exact ⟨_, _, _, rfl, ho2, ((hb.setCell (p := ⟨b1, 0, none⟩) hl01 _).setCell (p := ⟨b1, 1, none⟩) hl01 _).setCell (p := ⟨b1, 2, none⟩) hl01 _⟩
          · have hz2 : (x1 == x2) = false := by simpa using hx2
            have HRY := Lib.hid (HNO.out (by rw [HPB.out, hz2]; simp))
            clear hnp hnq hz1 hz2
            go_upto_region 9 with fail
            obtain ⟨gb, gc, rfl, rfl, y1, y2, y3, y4⟩ := HCL.out w7 HB7.out
            go_quiet (fail)
            obtain ⟨V9, hV9⟩ : ∃ V, V = w7.drewN nq := ⟨_, rfl⟩
            have HB9 : Hid (Below W.heap.size W V9) := Lib.hid (by rw [hV9]; exact HB7.out.trans ((below_drewN_ _ _).mono HB7.out.size))
            rw [← hV9]
            clear hV9
            have hx9 := HX1.out.below HB9.out hl1
            have c0 := hx9.cell0
            have c1 := hx9.cell1
            have c2 := hx9.cell2
            have f0 := hx9.free 0
            have f1 := hx9.free 1
            have f2 := hx9.free 2
            go_wp2_with fail
            have hx9' := HX1.out.below HB9.out hl1
            have e2 := ((hx9'.set0 (.slice none 0 0)).set1 (.slice none 0 0)).set2 (.slice none 0 0)
            rw [HRY.out]
            refine bodyPost_ret (v := .tuple #[.agg #[.slice none 0 0, .slice none 0 0, .slice none 0 0], .int .i64 5]) ?_ ?_ ?_
            · exact results_row_tmp Tryd.results12 _ _ b1 _ _ rfl rfl (run_loadVar_row _ _ _ _ _ _ _ e2 Tryd.underlying26 rfl size_gauss)
            · rfl
            · have hb := HBW.out.trans (HB9.out.mono (by omega))
              exact ⟨_, _, _, rfl, OwnG.nil_ _ _, ((hb.setCell (p := ⟨b1, 0, none⟩) hl01 _).setCell (p := ⟨b1, 1, none⟩) hl01 _).setCell (p := ⟨b1, 2, none⟩) hl01 _⟩
        · have hz1 : (s1 + s2 == 0) = false := by simpa using hx1
          have HRY := Lib.hid (HNO.out (by rw [HPB.out, hz1]; simp))
          clear hnp hnq hz1
          go_upto_region 9 with fail
          obtain ⟨gb, gc, rfl, rfl, y1, y2, y3, y4⟩ := HCL.out w7 HB7.out
          go_quiet (fail)
          obtain ⟨V9, hV9⟩ : ∃ V, V = w7.drewN nq := ⟨_, rfl⟩
          have HB9 : Hid (Below W.heap.size W V9) := Lib.hid (by rw [hV9]; exact HB7.out.trans ((below_drewN_ _ _).mono HB7.out.size))
          rw [← hV9]
          clear hV9
          have hx9 := HX1.out.below HB9.out hl1
          have c0 := hx9.cell0
          have c1 := hx9.cell1
          have c2 := hx9.cell2
          have f0 := hx9.free 0
          have f1 := hx9.free 1
          have f2 := hx9.free 2
          go_wp2_with fail
          have hx9' := HX1.out.below HB9.out hl1
          have e2 := ((hx9'.set0 (.slice none 0 0)).set1 (.slice none 0 0)).set2 (.slice none 0 0)
          rw [HRY.out]
          refine bodyPost_ret (v := .tuple #[.agg #[.slice none 0 0, .slice none 0 0, .slice none 0 0], .int .i64 5]) ?_ ?_ ?_
          · exact results_row_tmp Tryd.results12 _ _ b1 _ _ rfl rfl (run_loadVar_row _ _ _ _ _ _ _ e2 Tryd.underlying26 rfl size_gauss)
          · rfl
          · have hb := HBW.out.trans (HB9.out.mono (by omega))
            exact ⟨_, _, _, rfl, OwnG.nil_ _ _, ((hb.setCell (p := ⟨b1, 0, none⟩) hl01 _).setCell (p := ⟨b1, 1, none⟩) hl01 _).setCell (p := ⟨b1, 2, none⟩) hl01 _⟩
    · have hnq := near1 hnqu
      rcases hx1 : (s1 + s2 != 0) with _ | _
      · have hz1 : (s1 + s2 == 0) = true := by simpa using hx1
        rcases hx2 : (x1 != x2) with _ | _
        · have hz2 : (x1 == x2) = true := by simpa using hx2
          have HRY := Lib.hid (HYE.out (by rw [HPB.out, hnp, hnq, hz1, hz2]; rfl))
          clear hnp hnq hz1 hz2
          go_upto_region 9 with fail
          obtain ⟨gb, gc, rfl, rfl, y1, y2, y3, y4⟩ := HCL.out w7 HB7.out
          go_quiet (fail)
          obtain ⟨V9, hV9⟩ : ∃ V, V = w7.drewN nq := ⟨_, rfl⟩
          have HB9 : Hid (Below W.heap.size W V9) := Lib.hid (by rw [hV9]; exact HB7.out.trans ((below_drewN_ _ _).mono HB7.out.size))
          rw [← hV9]
          clear hV9
          obtain ⟨a0, a1, a2⟩ := HC.out V9 HB9.out
          go_wp2_with (go_at_call 27; have HBA : Hid (Below W.heap.size W (V9.alloc (.cells #[.int .i64 (a : Int), .int .i64 (c' : Int)] 2))) := Lib.hid (HB9.out.trans ((below_alloc _ _).mono HB9.out.size)); refine (without_any A (some gb) (some gc) _ n c m d q f 2 2 ws hs ss [(a : Int), (c' : Int)] _ (HRV.out _ HBA.out) (rd_pair _ _ _) (by omega) (by omega) (by omega) (by omega) HIN.out).mono ?_; rintro e w8 ⟨u8, t8, s8, rfl, ho8, hb8⟩; obtain ⟨A6, n6, d6, B6, m6, e6, C6, q6, f6, rfl, rfl, rfl⟩ := form3 ho8; have HO8 := Lib.hid (ho8.mono HBA.out.size); have HB8 : Hid (Below W.heap.size W w8) := Lib.hid (HBA.out.trans (hb8.mono HBA.out.size)); have hx8 := HX1.out.below HB8.out hl1; have c0 := hx8.cell0; have c1 := hx8.cell1; have c2 := hx8.cell2; have f0 := hx8.free 0; have f1 := hx8.free 1; have f2 := hx8.free 2; clear ho8 hb8)
          have hx8' := HX1.out.below HB8.out hl1
          have e2 := ((hx8'.set0 (.slice A6 n6 d6)).set1 (.slice B6 m6 e6)).set2 (.slice C6 q6 f6)
          have ho2 := (((HO8.out.off_ hl1 0 (.slice A6 n6 d6)).off_ hl1 1 (.slice B6 m6 e6)).off_ hl1 2 (.slice C6 q6 f6)).mono (by omega : b0 ≤ W.heap.size)
          rw [HRY.out]
          refine bodyPost_ret (v := .tuple #[.agg #[.slice A6 n6 d6, .slice B6 m6 e6, .slice C6 q6 f6], .int .i64 0]) ?_ ?_ ?_
          · exact results_row_tmp Tryd.results12 _ _ b1 _ _ rfl rfl (run_loadVar_row _ _ _ _ _ _ _ e2 Tryd.underlying26 rfl size_gauss)
          · rfl
          · have hb := HBW.out.trans (HB8.out.mono (by omega))
            exact ⟨_, _, _, rfl, ho2, ((hb.setCell (p := ⟨b1, 0, none⟩) hl01 _).setCell (p := ⟨b1, 1, none⟩) hl01 _).setCell (p := ⟨b1, 2, none⟩) hl01 _⟩
        · have hz2 : (x1 == x2) = false := by simpa using hx2
          have HRY := Lib.hid (HNO.out (by rw [HPB.out, hz2]; simp))
          clear hnp hnq hz1 hz2
          go_upto_region 9 with fail
          obtain ⟨gb, gc, rfl, rfl, y1, y2, y3, y4⟩ := HCL.out w7 HB7.out
          go_quiet (fail)
          obtain ⟨V9, hV9⟩ : ∃ V, V = w7.drewN nq := ⟨_, rfl⟩
          have HB9 : Hid (Below W.heap.size W V9) := Lib.hid (by rw [hV9]; exact HB7.out.trans ((below_drewN_ _ _).mono HB7.out.size))
          rw [← hV9]
          clear hV9
          have hx9 := HX1.out.below HB9.out hl1
          have c0 := hx9.cell0
          have c1 := hx9.cell1
          have c2 := hx9.cell2
          have f0 := hx9.free 0
          have f1 := hx9.free 1
          have f2 := hx9.free 2
          go_wp2_with fail
          have hx9' := HX1.out.below HB9.out hl1
          have e2 := ((hx9'.set0 (.slice none 0 0)).set1 (.slice none 0 0)).set2 (.slice none 0 0)
          rw [HRY.out]
          refine bodyPost_ret (v := .tuple #[.agg #[.slice none 0 0, .slice none 0 0, .slice none 0 0], .int .i64 5]) ?_ ?_ ?_
          · exact results_row_tmp Tryd.results12 _ _ b1 _ _ rfl rfl (run_loadVar_row _ _ _ _ _ _ _ e2 Tryd.underlying26 rfl size_gauss)
          · rfl
          · have hb := HBW.out.trans (HB9.out.mono (by omega))
            exact ⟨_, _, _, rfl, OwnG.nil_ _ _, ((hb.setCell (p := ⟨b1, 0, none⟩) hl01 _).setCell (p := ⟨b1, 1, none⟩) hl01 _).setCell (p := ⟨b1, 2, none⟩) hl01 _⟩
      · have hz1 : (s1 + s2 == 0) = false := by simpa using hx1
        have HRY := Lib.hid (HNO.out (by rw [HPB.out, hz1]; simp))
        clear hnp hnq hz1
        go_upto_region 9 with fail
        obtain ⟨gb, gc, rfl, rfl, y1, y2, y3, y4⟩ := HCL.out w7 HB7.out
        go_quiet (fail)
        obtain ⟨V9, hV9⟩ : ∃ V, V = w7.drewN nq := ⟨_, rfl⟩
        have HB9 : Hid (Below W.heap.size W V9) := Lib.hid (by rw [hV9]; exact HB7.out.trans ((below_drewN_ _ _).mono HB7.out.size))
        rw [← hV9]
        clear hV9
        have hx9 := HX1.out.below HB9.out hl1
        have c0 := hx9.cell0
        have c1 := hx9.cell1
        have c2 := hx9.cell2
        have f0 := hx9.free 0
        have f1 := hx9.free 1
        have f2 := hx9.free 2
        go_wp2_with fail
        have hx9' := HX1.out.below HB9.out hl1
        have e2 := ((hx9'.set0 (.slice none 0 0)).set1 (.slice none 0 0)).set2 (.slice none 0 0)
        rw [HRY.out]
        refine bodyPost_ret (v := .tuple #[.agg #[.slice none 0 0, .slice none 0 0, .slice none 0 0], .int .i64 5]) ?_ ?_ ?_
        · exact results_row_tmp Tryd.results12 _ _ b1 _ _ rfl rfl (run_loadVar_row _ _ _ _ _ _ _ e2 Tryd.underlying26 rfl size_gauss)
        · rfl
        · have hb := HBW.out.trans (HB9.out.mono (by omega))
          exact ⟨_, _, _, rfl, OwnG.nil_ _ _, ((hb.setCell (p := ⟨b1, 0, none⟩) hl01 _).setCell (p := ⟨b1, 1, none⟩) hl01 _).setCell (p := ⟨b1, 2, none⟩) hl01 _⟩
end Go.Proofs.YtiedekdghdgocaaDoor
