/- ParseGauss: the model's side. -/
import Derived.Test.YtpeckofpgiabaaaGParse
namespace Go.Proofs.Ytpeckofpgiabaaa
open Go.RowKit
set_option linter.unusedVariables false
set_option linter.unusedSimpArgs false
set_option maxRecDepth 100000

theorem own_none (V : World) (lo : Nat) (hlo : lo ≤ V.heap.size) : Own (V.alloc (.cells #[] 2)) lo (.slice (some ⟨V.heap.size, 0, none⟩) 0 0) [] := World.ownsRow_lit V #[] 0 hlo (by decide) rfl
set_option maxHeartbeats 16000000 in
theorem specGRead_any (s : ByteArray) (w : World) (hn : s.size ≤ 1048576) :
    Calls Try.prog 40 #[.string s] w fun e w' => ∃ A1 n1 c1 B1 m1 d1 C1 s1 t1, e = .returned (.tuple #[.agg #[.slice A1 n1 c1, .slice B1 m1 d1, .slice C1 s1 t1], .bool (readB s)]) ∧ (readB s = true → OwnG w' w.heap.size (.slice A1 n1 c1) (.slice B1 m1 d1) (.slice C1 s1 t1) (rdTo s s.size).1 (rdTo s s.size).2.1 (rdTo s s.size).2.2) ∧ Below w.heap.size w w' := by
  obtain ⟨lo, hlo⟩ : ∃ lo, lo = w.heap.size := ⟨_, rfl⟩
  obtain ⟨g1, hg1⟩ : ∃ g, g = lo + 1 := ⟨_, rfl⟩
  obtain ⟨g2, hg2⟩ : ∃ g, g = g1 + 1 := ⟨_, rfl⟩
  obtain ⟨g3, hg3⟩ : ∃ g, g = g2 + 1 := ⟨_, rfl⟩
  obtain ⟨g, hg⟩ : ∃ g, g = g3 + 1 := ⟨_, rfl⟩
  obtain ⟨W0, hW0⟩ : ∃ W, W = w.alloc (.cells #[.slice none 0 0, .slice none 0 0, .slice none 0 0] 27) := ⟨_, rfl⟩
  obtain ⟨W1, hW1⟩ : ∃ W, W = W0.alloc (.cells #[] 2) := ⟨_, rfl⟩
  obtain ⟨W2, hW2⟩ : ∃ W, W = W1.alloc (.cells #[] 2) := ⟨_, rfl⟩
  obtain ⟨W3, hW3⟩ : ∃ W, W = W2.alloc (.cells #[] 2) := ⟨_, rfl⟩
  obtain ⟨V, hV⟩ : ∃ W, W = W3.alloc (.cells #[.slice (some ⟨g1, 0, none⟩) 0 0, .slice (some ⟨g2, 0, none⟩) 0 0, .slice (some ⟨g3, 0, none⟩) 0 0] 27) := ⟨_, rfl⟩
  have s0 : W0.heap.size = g1 := by rw [hW0, hg1, hlo]; simp
  have s1 : W1.heap.size = g2 := by rw [hW1, World.size_alloc, s0, hg2]
  have s2 : W2.heap.size = g3 := by rw [hW2, World.size_alloc, s1, hg3]
  have s3 : W3.heap.size = g := by rw [hW3, World.size_alloc, s2, hg]
  have b0 : Below lo w W0 := by rw [hW0, hlo]; exact below_alloc _ _
  have b1 : Below W0.heap.size W0 W1 := by rw [hW1]; exact below_alloc _ _
  have b2 : Below W1.heap.size W1 W2 := by rw [hW2]; exact below_alloc _ _
  have b3 : Below W2.heap.size W2 W3 := by rw [hW3]; exact below_alloc _ _
  have b4 : Below W3.heap.size W3 V := by rw [hV]; exact below_alloc _ _
  have o1 : Own W1 lo (.slice (some ⟨g1, 0, none⟩) 0 0) [] := by rw [hW1, ← s0]; exact own_none W0 lo (by omega)
  have o2 : Own W2 lo (.slice (some ⟨g2, 0, none⟩) 0 0) [] := by rw [hW2, ← s1]; exact own_none W1 lo (by omega)
  have o3 : Own W3 lo (.slice (some ⟨g3, 0, none⟩) 0 0) [] := by rw [hW3, ← s2]; exact own_none W2 lo (by omega)
  have x0 : Box3 W0 lo 27 (.slice none 0 0) (.slice none 0 0) (.slice none 0 0) := by rw [hW0, hlo]; exact box3_new _ _ _ _ _
  have x4 : Box3 V g 27 (.slice (some ⟨g1, 0, none⟩) 0 0) (.slice (some ⟨g2, 0, none⟩) 0 0) (.slice (some ⟨g3, 0, none⟩) 0 0) := by rw [hV, ← s3]; exact box3_new _ _ _ _ _
  have b04 : Below W0.heap.size W0 V := ((b1.trans (b2.mono (by omega))).trans (b3.mono (by omega))).trans (b4.mono (by omega))
  have b24 : Below W1.heap.size W1 V := (b2.trans (b3.mono (by omega))).trans (b4.mono (by omega))
  have b34 : Below W2.heap.size W2 V := b3.trans (b4.mono (by omega))
  have x0' := x0.below b04 (by omega)
  have HINV : Hid (InvR w V lo g lo lo #[.slice none 0 0, .slice none 0 0, .slice none 0 0] 27 (0, 0) (rdTo s 0)) := Lib.hid ⟨⟨_, _, _, x4, ⟨o1.below b24, o2.below b34, o3.below b4, fun k hk h => by simp [Value.ownBlock] at hk h; omega, fun k hk h => by simp [Value.ownBlock] at hk h; omega, fun k hk h => by simp [Value.ownBlock] at hk h; omega⟩⟩, x0', x0', b0.trans (b04.mono (by omega))⟩
  have hT : (27 : TypeId) ≠ 2 := by decide
  have he0 : lo ≠ g := by omega
  have hlg : lo ≤ g := by omega
  have HLOW : Hid (lo = w.heap.size) := Lib.hid hlo
  have HG1 := Lib.hid hg1
  have HG2 := Lib.hid hg2
  have HG3 := Lib.hid hg3
  have HG4 := Lib.hid hg
  have HV : Hid (V = (((((w.alloc (.cells #[.slice none 0 0, .slice none 0 0, .slice none 0 0] 27)).alloc (.cells #[] 2)).alloc (.cells #[] 2)).alloc (.cells #[] 2)).alloc (.cells #[.slice (some ⟨g1, 0, none⟩) 0 0, .slice (some ⟨g2, 0, none⟩) 0 0, .slice (some ⟨g3, 0, none⟩) 0 0] 27))) := Lib.hid (by rw [hV, hW3, hW2, hW1, hW0])
  clear hV hW3 hW2 hW1 hW0 s0 s1 s2 s3 b0 b1 b2 b3 b4 o1 o2 o3 x0 x4 b04 b24 b34 x0' hg hg3 hg2 hg1 hlo
  rw [← HLOW.out]
  go_enter Try.func40, Try.ntmps40
  go_upto_region 2 with fail
  rw [← HLOW.out, ← HG1.out, ← HG2.out, ← HG3.out, ← HG4.out, ← HV.out]
  by_cases h24 : s.size ≤ 24
  case neg =>
    have HR : Hid (readB s = false) := Lib.hid (by unfold readB; rw [show decide (s.size ≤ 24) = false by simpa using h24]; rfl)
    obtain ⟨⟨u, v, z, hb3, ho⟩, h0, hB, hw⟩ := HINV.out
    obtain ⟨A1, n1, c1, B1, m1, d1, C1, s1, t1, rfl, rfl, rfl⟩ := form3 ho
    have y0 := hb3.cell0
    have y1 := hb3.cell1
    have y2 := hb3.cell2
    have q0 := h0.cell0
    have q1 := h0.cell1
    have q2 := h0.cell2
    have f0 := h0.free 0
    have f1 := h0.free 1
    have f2 := h0.free 2
    have HX := Lib.hid h0
    have HBZ := Lib.hid hw
    have h24' : (24 : Int) < s.size := by omega
    clear hb3 ho h0 hB hw h24 HINV
    go_wp2_with fail
    refine bodyPost_ret (v := .tuple #[.agg #[.slice A1 n1 c1, .slice B1 m1 d1, .slice C1 s1 t1], .bool false]) ?_ ?_ ?_
    · exact results_row_tmp Try.results40 _ _ lo _ _ rfl rfl (run_loadVar_row _ _ _ _ _ _ _ (((HX.out.set0 (.slice A1 n1 c1)).set1 (.slice B1 m1 d1)).set2 (.slice C1 s1 t1)) Try.underlying27 rfl size_gauss)
    · rfl
    · exact ⟨_, _, _, _, _, _, _, _, _, by rw [HR.out], (fun h => absurd (HR.out.symm.trans h) (by decide)), ((HBZ.out.setCell (p := ⟨lo, 0, none⟩) (Nat.le_refl _) _).setCell (p := ⟨lo, 1, none⟩) (Nat.le_refl _) _).setCell (p := ⟨lo, 2, none⟩) (Nat.le_refl _) _⟩
  have h24' : (s.size : Int) ≤ 24 := by omega
  go_wp2_with fail
  go_loopw [5] (fun i wr => ∃ k : Nat, k ≤ s.size ∧ i = .int .i64 k ∧ Hid (InvR w wr lo g lo lo #[.slice none 0 0, .slice none 0 0, .slice none 0 0] 27 (0, 0) (rdTo s k))) (fun i _ => s.size - (intOf i).toNat)
  case atStart => exact ⟨0, by omega, rfl, HINV⟩
  case round =>
    clear HINV
    obtain ⟨k, hk, rfl, hinv0⟩ := hrel
    by_cases hlt : k < s.size
    · have HRS : Hid (rdTo s (k + 1) = rdStep (rdTo s k) (s[k].toNat : Int)) := Lib.hid (rdTo_succ s k hlt)
      have hy0 := s[k].toNat_lt
      have heB := he0
      obtain ⟨⟨u, v, z, hb3, ho⟩, h0, hB, hw⟩ := hinv0.out
      clear hinv0
      obtain ⟨A1, n1, c1, B1, m1, d1, C1, s1, t1, rfl, rfl, rfl⟩ := form3 ho
      have hlen := rdTo_len s k hk
      have HLN0 : Hid ((rdTo s k).1.length ≤ 1099511627776) := Lib.hid (by omega)
      have HLN1 : Hid ((rdTo s k).2.1.length ≤ 1099511627776) := Lib.hid (by omega)
      have HLN2 : Hid ((rdTo s k).2.2.length ≤ 1099511627776) := Lib.hid (by omega)
      have HB3 := Lib.hid hb3
      have HO := Lib.hid ho
      have H0 := Lib.hid h0
      have HBB := Lib.hid hB
      have HW := Lib.hid hw
      have hsz : lo ≤ wr.heap.size := by have h1 := hw.size; have h2 := HLOW.out; omega
      have p0 := hb3.cell0
      have p1 := hb3.cell1
      have p2 := hb3.cell2
      clear hb3 ho h0 hB hw hlen
      by_cases h43 : (s[k].toNat : Int) = 43
      case pos =>
        have HE : Hid (rdTo s (k + 1) = ((rdTo s k).1, (rdTo s k).2.1, (rdTo s k).2.2 ++ [1])) := Lib.hid (by rw [HRS.out]; exact rd_plus h43)
        have e43 : ((s[k].toNat : Int) == 43) = true := by rw [beq_iff_eq]; exact h43
        clear h43
        go_wp2_with (at_builtin; refine push_int wr rfl (.tmp 36) (.tmp 37) rfl lo _ (rdTo s k).2.2 (1) rfl HO.out.signs rfl HLN2.out hsz ?_; intro v1 w1 ho1 hg1 hat1; obtain ⟨Ax, nx, cx, hvx, _, _⟩ := ho1.form'; subst hvx; obtain ⟨hk1, hinv⟩ := inv_push2 (r := rdTo s k) HB3.out HO.out H0.out HBB.out HW.out hT he0 heB hlg hsz ho1 hg1 hat1; have d2 := hk1.cell2; have f2 := hk1.free 2; clear ho1 hg1 hat1 hk1)
        go_roundw
        case rel => exact ⟨k + 1, by omega, by go_num, by rw [HE.out]; exact hinv⟩
        case measure => simp [intOf]; omega
      by_cases h45 : (s[k].toNat : Int) = 45
      case pos =>
        have HE : Hid (rdTo s (k + 1) = ((rdTo s k).1, (rdTo s k).2.1, (rdTo s k).2.2 ++ [-1])) := Lib.hid (by rw [HRS.out]; exact rd_minus h45)
        have e43 : ((s[k].toNat : Int) == 43) = false := by rw [beq_eq_false_iff_ne]; exact h43
        have e45 : ((s[k].toNat : Int) == 45) = true := by rw [beq_iff_eq]; exact h45
        clear h43 h45
        go_wp2_with (at_builtin; refine push_int wr rfl (.tmp 43) (.tmp 44) rfl lo _ (rdTo s k).2.2 (-1) rfl HO.out.signs rfl HLN2.out hsz ?_; intro v1 w1 ho1 hg1 hat1; obtain ⟨Ax, nx, cx, hvx, _, _⟩ := ho1.form'; subst hvx; obtain ⟨hk1, hinv⟩ := inv_push2 (r := rdTo s k) HB3.out HO.out H0.out HBB.out HW.out hT he0 heB hlg hsz ho1 hg1 hat1; have d2 := hk1.cell2; have f2 := hk1.free 2; clear ho1 hg1 hat1 hk1)
        go_roundw
        case rel => exact ⟨k + 1, by omega, by go_num, by rw [HE.out]; exact hinv⟩
        case measure => simp [intOf]; omega
      by_cases h111 : (s[k].toNat : Int) = 111
      case pos =>
        have HE : Hid (rdTo s (k + 1) = ((rdTo s k).1, (rdTo s k).2.1 ++ [1], (rdTo s k).2.2)) := Lib.hid (by rw [HRS.out]; exact rd_over h111)
        have e43 : ((s[k].toNat : Int) == 43) = false := by rw [beq_eq_false_iff_ne]; exact h43
        have e45 : ((s[k].toNat : Int) == 45) = false := by rw [beq_eq_false_iff_ne]; exact h45
        have e111 : ((s[k].toNat : Int) == 111) = true := by rw [beq_iff_eq]; exact h111
        clear h43 h45 h111
        go_wp2_with (at_builtin; refine push_int wr rfl (.tmp 50) (.tmp 51) rfl lo _ (rdTo s k).2.1 (1) rfl HO.out.heads rfl HLN1.out hsz ?_; intro v1 w1 ho1 hg1 hat1; obtain ⟨Ax, nx, cx, hvx, _, _⟩ := ho1.form'; subst hvx; obtain ⟨hk1, hinv⟩ := inv_push1 (r := rdTo s k) HB3.out HO.out H0.out HBB.out HW.out hT he0 heB hlg hsz ho1 hg1 hat1; have d2 := hk1.cell1; have f2 := hk1.free 1; clear ho1 hg1 hat1 hk1)
        go_roundw
        case rel => exact ⟨k + 1, by omega, by go_num, by rw [HE.out]; exact hinv⟩
        case measure => simp [intOf]; omega
      by_cases h117 : (s[k].toNat : Int) = 117
      case pos =>
        have HE : Hid (rdTo s (k + 1) = ((rdTo s k).1, (rdTo s k).2.1 ++ [0], (rdTo s k).2.2)) := Lib.hid (by rw [HRS.out]; exact rd_under h117)
        have e43 : ((s[k].toNat : Int) == 43) = false := by rw [beq_eq_false_iff_ne]; exact h43
        have e45 : ((s[k].toNat : Int) == 45) = false := by rw [beq_eq_false_iff_ne]; exact h45
        have e111 : ((s[k].toNat : Int) == 111) = false := by rw [beq_eq_false_iff_ne]; exact h111
        have e117 : ((s[k].toNat : Int) == 117) = true := by rw [beq_iff_eq]; exact h117
        clear h43 h45 h111 h117
        go_wp2_with (at_builtin; refine push_int wr rfl (.tmp 57) (.tmp 58) rfl lo _ (rdTo s k).2.1 (0) rfl HO.out.heads rfl HLN1.out hsz ?_; intro v1 w1 ho1 hg1 hat1; obtain ⟨Ax, nx, cx, hvx, _, _⟩ := ho1.form'; subst hvx; obtain ⟨hk1, hinv⟩ := inv_push1 (r := rdTo s k) HB3.out HO.out H0.out HBB.out HW.out hT he0 heB hlg hsz ho1 hg1 hat1; have d2 := hk1.cell1; have f2 := hk1.free 1; clear ho1 hg1 hat1 hk1)
        go_roundw
        case rel => exact ⟨k + 1, by omega, by go_num, by rw [HE.out]; exact hinv⟩
        case measure => simp [intOf]; omega
      have HE : Hid (rdTo s (k + 1) = ((rdTo s k).1 ++ [IntKind.i64.wrap (IntKind.i64.wrap (s[k].toNat : Int) - 97)], (rdTo s k).2.1, (rdTo s k).2.2)) := Lib.hid (by rw [HRS.out, rd_letter h43 h45 h111 h117, show IntKind.i64.wrap (IntKind.i64.wrap (s[k].toNat : Int) - 97) = (s[k].toNat : Int) - 97 by simp [IntKind.wrap, IntKind.bits, IntKind.signed]; omega])
      have e43 : ((s[k].toNat : Int) == 43) = false := by rw [beq_eq_false_iff_ne]; exact h43
      have e45 : ((s[k].toNat : Int) == 45) = false := by rw [beq_eq_false_iff_ne]; exact h45
      have e111 : ((s[k].toNat : Int) == 111) = false := by rw [beq_eq_false_iff_ne]; exact h111
      have e117 : ((s[k].toNat : Int) == 117) = false := by rw [beq_eq_false_iff_ne]; exact h117
      clear h43 h45 h111 h117
      have HOA : Hid (Own (wr.alloc (.cells #[.int .i64 (IntKind.i64.wrap (IntKind.i64.wrap (s[k].toNat : Int) - 97))] 2)) lo (.slice A1 n1 c1) (rdTo s k).1) := Lib.hid (HO.out.word.below (below_alloc _ _))
      have HRA : Hid (Rd (wr.alloc (.cells #[.int .i64 (IntKind.i64.wrap (IntKind.i64.wrap (s[k].toNat : Int) - 97))] 2)) (some ⟨wr.heap.size, 0, none⟩) 1 [IntKind.i64.wrap (IntKind.i64.wrap (s[k].toNat : Int) - 97)]) := Lib.hid ⟨rfl, fun _ => ⟨_, rfl, by simp, fun j hj => by obtain rfl : j = 0 := (by omega); rw [add_row, World.cell?_alloc_at _ _ _ _ rfl]; rfl⟩⟩
      have hszA : lo ≤ (wr.alloc (.cells #[.int .i64 (IntKind.i64.wrap (IntKind.i64.wrap (s[k].toNat : Int) - 97))] 2)).heap.size := by simp; omega
      have HLA : Hid ((rdTo s k).1.length + 1 ≤ 1099511627776) := Lib.hid (by have := rdTo_len s k hk; omega)
      have HGA : Hid (∀ (w1 : World) (b : Option Nat), (wr.alloc (.cells #[.int .i64 (IntKind.i64.wrap (IntKind.i64.wrap (s[k].toNat : Int) - 97))] 2)).drew.grownBy w1 b → wr.grownBy w1 b) := Lib.hid (fun w1 b h => ⟨h.os, h.tape, h.output, Nat.le_trans (by simp) h.size, fun i hi hne => (h.block i (by simp; omega) hne).trans (Below.heap_alloc wr _ i hi)⟩)
      have a0 := fun o => (HB3.out.alloc o).cell0
      have a0d : ∀ o, (wr.alloc o).drew.cell? ⟨g, 0, none⟩ = some (.slice A1 n1 c1) := fun o => (HB3.out.alloc o).cell0
      go_upto_region 8 with fail
      go_region_law (first | (refine step_append_rd rfl (.tmp 24) (.tmp 30) rfl lo (.slice A1 n1 c1) (rdTo s k).1 [IntKind.i64.wrap (IntKind.i64.wrap (s[k].toNat : Int) - 97)] (by simp [Act.eval, Act.put]) HOA.out (some ⟨wr.heap.size, 0, none⟩) 1 1 (by simp [Act.eval, Act.put]) HRA.out HLA.out hszA ?_; intro v1 w1 ho1 hg1 hat1; obtain ⟨Ax, nx, cx, hvx, _, _⟩ := ho1.form'; subst hvx; obtain ⟨hk1, hinv⟩ := inv_push0 (r := rdTo s k) HB3.out HO.out H0.out HBB.out HW.out hT he0 heB hlg hsz ho1 (HGA.out _ _ hg1) (by simpa using hat1); have d2 := hk1.cell0; have f2 := hk1.free 0; clear ho1 hg1 hat1 hk1))
      all_goals go_wp2_with fail
      all_goals go_roundw
      all_goals first | exact ⟨k + 1, by omega, by go_num, by rw [HE.out]; exact hinv⟩ | (simp [intOf]; omega)
    · obtain rfl : k = s.size := by omega
      obtain ⟨⟨u, v, z, hb3, ho⟩, h0, hB, hw⟩ := hinv0.out
      clear hinv0
      obtain ⟨A1, n1, c1, B1, m1, d1, C1, s1, t1, rfl, rfl, rfl⟩ := form3 ho
      have hlen := rdTo_len s s.size hk
      have HLN0 : Hid ((rdTo s s.size).1.length ≤ 1099511627776) := Lib.hid (by omega)
      have HLN1 : Hid ((rdTo s s.size).2.1.length ≤ 1099511627776) := Lib.hid (by omega)
      have HLN2 : Hid ((rdTo s s.size).2.2.length ≤ 1099511627776) := Lib.hid (by omega)
      have HB3 := Lib.hid hb3
      have HO := Lib.hid ho
      have H0 := Lib.hid h0
      have HBB := Lib.hid hB
      have HW := Lib.hid hw
      have hsz : lo ≤ wr.heap.size := by have h1 := hw.size; have h2 := HLOW.out; omega
      have p0 := hb3.cell0
      have p1 := hb3.cell1
      have p2 := hb3.cell2
      clear hb3 ho h0 hB hw hlen
      obtain ⟨r, hr⟩ : ∃ r, r = rdTo s s.size := ⟨_, rfl⟩
      have HFEW : Hid (FewG r.1 r.2.1 r.2.2) := Lib.hid (by rw [hr]; exact few_rdTo (Nat.le_refl _) h24)
      have HWFG : Hid (WfG r.1 r.2.1 r.2.2) := Lib.hid (by rw [hr]; exact (rdTo_sm s s.size (Nat.le_refl _)).wf)
      have HRDB : Hid (readB s = (gaussB r.1 r.2.1 r.2.2 && (textOf (gTo r.1 r.2.1 r.2.2 r.1.length)).toList == s.toList)) := Lib.hid (by unfold readB; rw [← hr, show decide (s.size ≤ 24) = true by simpa using h24]; rfl)
      have HRR := Lib.hid hr
      rw [← hr] at HO HLN0 HLN1 HLN2
      clear hr HLN0 HLN1 HLN2
      have HRG := Lib.hid HO.out.seg.rdG
      have hres : ∀ (wz : World), Below wr.heap.size wr wz → Box3 wz lo 27 (.slice none 0 0) (.slice none 0 0) (.slice none 0 0) := fun wz hz => H0.out.below hz H0.out.lt
      have HRES := Lib.hid hres
      clear hres
      have pd0 : wr.drew.cell? ⟨g, 0, none⟩ = some (.slice A1 n1 c1) := HB3.out.cell0
      have pd1 : wr.drew.cell? ⟨g, 1, none⟩ = some (.slice B1 m1 d1) := HB3.out.cell1
      have pd2 : wr.drew.cell? ⟨g, 2, none⟩ = some (.slice C1 s1 t1) := HB3.out.cell2
      rcases hG : gaussB r.1 r.2.1 r.2.2 with _ | _
      · have HB0 : Hid (readB s = false) := Lib.hid (by rw [HRDB.out, hG]; rfl)
        have HG := Lib.hid hG
        clear hG
        go_upto_region 17 with fail
        first
          | (go_region_with (go_at_call 27; refine (specGauss_any _ _ _ _ _ _ _ _ _ r.1 r.2.1 r.2.2 _ (show RdGB wr.drew wr.drew.heap.size _ _ _ _ _ _ _ _ _ from HRG.out) HFEW.out).mono ?_; rintro e w2 ⟨rfl, hb2'⟩; rw [HG.out]; have hb2 : Below wr.heap.size wr w2 := (Below.refl wr.heap.size wr).drew.trans hb2'; clear hb2'; have hx := HRES.out _ hb2; have q0 := hx.cell0; have q1 := hx.cell1; have q2 := hx.cell2; have f0 := hx.free 0; have f1 := hx.free 1; have f2 := hx.free 2; have hy3 := HB3.out.below hb2 HB3.out.lt; have y0 := hy3.cell0; have y1 := hy3.cell1; have y2 := hy3.cell2; clear hx hy3))
          | fail
        all_goals (go_wp2_with fail)
        all_goals (
          refine bodyPost_ret (v := .tuple #[.agg #[.slice A1 n1 c1, .slice B1 m1 d1, .slice C1 s1 t1], .bool false]) ?_ ?_ ?_
          · exact results_row_tmp Try.results40 _ _ lo _ _ rfl rfl (run_loadVar_row _ _ _ _ _ _ _ ((((HRES.out _ hb2).set0 (.slice A1 n1 c1)).set1 (.slice B1 m1 d1)).set2 (.slice C1 s1 t1)) Try.underlying27 rfl size_gauss)
          · rfl
          · exact ⟨_, _, _, _, _, _, _, _, _, by rw [HB0.out], (fun h => absurd (HB0.out.symm.trans h) (by decide)), (((HW.out.trans (hb2.mono hsz)).setCell (p := ⟨lo, 0, none⟩) (Nat.le_refl _) _).setCell (p := ⟨lo, 1, none⟩) (Nat.le_refl _) _).setCell (p := ⟨lo, 2, none⟩) (Nat.le_refl _) _⟩)
      have HG := Lib.hid hG
      rcases hE : ((textOf (gTo r.1 r.2.1 r.2.2 r.1.length)).toList == s.toList) with _ | _
      · have HB0 : Hid (readB s = false) := Lib.hid (by rw [HRDB.out, hG, hE]; rfl)
        have hne : ((textOf (gTo r.1 r.2.1 r.2.2 r.1.length)).toList != s.toList) = true := by simp only [bne, hE]; rfl
        clear hG
        go_upto_region 17 with fail
        go_region_with (first | (go_at_call 27; refine (specGauss_any _ _ _ _ _ _ _ _ _ r.1 r.2.1 r.2.2 _ (show RdGB wr.drew wr.drew.heap.size _ _ _ _ _ _ _ _ _ from HRG.out) HFEW.out).mono ?_; rintro e w2 ⟨rfl, hb2'⟩; rw [HG.out]; have hb2 : Below wr.heap.size wr w2 := (Below.refl wr.heap.size wr).drew.trans hb2'; clear hb2'; have hx := HRES.out _ hb2; have q0 := hx.cell0; have q1 := hx.cell1; have q2 := hx.cell2; have f0 := hx.free 0; have f1 := hx.free 1; have f2 := hx.free 2; have hy3 := HB3.out.below hb2 HB3.out.lt; have y0 := hy3.cell0; have y1 := hy3.cell1; have y2 := hy3.cell2; clear hx hy3) | (go_at_call 38; refine (specGText_any _ _ _ _ _ _ _ _ _ r.1 r.2.1 r.2.2 _ ((HRG.out.below hb2).rd hb2.size) HWFG.out HFEW.out HG.out).mono ?_; rintro e w3 ⟨rfl, hb3'⟩; have hb23 := hb2.trans (hb3'.mono hb2.size); clear hb3'; have hx := HRES.out _ hb23; have z0 := hx.cell0; have z1 := hx.cell1; have z2 := hx.cell2; have k0 := hx.free 0; have k1 := hx.free 1; have k2 := hx.free 2; have hy3 := HB3.out.below hb23 HB3.out.lt; have v0 := hy3.cell0; have v1 := hy3.cell1; have v2 := hy3.cell2; clear hx hy3))
        all_goals (go_wp2_with fail)
        all_goals (
          refine bodyPost_ret (v := .tuple #[.agg #[.slice A1 n1 c1, .slice B1 m1 d1, .slice C1 s1 t1], .bool false]) ?_ ?_ ?_
          · exact results_row_tmp Try.results40 _ _ lo _ _ rfl rfl (run_loadVar_row _ _ _ _ _ _ _ ((((HRES.out _ hb23).set0 (.slice A1 n1 c1)).set1 (.slice B1 m1 d1)).set2 (.slice C1 s1 t1)) Try.underlying27 rfl size_gauss)
          · rfl
          · exact ⟨_, _, _, _, _, _, _, _, _, by rw [HB0.out], (fun h => absurd (HB0.out.symm.trans h) (by decide)), (((HW.out.trans (hb23.mono hsz)).setCell (p := ⟨lo, 0, none⟩) (Nat.le_refl _) _).setCell (p := ⟨lo, 1, none⟩) (Nat.le_refl _) _).setCell (p := ⟨lo, 2, none⟩) (Nat.le_refl _) _⟩)
      · have HB0 : Hid (readB s = true) := Lib.hid (by rw [HRDB.out, hG, hE]; rfl)
        have hne : ((textOf (gTo r.1 r.2.1 r.2.2 r.1.length)).toList != s.toList) = false := by simp only [bne, hE]; rfl
        clear hG
        go_upto_region 17 with fail
        go_region_with (first | (go_at_call 27; refine (specGauss_any _ _ _ _ _ _ _ _ _ r.1 r.2.1 r.2.2 _ (show RdGB wr.drew wr.drew.heap.size _ _ _ _ _ _ _ _ _ from HRG.out) HFEW.out).mono ?_; rintro e w2 ⟨rfl, hb2'⟩; rw [HG.out]; have hb2 : Below wr.heap.size wr w2 := (Below.refl wr.heap.size wr).drew.trans hb2'; clear hb2'; have hx := HRES.out _ hb2; have q0 := hx.cell0; have q1 := hx.cell1; have q2 := hx.cell2; have f0 := hx.free 0; have f1 := hx.free 1; have f2 := hx.free 2; have hy3 := HB3.out.below hb2 HB3.out.lt; have y0 := hy3.cell0; have y1 := hy3.cell1; have y2 := hy3.cell2; clear hx hy3) | (go_at_call 38; refine (specGText_any _ _ _ _ _ _ _ _ _ r.1 r.2.1 r.2.2 _ ((HRG.out.below hb2).rd hb2.size) HWFG.out HFEW.out HG.out).mono ?_; rintro e w3 ⟨rfl, hb3'⟩; have hb23 := hb2.trans (hb3'.mono hb2.size); clear hb3'; have hx := HRES.out _ hb23; have z0 := hx.cell0; have z1 := hx.cell1; have z2 := hx.cell2; have k0 := hx.free 0; have k1 := hx.free 1; have k2 := hx.free 2; have hy3 := HB3.out.below hb23 HB3.out.lt; have v0 := hy3.cell0; have v1 := hy3.cell1; have v2 := hy3.cell2; clear hx hy3))
        all_goals (go_wp2_with fail)
        all_goals (
          refine bodyPost_ret (v := .tuple #[.agg #[.slice A1 n1 c1, .slice B1 m1 d1, .slice C1 s1 t1], .bool true]) ?_ ?_ ?_
          · exact results_row_tmp Try.results40 _ _ lo _ _ rfl rfl (run_loadVar_row _ _ _ _ _ _ _ ((((HRES.out _ hb23).set0 (.slice A1 n1 c1)).set1 (.slice B1 m1 d1)).set2 (.slice C1 s1 t1)) Try.underlying27 rfl size_gauss)
          · rfl
          · exact ⟨_, _, _, _, _, _, _, _, _, by rw [HB0.out], (fun _ => by rw [← HRR.out]; exact ((((HO.out.below hb23).set_box (HRES.out _ hb23)).set_box ((HRES.out _ hb23).set0 _)).set_box (((HRES.out _ hb23).set0 _).set1 _))), (((HW.out.trans (hb23.mono hsz)).setCell (p := ⟨lo, 0, none⟩) (Nat.le_refl _) _).setCell (p := ⟨lo, 1, none⟩) (Nat.le_refl _) _).setCell (p := ⟨lo, 2, none⟩) (Nat.le_refl _) _⟩)
end Go.Proofs.Ytpeckofpgiabaaa
