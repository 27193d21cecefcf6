/- TurnFork: the model's side. -/
import Derived.Test.YtdeefgmjlcdpfaaDoorWebCopy
import Derived.Test.YtdeefgmjlcdpfaaDoorOpenWeb
namespace Go.Proofs.YtdeefgmjlcdpfaaDoor
open Go.RowKit
set_option linter.unusedVariables false
set_option linter.unusedSimpArgs false
set_option maxRecDepth 100000

def turnL (f : List Int) : List Int := (f.set 1 (f[2]?.getD 0)).set 2 (f[1]?.getD 0)
open Classical in
noncomputable def turnFork (xs : List Int) (rs : List (List Int)) (k : Int) : (List Int × List (List Int)) × Int :=
  if webB xs rs then (if 0 ≤ k ∧ k < rs.length then ((xs, rs.set k.toNat (turnL (rAt rs k.toNat))), 0) else (([], []), 2)) else (([], []), 1)
theorem webB_facts {xs : List Int} {rs : List (List Int)} (h : webB xs rs = true) : items xs rs ≤ 8 ∧ threes rs = true := by
  unfold webB twiceW at h
  simp only [Bool.and_eq_true, decide_eq_true_eq] at h
  exact ⟨h.1, h.2.1.1⟩
theorem cells_threes {rs : List (List Int)} (h : threes rs = true) : cells rs = 3 * rs.length := by
  induction rs with
  | nil => rfl
  | cons f rs ih =>
    unfold threes at h
    simp only [List.all_cons, Bool.and_eq_true, beq_iff_eq] at h
    have := ih h.2
    simp only [cells, List.map_cons, List.sum_cons, List.length_cons] at this ⊢
    omega
theorem few_threes {xs : List Int} {rs : List (List Int)} (h8 : xs.length + rs.length ≤ 1000) (h3 : threes rs = true) : FewW xs rs := by
  refine ⟨by omega, ⟨by omega, fun r hr => ?_⟩, by rw [cells_threes h3]; omega⟩
  unfold threes at h3
  rw [List.all_eq_true] at h3
  have := h3 r hr
  simp at this; omega
theorem few_nil : FewW [] [] := few_threes (by simp) rfl
theorem threes_set {rs : List (List Int)} {k : Nat} {f : List Int} (h : threes rs = true) (hf : f.length = 3) : threes (rs.set k f) = true := by
  unfold threes at h ⊢
  rw [List.all_eq_true] at h ⊢
  intro r hr
  rcases List.mem_or_eq_of_mem_set hr with h1 | h1
  · exact h r h1
  · rw [h1]; simp [hf]
theorem turnL_len (f : List Int) : (turnL f).length = f.length := by simp [turnL]
theorem turn_no {xs : List Int} {rs : List (List Int)} {k : Int} (h : webB xs rs = false) : turnFork xs rs k = (([], []), 1) := by unfold turnFork; rw [if_neg (by rw [h]; simp)]
theorem turn_out {xs : List Int} {rs : List (List Int)} {k : Int} (h : webB xs rs = true) (hk : ¬ (0 ≤ k ∧ k < rs.length)) : turnFork xs rs k = (([], []), 2) := by unfold turnFork; rw [if_pos h, if_neg hk]
theorem turn_yes {xs : List Int} {rs : List (List Int)} {k : Nat} (h : webB xs rs = true) (hk : k < rs.length) : turnFork xs rs k = ((xs, rs.set k (turnL (rAt rs k))), 0) := by
  unfold turnFork; rw [if_pos h, if_pos (by omega)]; simp
theorem turnFork_few (xs : List Int) (rs : List (List Int)) (k : Int) : FewW (turnFork xs rs k).1.1 (turnFork xs rs k).1.2 := by
  rcases hB : webB xs rs with _ | _
  · rw [turn_no hB]; exact few_nil
  · by_cases hk : 0 ≤ k ∧ k < rs.length
    · obtain ⟨q, rfl⟩ : ∃ q : Nat, k = q := ⟨k.toNat, by omega⟩
      rw [turn_yes hB (by omega)]
      have h := webB_facts hB
      unfold items at h
      have h3 := threes_at h.2 (show q < rs.length by omega)
      exact few_threes (by simp; omega) (threes_set h.2 (by rw [turnL_len]; exact h3))
    · rw [turn_out hB hk]; exact few_nil
set_option maxHeartbeats 8000000 in
theorem specTurnFork_any (A : Option Addr) (n c : Nat) (B : Option Addr) (m d : Nat) (xs : List Int) (rs : List (List Int)) (k : Int) (w : World) (hr : RdWB w w.heap.size A n B m xs rs) (hwf : WfW xs rs) (hs : FewW xs rs) (hki : -9223372036854775808 ≤ k ∧ k ≤ 9223372036854775807) :
    GaveW 15 #[.agg #[.slice A n c, .slice B m d], .int .i64 k] w (turnFork xs rs k) := by
  obtain ⟨W, hW⟩ : ∃ W, W = (w.alloc (.cells #[.slice A n c, .slice B m d] 28)).alloc (.cells #[.slice none 0 0, .slice none 0 0] 28) := ⟨_, rfl⟩
  have hbW : Below w.heap.size w W := by rw [hW]; exact (below_alloc _ _).trans ((below_alloc _ _).mono (by simp))
  have hsW : w.heap.size + 2 ≤ W.heap.size := by rw [hW]; simp
  have HX0 : Hid (Box2 W w.heap.size 28 (.slice A n c) (.slice B m d)) := Lib.hid (by rw [hW]; exact (box2_new _ _ _ _).alloc _)
  have HX1 : Hid (Box2 W (w.heap.size + 1) 28 (.slice none 0 0) (.slice none 0 0)) := Lib.hid (by
    have := box2_new (w.alloc (.cells #[.slice A n c, .slice B m d] 28)) 28 (.slice none 0 0) (.slice none 0 0)
    rw [World.size_alloc] at this
    rw [hW]; exact this)
  have HB0 := Lib.hid hbW
  have HW := Lib.hid hW
  have HR : Hid (RdWB W W.heap.size A n B m xs rs) := Lib.hid ((hr.below hbW).rd hbW.size)
  have HLR := Lib.hid hr.2.1
  have HLX := Lib.hid hr.1.1
  have HFW := Lib.hid hs
  have hm1 : m ≤ 1048576 := by have := hs.2.1.1; have := hr.2.1; omega
  have q0 := HX0.out.cell0
  have q1 := HX0.out.cell1
  clear hr hbW hW hs hwf
  rcases hB : webB xs rs with _ | _
  · refine gaveW_mk (turn_no hB) ?_
    have HNO := Lib.hid hB
    clear hB
    go_enter Tryd.func15, Tryd.ntmps15
    go_upto_region 1 with fail
    rw [← HW.out]
    go_wp2_with fail
    refine (specWeb_any _ _ _ _ _ _ xs rs _ HR.out HFW.out).mono ?_
    rintro e w1 ⟨rfl, hb1⟩
    rw [HNO.out]
    have HXZ := Lib.hid (HX1.out.below hb1 (by omega))
    have HBZ := Lib.hid (HB0.out.trans (hb1.mono HB0.out.size))
    have d0 := HXZ.out.cell0
    have d1 := HXZ.out.cell1
    have f0 := HXZ.out.free 0
    have f1 := HXZ.out.free 1
    clear q0 q1 hb1
    go_wp2_with fail
    have e2 := (HXZ.out.set0 (.slice none 0 0)).set1 (.slice none 0 0)
    refine bodyPost_ret (v := .tuple #[.agg #[.slice none 0 0, .slice none 0 0], .int .i64 1]) ?_ ?_ ?_
    · exact results_row_tmp Tryd.results15 _ _ (w.heap.size + 1) _ _ rfl rfl (run_loadVar_row _ _ _ _ _ _ _ e2 Tryd.underlying28 rfl size_web)
    · rfl
    · exact ⟨_, _, _, rfl, OwnW.nil_ _ _, ((HBZ.out.setCell (by show w.heap.size ≤ w.heap.size + 1; omega) _).setCell (by show w.heap.size ≤ w.heap.size + 1; omega) _)⟩
  have HYES := Lib.hid hB
  have HFA := Lib.hid (webB_facts hB)
  by_cases hk : 0 ≤ k ∧ k < rs.length
  case neg =>
    refine gaveW_mk (turn_out hB hk) ?_
    have HIN : Hid (inB k 0 ((m : Int) - 1) = false) := Lib.hid (inB_false.2 (fun h => hk ⟨h.1, by rw [HLR.out]; omega⟩))
    have hwr : IntKind.i64.wrap ((m : Int) - 1) = (m : Int) - 1 := by rw [IntKind.wrap_i64]; omega
    have HWR := Lib.hid hwr
    clear hB hk hwr
    go_enter Tryd.func15, Tryd.ntmps15
    go_upto_region 1 with fail
    rw [← HW.out]
    go_wp2_with fail
    refine (specWeb_any _ _ _ _ _ _ xs rs _ HR.out HFW.out).mono ?_
    rintro e w1 ⟨rfl, hb1⟩
    rw [HYES.out]
    have HXZ := Lib.hid (HX1.out.below hb1 (by omega))
    have HBZ := Lib.hid (HB0.out.trans (hb1.mono HB0.out.size))
    have p1 := (HX0.out.below hb1 (by omega)).cell1
    clear q0 q1 hb1
    go_wp2_with fail
    (try rw [HWR.out])
    refine (in_any k 0 ((m : Int) - 1) _).mono ?_
    rintro e w2 ⟨rfl, rfl⟩
    rw [HIN.out]
    have d0 := HXZ.out.cell0
    have d1 := HXZ.out.cell1
    have f0 := HXZ.out.free 0
    have f1 := HXZ.out.free 1
    go_wp2_with fail
    have e2 := (HXZ.out.set0 (.slice none 0 0)).set1 (.slice none 0 0)
    refine bodyPost_ret (v := .tuple #[.agg #[.slice none 0 0, .slice none 0 0], .int .i64 2]) ?_ ?_ ?_
    · exact results_row_tmp Tryd.results15 _ _ (w.heap.size + 1) _ _ rfl rfl (run_loadVar_row _ _ _ _ _ _ _ e2 Tryd.underlying28 rfl size_web)
    · rfl
    · exact ⟨_, _, _, rfl, OwnW.nil_ _ _, ((HBZ.out.setCell (by show w.heap.size ≤ w.heap.size + 1; omega) _).setCell (by show w.heap.size ≤ w.heap.size + 1; omega) _)⟩
  case pos =>
    obtain ⟨i, rfl⟩ : ∃ i : Nat, k = i := ⟨k.toNat, by omega⟩
    have hil : i < rs.length := by omega
    refine gaveW_mk (turn_yes hB hil) ?_
    have him : i < m := by rw [← HLR.out]; exact hil
    have HIN : Hid (inB (i : Int) 0 ((m : Int) - 1) = true) := Lib.hid (inB_true.2 ⟨by omega, by omega⟩)
    have hwr : IntKind.i64.wrap ((m : Int) - 1) = (m : Int) - 1 := by rw [IntKind.wrap_i64]; omega
    have HWR := Lib.hid hwr
    obtain ⟨x, y, z, hxyz⟩ := three (threes_at HFA.out.2 hil)
    have HXYZ := Lib.hid hxyz
    have HIL := Lib.hid hil
    clear hB hk hwr hxyz hil
    go_enter Tryd.func15, Tryd.ntmps15
    go_upto_region 1 with fail
    rw [← HW.out]
    go_wp2_with fail
    refine (specWeb_any _ _ _ _ _ _ xs rs _ HR.out HFW.out).mono ?_
    rintro e w1 ⟨rfl, hb1⟩
    rw [HYES.out]
    have HB1 := Lib.hid hb1
    have hsz1 := hb1.size
    have p0 := (HX0.out.below hb1 (by omega)).cell0
    have p1 := (HX0.out.below hb1 (by omega)).cell1
    clear q0 q1 hb1
    go_wp2_with fail
    (try rw [HWR.out])
    refine (in_any (i : Int) 0 ((m : Int) - 1) _).mono ?_
    rintro e w2 ⟨rfl, rfl⟩
    rw [HIN.out]
    go_wp2_with fail
    refine (webCopy_any _ _ _ _ _ _ xs rs _ ((HR.out.below HB1.out).rd hsz1) HFW.out).mono ?_
    rintro e w4 ⟨u, v, vs, rfl, how, hb4⟩
    obtain ⟨Au, nu, cu, rfl, _⟩ := how.legs.form'
    obtain ⟨V, cV, hv, hcV, hV⟩ := how.forks.form
    obtain ⟨g, rfl⟩ := hV (by rw [HLR.out]; omega)
    rw [HLR.out] at hv
    subst hv
    have hsz4 := hb4.size
    have hgl := how.forks.lt g rfl
    have hrow := how.forks.row i
    obtain ⟨Rk, ck, hvk, hRk⟩ := own_form hrow
    have hl3 : (rAt rs i).length = 3 := by rw [HXYZ.out]; rfl
    rw [hl3] at hvk hRk
    obtain ⟨b, rfl, hbl1, hbl2⟩ := hRk (by omega)
    have hrd := (how.forks.rowForm i)
    obtain ⟨Rd1, cd1, hvd, hrd⟩ := hrd
    rw [hvk, hl3] at hvd
    injection hvd with hv1 hv2 hv3
    subst hv1
    rw [hl3] at hrd
    obtain ⟨X, hX⟩ : ∃ X, X = w4.alloc (.cells #[.slice Au nu cu, .slice (some ⟨g, 0, none⟩) m cV] 28) := ⟨_, rfl⟩
    have hbX : Below w4.heap.size w4 X := by rw [hX]; exact below_alloc _ _
    have hsX : w4.heap.size < X.heap.size := by rw [hX]; simp
    have HT : Hid (Box2 X w4.heap.size 28 (.slice Au nu cu) (.slice (some ⟨g, 0, none⟩) m cV)) := Lib.hid (by rw [hX]; exact box2_new _ _ _ _)
    have how1 := how.below hbX
    have HOW := Lib.hid how1
    have gk : X.cell? ⟨g, i, none⟩ = some (.slice (some ⟨b, 0, none⟩) 3 ck) := by rw [← hvk]; exact how1.forks.cell i HIL.out
    have hrdX := hrd.below hbX
    have c1 : X.cell? ⟨b, 1, none⟩ = some (.int .i64 y) := by
      have := (hrdX.at_ (k := 1) (by omega)); obtain ⟨a, e, _, hc⟩ := this
      injection e with e; subst e
      rw [HXYZ.out] at hc; simpa [Addr.add] using hc
    have c2 : X.cell? ⟨b, 2, none⟩ = some (.int .i64 z) := by
      have := (hrdX.at_ (k := 2) (by omega)); obtain ⟨a, e, _, hc⟩ := this
      injection e with e; subst e
      rw [HXYZ.out] at hc; simpa [Addr.add] using hc
    have hs1 := HOW.out.forks.setIn i HIL.out hvk 1 z
    have hs2 := hs1.1.setIn i (by simpa using HIL.out) hvk 2 y
    have HX := Lib.hid hX
    have HBX := Lib.hid hbX
    have HB4 := Lib.hid hb4
    have hrowX : X.ownsRow w1.heap.size 2 1 (.slice (some ⟨b, 0, none⟩) 3 ck) 3 (ints (rAt rs i)) := by have := HOW.out.forks.row i; unfold Own at this; rw [hvk, hl3] at this; exact this
    have z1 : X.frozen? ⟨b, 1, none⟩ = false := hrowX.frozenAt 1
    have z2 : X.frozen? ⟨b, 2, none⟩ = false := hrowX.frozenAt 2
    have hl1 : Own (X.setCell ⟨b, 1, none⟩ (.int .i64 z)) w1.heap.size (.slice Au nu cu) xs := HOW.out.legs.kept hs1.2 (fun q hq e => (HOW.out.apart q hq).2 i (by rw [hvk]; simpa [Value.ownBlock] using e))
    have hl2 : Own ((X.setCell ⟨b, 1, none⟩ (.int .i64 z)).setCell ⟨b, 2, none⟩ (.int .i64 y)) w1.heap.size (.slice Au nu cu) xs := hl1.kept hs2.2 (fun q hq e => (HOW.out.apart q hq).2 i (by rw [hvk]; simpa [Value.ownBlock] using e))
    have hf2 := hs2.1
    rw [rAt_set _ _ _ HIL.out, if_pos rfl, HXYZ.out, List.set_set] at hf2
    have HOWF : Hid (OwnW ((X.setCell ⟨b, 1, none⟩ (.int .i64 z)).setCell ⟨b, 2, none⟩ (.int .i64 y)) w1.heap.size (.slice Au nu cu) (.slice (some ⟨g, 0, none⟩) m cV) vs xs (rs.set i (turnL (rAt rs i)))) := Lib.hid ⟨hl2, by rw [HXYZ.out]; exact hf2, HOW.out.apart⟩
    have hT2 := (HT.out.other ⟨b, 1, none⟩ (.int .i64 z) (by show w4.heap.size ≠ b; omega)).other ⟨b, 2, none⟩ (.int .i64 y) (by show w4.heap.size ≠ b; omega)
    have HXR : Hid (Box2 X (w.heap.size + 1) 28 (.slice none 0 0) (.slice none 0 0)) := Lib.hid (((HX1.out.below HB1.out (by omega)).below HB4.out (by omega)).below HBX.out (by omega))
    have hR2 := (HXR.out.other ⟨b, 1, none⟩ (.int .i64 z) (by show w.heap.size + 1 ≠ b; omega)).other ⟨b, 2, none⟩ (.int .i64 y) (by show w.heap.size + 1 ≠ b; omega)
    have hBB : Below w.heap.size w ((X.setCell ⟨b, 1, none⟩ (.int .i64 z)).setCell ⟨b, 2, none⟩ (.int .i64 y)) := ((HB0.out.trans (((HB1.out.mono (by omega)).trans (HB4.out.mono (by omega))).trans (HBX.out.mono (by omega)))).setCell (by show w.heap.size ≤ b; omega) _).setCell (by show w.heap.size ≤ b; omega) _
    obtain ⟨Z, hZ⟩ : ∃ Z, Z = (X.setCell ⟨b, 1, none⟩ (.int .i64 z)).setCell ⟨b, 2, none⟩ (.int .i64 y) := ⟨_, rfl⟩
    rw [← hZ] at HOWF hT2 hR2 hBB
    have HT2 := Lib.hid hT2
    have HR2 := Lib.hid hR2
    have HBB := Lib.hid hBB
    have HZ := Lib.hid hZ
    have t1 := HT.out.cell1
    clear hs1 hs2 hl1 hl2 hf2 hrowX hrd hrow hvk how how1 hv2 hv3 hT2 hR2 hBB hZ hX hbX hb4 hRk hV hrdX p0 p1
    go_upto_region 6 with fail
    rw [← HX.out]
    go_upto_region 10 with fail
    rw [← HZ.out]
    have d0 := HT2.out.cell0
    have d1 := HT2.out.cell1
    have r0 := HR2.out.cell0
    have r1 := HR2.out.cell1
    have f0 := HR2.out.free 0
    have f1 := HR2.out.free 1
    clear t1 gk c1 c2 z1 z2
    go_wp2_with fail
    have e2 := (HR2.out.set0 (.slice Au nu cu)).set1 (.slice (some ⟨g, 0, none⟩) m cV)
    refine bodyPost_ret (v := .tuple #[.agg #[.slice Au nu cu, .slice (some ⟨g, 0, none⟩) m cV], .int .i64 0]) ?_ ?_ ?_
    · exact results_row_tmp Tryd.results15 _ _ (w.heap.size + 1) _ _ rfl rfl (run_loadVar_row _ _ _ _ _ _ _ e2 Tryd.underlying28 rfl size_web)
    · rfl
    · exact ⟨_, _, vs, rfl, ((HOWF.out.set_other ⟨w.heap.size + 1, 0, none⟩ _ (by show w.heap.size + 1 < _; omega)).set_other ⟨w.heap.size + 1, 1, none⟩ _ (by show w.heap.size + 1 < _; omega)).mono (by omega), ((HBB.out.setCell (by show w.heap.size ≤ w.heap.size + 1; omega) _).setCell (by show w.heap.size ≤ w.heap.size + 1; omega) _)⟩
end Go.Proofs.YtdeefgmjlcdpfaaDoor
