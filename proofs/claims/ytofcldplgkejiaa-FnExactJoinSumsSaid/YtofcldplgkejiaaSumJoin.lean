/- The program's JoinSums. -/
import Derived.Test.YtofcldplgkejiaaSumImpl
import Derived.Test.YtofcldplgkejiaaFJoinWords
namespace Go.Proofs.Ytofcldplgkejiaa
open Go.RowKit
set_option linter.unusedVariables false
set_option linter.unusedSimpArgs false
set_option maxRecDepth 100000

theorem fits_iff (ts us : Tms) : fits ts us = true ↔ ∀ i, i < ts.length → ∀ j, j < us.length → (wd ts i).length + (wd us j).length ≤ 12 := by
  unfold fits
  rw [List.all_eq_true]
  constructor
  · intro h i hi j hj
    have h1 := h _ (wd_mem hi)
    rw [List.all_eq_true] at h1
    have h2 := h1 _ (wd_mem hj)
    simpa using h2
  · intro h t ht
    obtain ⟨i, hi, rfl⟩ := List.getElem_of_mem ht
    rw [List.all_eq_true]
    intro u hu
    obtain ⟨j, hj, rfl⟩ := List.getElem_of_mem hu
    have h1 := h i hi j hj
    have e1 : wd ts i = (ts[i]).1 := by unfold wd; rw [List.getElem?_eq_getElem hi]; rfl
    have e2 : wd us j = (us[j]).1 := by unfold wd; rw [List.getElem?_eq_getElem hj]; rfl
    rw [e1, e2] at h1
    simpa using h1
theorem joinW_plain {w : List Int} {v p : Int} {us : Tms} (hw : isWord w = true) (hv : 1 ≤ v ∧ v ≤ p - 1) (hs : isSum p us = true) (hf : ∀ j, j < us.length → w.length + (wd us j).length ≤ 12) : Plain (joinW w v us) := by
  have hb := prime_bd (isSum_prime hs)
  intro t ht
  unfold joinW at ht
  obtain ⟨u, hu, rfl⟩ := List.mem_map.1 ht
  obtain ⟨j, hj, rfl⟩ := List.getElem_of_mem hu
  have h1 := hf j hj
  have e2 : wd us j = (us[j]).1 := by unfold wd; rw [List.getElem?_eq_getElem hj]; rfl
  rw [e2] at h1
  have h2 := isSum_mem hs hu
  have h3 : 0 ≤ v * (us[j]).2 := Int.mul_nonneg (by omega) (by omega)
  have h4 : v * (us[j]).2 ≤ 12 * 12 := Int.mul_le_mul (by omega) (by omega) (by omega) (by omega)
  exact ⟨joined_isWord hw h2.1 h1, h3, by show v * (us[j]).2 ≤ 1024; omega⟩
theorem joinL_plain {p : Int} {ts us : Tms} (ht : isSum p ts = true) (hs : isSum p us = true) (hf : fits ts us = true) : Plain (joinL ts us) := by
  rw [fits_iff] at hf
  intro t h
  unfold joinL at h
  obtain ⟨x, hx, h⟩ := List.mem_flatMap.1 h
  obtain ⟨i, hi, rfl⟩ := List.getElem_of_mem hx
  have e1 : wd ts i = (ts[i]).1 := by unfold wd; rw [List.getElem?_eq_getElem hi]; rfl
  have h2 := isSum_mem ht hx
  exact joinW_plain h2.1 h2.2 hs (fun j hj => by rw [← e1]; exact hf i hi j hj) t h
theorem joinW_zero (w : List Int) (v : Int) (us : Tms) : joinW w v (us.take 0) = [] := rfl

set_option maxHeartbeats 8000000 in
theorem implJoinSums_any (p : Int) (A : Option Addr) (n c : Nat) (ts : Tms) (q : Int) (B : Option Addr) (m d : Nat) (us : Tms) (w : World) (hr : RdT w A n ts) (hwf : WfT ts) (hN : need ts ≤ 1048576) (hp : -9223372036854775808 ≤ p ∧ p ≤ 9223372036854775807) (hr2 : RdT w B m us) (hwf2 : WfT us) (hN2 : need us ≤ 1048576) (hq : -9223372036854775808 ≤ q ∧ q ≤ 9223372036854775807) :
    GaveS 28 #[.agg #[.int .i64 p, .slice A n c], .agg #[.int .i64 q, .slice B m d]] w (joinSums p ts q us) := by
  obtain ⟨W, hW⟩ : ∃ W, W = ((w.alloc (.cells #[.int .i64 p, .slice A n c] 25)).alloc (.cells #[.int .i64 q, .slice B m d] 25)).alloc (.cells #[.int .i64 0, .slice none 0 0] 25) := ⟨_, rfl⟩
  have hBW : Below w.heap.size w W := by rw [hW]; exact ((below_alloc _ _).alloc (by simp) _).alloc (by simp; omega) _
  have hsW : W.heap.size = w.heap.size + 3 := by rw [hW]; simp
  have g1 : Box2 W w.heap.size 25 (.int .i64 p) (.slice A n c) := by rw [hW]; exact ((box2_new _ _ _ _).alloc _).alloc _
  have g2 : Box2 W (w.heap.size + 1) 25 (.int .i64 q) (.slice B m d) := by
    have h := (box2_new (w.alloc (.cells #[.int .i64 p, .slice A n c] 25)) 25 (.int .i64 q) (.slice B m d)).alloc (.cells #[.int .i64 0, .slice none 0 0] 25)
    rw [hW]; simpa using h
  have g3 : Box2 W (w.heap.size + 2) 25 (.int .i64 0) (.slice none 0 0) := by
    have h := box2_new ((w.alloc (.cells #[.int .i64 p, .slice A n c] 25)).alloc (.cells #[.int .i64 q, .slice B m d] 25)) 25 (.int .i64 0) (.slice none 0 0)
    rw [hW]; simpa using h
  have HWA := Lib.hid hwf
  have HNA := Lib.hid hN
  have HWB := Lib.hid hwf2
  have HNB := Lib.hid hN2
  have HRA : Hid (RdT W A n ts) := Lib.hid (hr.below hBW)
  have HRB : Hid (RdT W B m us) := Lib.hid (hr2.below hBW)
  have HBA : Hid (RdTB W w.heap.size A n ts) := Lib.hid (RdTB.below hr hBW)
  have HBB : Hid (RdTB W w.heap.size B m us) := Lib.hid (RdTB.below hr2 hBW)
  have HLA := Lib.hid hr.len
  have HLB := Lib.hid hr2.len
  have HG1 := Lib.hid g1
  have HG2 := Lib.hid g2
  have HG3 := Lib.hid g3
  have HB := Lib.hid hBW
  have HS := Lib.hid hsW
  have HW := Lib.hid hW
  have q0 := g1.cell0
  have q1 := g1.cell1
  have q2 := g2.cell0
  have q3 := g2.cell1
  clear hr hwf hN hr2 hwf2 hN2 g1 g2 g3 hBW hsW hW
  rcases likeC_cases p ts q us with hlc | hlc | hlc
  case inr.inl =>
    have HLC := Lib.hid hlc
    rw [show joinSums p ts q us = ((0, []), 1) from by unfold joinSums; rw [hlc]; rfl]
    clear hlc
    unfold GaveS
    go_enter Try.func28, Try.ntmps28
    go_wp2_with fail
    rw [← HW.out]
    refine (checkSums_any p q A B n c m d ts us _ HRA.out HWA.out HNA.out hp HRB.out HWB.out HNB.out hq).mono ?_
    rintro e w1 ⟨rfl, hb1⟩
    rw [HLC.out]
    have HG4 := Lib.hid (HG3.out.below hb1 (by have := HS.out; omega))
    have HB4 := Lib.hid (HB.out.trans (hb1.mono HB.out.size))
    clear hb1 q0 q1 q2 q3
    have d0 := HG4.out.cell0
    have d1 := HG4.out.cell1
    have f0 := HG4.out.free 0
    have f1 := HG4.out.free 1
    go_wp2_with fail
    have e2 := (HG4.out.set0 (.int .i64 0)).set1 (.slice none 0 0)
    refine bodyPost_ret (v := .tuple #[.agg #[.int .i64 0, .slice none 0 0], .int .i64 1]) ?_ ?_ ?_
    · exact results_row_tmp Try.results28 _ _ (w.heap.size + 2) _ _ rfl rfl (run_loadVar_row _ _ _ _ _ _ _ e2 Try.underlying25 rfl size_sum)
    · rfl
    · exact ⟨_, _, rfl, OwnT.nil_ _ _, ((HB4.out.setCell (by show w.heap.size ≤ w.heap.size + 2; omega) _).setCell (by show w.heap.size ≤ w.heap.size + 2; omega) _)⟩
  case inr.inr =>
    have HLC := Lib.hid hlc
    rw [show joinSums p ts q us = ((0, []), 2) from by unfold joinSums; rw [hlc]; rfl]
    clear hlc
    unfold GaveS
    go_enter Try.func28, Try.ntmps28
    go_wp2_with fail
    rw [← HW.out]
    refine (checkSums_any p q A B n c m d ts us _ HRA.out HWA.out HNA.out hp HRB.out HWB.out HNB.out hq).mono ?_
    rintro e w1 ⟨rfl, hb1⟩
    rw [HLC.out]
    have HG4 := Lib.hid (HG3.out.below hb1 (by have := HS.out; omega))
    have HB4 := Lib.hid (HB.out.trans (hb1.mono HB.out.size))
    clear hb1 q0 q1 q2 q3
    have d0 := HG4.out.cell0
    have d1 := HG4.out.cell1
    have f0 := HG4.out.free 0
    have f1 := HG4.out.free 1
    go_wp2_with fail
    have e2 := (HG4.out.set0 (.int .i64 0)).set1 (.slice none 0 0)
    refine bodyPost_ret (v := .tuple #[.agg #[.int .i64 0, .slice none 0 0], .int .i64 2]) ?_ ?_ ?_
    · exact results_row_tmp Try.results28 _ _ (w.heap.size + 2) _ _ rfl rfl (run_loadVar_row _ _ _ _ _ _ _ e2 Try.underlying25 rfl size_sum)
    · rfl
    · exact ⟨_, _, rfl, OwnT.nil_ _ _, ((HB4.out.setCell (by show w.heap.size ≤ w.heap.size + 2; omega) _).setCell (by show w.heap.size ≤ w.heap.size + 2; omega) _)⟩
  obtain ⟨hsa, hsb, hpq⟩ := likeC_zero hlc
  have HLC := Lib.hid hlc
  have hpb := prime_bd (isSum_prime hsa)
  have hl1 := isSum_len hsa
  have hl2 := isSum_len hsb
  have hn2 : n ≤ 200 := by have := HLA.out; omega
  have hm2 : m ≤ 200 := by have := HLB.out; omega
  have HSA := Lib.hid hsa
  have HSB : Hid (isSum p us = true) := Lib.hid (by rw [hpq]; exact hsb)
  obtain ⟨rp, rts, rz, hR⟩ : ∃ rp rts rz, joinSums p ts q us = ((rp, rts), rz) := ⟨_, _, _, rfl⟩
  have HYES : Hid (fits ts us = true → toldT p (putAll p [] (joinL ts us)) = ((rp, rts), rz)) := Lib.hid (fun h => by rw [← hR]; unfold joinSums; rw [hlc, h]; rfl)
  have HNO : Hid (fits ts us = false → rp = 0 ∧ rts = [] ∧ rz = 3) := Lib.hid (fun h => by
    have h1 : joinSums p ts q us = ((0, []), 3) := by unfold joinSums; rw [hlc, h]; rfl
    rw [hR] at h1
    injection h1 with h1 h2
    injection h1 with h3 h4
    exact ⟨h3, h4, h2⟩)
  rw [hR]
  clear hR hlc hsa hsb hpq hl1 hl2
  unfold GaveS
  go_enter Try.func28, Try.ntmps28
  go_wp2_with fail
  rw [← HW.out]
  refine (checkSums_any p q A B n c m d ts us _ HRA.out HWA.out HNA.out hp HRB.out HWB.out HNB.out hq).mono ?_
  rintro e w1 ⟨rfl, hb1⟩
  rw [HLC.out]
  obtain ⟨W0, hW0⟩ : ∃ W0, W0 = w1 := ⟨_, rfl⟩
  rw [← hW0] at hb1 ⊢
  clear hW0
  have hs1 := hb1.size
  have HX1 := Lib.hid (HG1.out.below hb1 (by have := HS.out; omega))
  have HX2 := Lib.hid (HG2.out.below hb1 (by have := HS.out; omega))
  have HGV := Lib.hid (HG3.out.below hb1 (by have := HS.out; omega))
  have HBV := Lib.hid (HB.out.trans (hb1.mono HB.out.size))
  have HAV := Lib.hid (HBA.out.below (hb1.mono HB.out.size))
  have HBV2 := Lib.hid (HBB.out.below (hb1.mono HB.out.size))
  have HS0 : Hid (w.heap.size + 3 ≤ W0.heap.size) := Lib.hid (by have := HS.out; omega)
  clear q0 q1 q2 q3 hb1
  have q0 := HX1.out.cell0
  have q1 := HX1.out.cell1
  go_wp2_with fail
  refine (newSumOf_any p _).mono ?_
  rintro e w3 ⟨b, rfl, hbl, hc3, hb3⟩
  obtain ⟨V, hV⟩ : ∃ V, V = w3.alloc (.cells #[.int .i64 p, .map (some b)] 74) := ⟨_, rfl⟩
  have hv3 : Below w3.heap.size w3 V := by rw [hV]; exact below_alloc _ _
  have hsV : V.heap.size = w3.heap.size + 1 := by rw [hV]; simp
  have hbx : Box2 V w3.heap.size 74 (.int .i64 p) (.map (some b)) := by rw [hV]; exact box2_new _ _ _ _
  have hs3 := hb3.size
  have hbV : Below W0.heap.size W0 V := hb3.trans (hv3.mono hb3.size)
  have hblt := hc3.lt
  have HV := Lib.hid hV
  have HBX := Lib.hid hbx
  have hsw2 := HS0.out
  have HX1 := Lib.hid (HX1.out.below hbV (by omega))
  have HX2 := Lib.hid (HX2.out.below hbV (by omega))
  have HGV := Lib.hid (HGV.out.below hbV (by omega))
  have HAV := Lib.hid (HAV.out.below (hbV.mono (by omega)))
  have HBV2 := Lib.hid (HBV2.out.below (hbV.mono (by omega)))
  have HBV := Lib.hid (HBV.out.trans (hbV.mono HBV.out.size))
  have HCV : Hid (Coefs V b 0 (fun _ => 0)) := Lib.hid (hc3.kept (grown_of_below hv3 none) (by simp))
  have HSV := Lib.hid hsV
  clear hV hv3 hbx hb3 hbV hc3 q0 q1
  have q0 := HX1.out.cell0
  have q1 := HX1.out.cell1
  go_upto_region 5 with fail
  rw [← HV.out]
  go_wp2_with fail
  clear q0 q1
  go_loopw [25] (fun i wr => ∃ k : Nat, ∃ mm : Nat, k ≤ n ∧ mm ≤ 200 * k ∧ i = .int .i64 k ∧ Hid (Coefs wr b mm (addAll p (fun _ => 0) (joinL (ts.take k) us))) ∧ Hid (∀ i, i < k → ∀ j, j < m → (wd ts i).length + (wd us j).length ≤ 12) ∧ Hid (Fr b (b + 1) V wr)) (fun i _ => n - (intOf i).toNat)
  case atStart => exact ⟨0, 0, by omega, by omega, rfl, HCV, Lib.hid (fun i hi => by omega), Lib.hid (frg_refl _ _)⟩
  case round =>
    rename World => wo
    obtain ⟨k, mm, hk, hmk, rfl, hcr, hft, hfr⟩ := hrel
    have hszr := hfr.out.size
    by_cases hlt : k < n
    · obtain ⟨b0, o, C, m0, d0, rfl, ha, hc0, hc1, hrk, hmd, hd⟩ := (HAV.out.frg hfr.out (by omega) (by omega)).atB hlt
      have hkl : k < ts.length := by have := HLA.out; omega
      obtain ⟨z, hz⟩ : ∃ z, z = vl ts k := ⟨_, rfl⟩
      obtain ⟨xs, hxs⟩ : ∃ xs, xs = wd ts k := ⟨_, rfl⟩
      have HXS := Lib.hid hxs
      have hmem := isSum_mem HSA.out (wd_mem hkl)
      have hstep := joinL_take ts us k hkl
      rw [← hz, ← hxs] at hmem hstep
      rw [← hz] at hc1
      rw [← hxs] at hrk
      have HX : Hid (isWord xs = true) := Lib.hid hmem.1
      have hzz : 1 ≤ z ∧ z ≤ p - 1 := hmem.2
      have hlx : xs.length = m0 := hrk.1
      have hm12 : m0 ≤ 12 := by have h2 := isWord_len HX.out; omega
      obtain ⟨L0, hL0⟩ : ∃ L0, L0 = joinL (ts.take k) us := ⟨_, rfl⟩
      rw [← hL0] at hcr hstep
      obtain ⟨V2, hV2⟩ : ∃ V2, V2 = wo.alloc (.cells #[.slice C m0 d0, .int .i64 z] 93) := ⟨_, rfl⟩
      have hvw : Below wo.heap.size wo V2 := by rw [hV2]; exact below_alloc _ _
      have hbx2 : Box2 V2 wo.heap.size 93 (.slice C m0 d0) (.int .i64 z) := by rw [hV2]; exact box2_new _ _ _ _
      have hb1 : Box2 V2 w3.heap.size 74 (.int .i64 p) (.map (some b)) := (HBX.out.frg hfr.out (by omega)).below hvw (by have := HSV.out; omega)
      have hx2 : Box2 V2 (w.heap.size + 1) 25 (.int .i64 q) (.slice B m d) := (HX2.out.frg hfr.out (by omega)).below hvw (by omega)
      have q2 := hx2.cell1
      have HBX2 := Lib.hid hbx2
      have HB1 := Lib.hid hb1
      have HV2 := Lib.hid hV2
      have HC2 : Hid (Coefs V2 b (mm + 0) (addAll p (fun _ => 0) (L0 ++ joinW xs z (us.take 0)))) := Lib.hid (by rw [joinW_zero, List.append_nil]; exact hcr.out.kept (grown_of_below hvw none) (by simp))
      have HRK : Hid (RdB V2 w.heap.size C m0 xs) := Lib.hid (hrk.below (hvw.mono (by have := HSV.out; omega)))
      have HFV : Hid (Fr b (b + 1) V V2) := Lib.hid (frg_trans hfr.out (frg_below hvw))
      have hsz2 := hvw.size
      have hsz3 : V2.heap.size = wo.heap.size + 1 := by rw [hV2]; simp
      have HSZ3 := Lib.hid hsz3
      have HGN := Lib.hid hstep
      clear hz hxs hmem hstep hL0 hV2 hvw hbx2 hb1 hx2 hrk hmd hd hfr hcr hsz3
      go_upto_region 8 with fail
      rw [← HV2.out]
      clear hc0 hc1
      go_wp2_with fail
      clear q2
      go_loopw [32] (fun i wi => ∃ j : Nat, j ≤ m ∧ i = .int .i64 j ∧ Hid (Coefs wi b (mm + j) (addAll p (fun _ => 0) (L0 ++ joinW xs z (us.take j)))) ∧ Hid (∀ i, i < j → xs.length + (wd us i).length ≤ 12) ∧ Hid (Fr b (b + 1) V2 wi)) (fun i _ => m - (intOf i).toNat)
      case atStart => exact ⟨0, by omega, rfl, HC2, Lib.hid (fun i hi => by omega), Lib.hid (frg_refl _ _)⟩
      case round =>
        obtain ⟨j, hj, rfl, hci, hfj, hfi⟩ := hrel
        have hszi := hfi.out.size
        by_cases hjt : j < m
        · obtain ⟨b2, o2, C2, m2, d2, rfl, ha2, hc0, hc1, hrk, hmd, hd⟩ := (HBV2.out.frg (frg_trans HFV.out hfi.out) (by omega) (by omega)).atB hjt
          have hjl : j < us.length := by have := HLB.out; omega
          obtain ⟨z2, hz⟩ : ∃ z2, z2 = vl us j := ⟨_, rfl⟩
          obtain ⟨ys, hys⟩ : ∃ ys, ys = wd us j := ⟨_, rfl⟩
          have HYS := Lib.hid hys
          have hmem := isSum_mem HSB.out (wd_mem hjl)
          have hstep := joinW_take xs z us j hjl
          rw [← hz, ← hys] at hmem hstep
          rw [← hz] at hc1
          rw [← hys] at hrk
          have HY : Hid (isWord ys = true) := Lib.hid hmem.1
          have hzy : 1 ≤ z2 ∧ z2 ≤ p - 1 := hmem.2
          have hly : ys.length = m2 := hrk.1
          have hm22 : m2 ≤ 12 := by have h2 := isWord_len HY.out; omega
          have hmul0 : 0 ≤ z * z2 := Int.mul_nonneg (by omega) (by omega)
          have hmul1 : z * z2 ≤ 12 * 12 := Int.mul_le_mul (by omega) (by omega) (by omega) (by omega)
          have HZ : Hid (0 ≤ z * z2 ∧ z * z2 ≤ 144) := Lib.hid ⟨hmul0, by omega⟩
          obtain ⟨h1, hev1⟩ := word_even HX.out
          obtain ⟨h2, hev2⟩ := word_even HY.out
          obtain ⟨V3, hV3⟩ : ∃ V3, V3 = wr.alloc (.cells #[.slice C2 m2 d2, .int .i64 z2] 93) := ⟨_, rfl⟩
          have hvw : Below wr.heap.size wr V3 := by rw [hV3]; exact below_alloc _ _
          have hfv : Fr b (b + 1) V2 V3 := frg_trans hfi.out (frg_below hvw)
          have hb3 : Box2 V3 w3.heap.size 74 (.int .i64 p) (.map (some b)) := HB1.out.frg hfv (by omega)
          have hb4 : Box2 V3 wo.heap.size 93 (.slice C m0 d0) (.int .i64 z) := HBX2.out.frg hfv (by have := HSV.out; omega)
          have hb5 : Box2 V3 wr.heap.size 93 (.slice C2 m2 d2) (.int .i64 z2) := by rw [hV3]; exact box2_new _ _ _ _
          have hne : wr.heap.size ≠ b := by have := HSV.out; have := HSZ3.out; omega
          have HK : Hid (∀ X, Fr b (b + 1) V3 X → X.cell? ⟨w3.heap.size, 0, none⟩ = some (.int .i64 p) ∧ X.cell? ⟨w3.heap.size, 1, none⟩ = some (.map (some b)) ∧ X.cell? ⟨wo.heap.size, 0, none⟩ = some (.slice C m0 d0) ∧ X.cell? ⟨wo.heap.size, 1, none⟩ = some (.int .i64 z) ∧ X.cell? ⟨wr.heap.size, 0, none⟩ = some (.slice C2 m2 d2) ∧ X.cell? ⟨wr.heap.size, 1, none⟩ = some (.int .i64 z2) ∧ Hid (Fr b (b + 1) V3 X)) :=
            Lib.hid (fun X hX => ⟨(hb3.frg hX (by omega)).cell0, (hb3.frg hX (by omega)).cell1, (hb4.frg hX (by have := HSV.out; omega)).cell0, (hb4.frg hX (by have := HSV.out; omega)).cell1, (hb5.frg hX hne).cell0, (hb5.frg hX hne).cell1, Lib.hid hX⟩)
          have HV3 := Lib.hid hV3
          have HFV3 := Lib.hid hfv
          have HBK : Hid (Below w.heap.size w V3) := Lib.hid (HBV.out.trans (below_frg (frg_trans HFV.out hfv) (by omega) (by have := HBV.out.size; omega)))
          have HGK := Lib.hid (HGV.out.frg (frg_trans HFV.out hfv) (by omega))
          obtain ⟨g, hg⟩ : ∃ g, g = addAll p (fun _ => 0) (L0 ++ joinW xs z (us.take j)) := ⟨_, rfl⟩
          have hgr : Resid p g := by rw [hg]; exact resid_addAll (by omega) _ _ (resid_zero (by omega))
          have hgs : addAll p (fun _ => 0) (L0 ++ joinW xs z (us.take (j + 1))) = upd g (joined xs ys) ((g (joined xs ys) + z * z2) % p) := by rw [hstep, ← List.append_assoc, addAll_snoc, ← hg]
          rw [← hg] at hci
          have hrk0 : RdB V3 w.heap.size C m0 xs := HRK.out.frg hfv (by omega) (by omega)
          have hrk2 : RdB V3 w.heap.size C2 m2 ys := hrk.below (hvw.mono (by omega))
          have HRX : Hid (Rd V3.drew C m0 xs) := Lib.hid ((hrk0.rd (by have := HBK.out.size; omega)).below (Below.refl _ _).drew)
          have HRY : Hid (Rd V3.drew C2 m2 ys) := Lib.hid ((hrk2.rd (by have := HBK.out.size; omega)).below (Below.refl _ _).drew)
          have HCD : Hid (Coefs V3.drew b (mm + j) g) := Lib.hid (hci.out.kept (grown_of_below hvw.drew none) (by simp))
          have HGR := Lib.hid hgr
          have HGS := Lib.hid hgs
          have hkb2 : mm + j < 1099511627776 := by omega
          have y0 := hb4.cell0
          have y1 := hb5.cell0
          clear hz hys hmem hstep hV3 hvw hfv hb3 hb4 hb5 hg hgr hgs hci hrk hmd hd hrk0 hrk2 hmul0 hmul1
          go_upto_region 11 with fail
          rw [← HV3.out]
          clear hc0 hc1
          go_wp2_with fail
          refine (canJoin_any _ _ _ _ _ _ _ (by omega) (by omega)).mono ?_
          rintro e w2 ⟨rfl, rfl⟩
          by_cases hcan : (m0 : Int) / 2 + (m2 : Int) / 2 ≤ 6
          · rw [show decide ((m0 : Int) / 2 + (m2 : Int) / 2 ≤ 6) = true from by simpa using hcan]
            have h12 : m0 + m2 ≤ 12 := by omega
            have HXQ : Hid (isWord (joined xs ys) = true) := Lib.hid (joined_isWord HX.out HY.out (by omega))
            have HLQ : Hid ((joined xs ys).length ≤ 12) := Lib.hid (isWord_len HXQ.out)
            have HF12 : Hid (∀ i, i < j + 1 → xs.length + (wd us i).length ≤ 12) := Lib.hid (fun i hi => by
              rcases Nat.lt_or_ge i j with h | h
              · exact hfj.out i h
              · rw [show i = j from by omega, ← HYS.out]; omega)
            clear hcan hev1 hev2 hlx hly
            have hwrap : IntKind.i64.wrap (z * z2) = z * z2 := by rw [IntKind.wrap_i64]; have := HZ.out; omega
            go_upto_region 13 with fail
            clear y0 y1
            go_region_held3 (fun X => X.cell? ⟨w3.heap.size, 0, none⟩ = some (.int .i64 p) ∧ X.cell? ⟨w3.heap.size, 1, none⟩ = some (.map (some b)) ∧ X.cell? ⟨wo.heap.size, 0, none⟩ = some (.slice C m0 d0) ∧ X.cell? ⟨wo.heap.size, 1, none⟩ = some (.int .i64 z) ∧ X.cell? ⟨wr.heap.size, 0, none⟩ = some (.slice C2 m2 d2) ∧ X.cell? ⟨wr.heap.size, 1, none⟩ = some (.int .i64 z2) ∧ Hid (Fr b (b + 1) V3 X))
              ((refine HK.out _ ?_; first | exact Hid.out (by assumption) | exact frg_drew _ _))
              ((first
                | (go_at_call 77; refine (joinOf_any C C2 m0 m2 d0 d2 xs ys _ HRX.out HRY.out HX.out HY.out h12).mono ?_; rintro e w4 ⟨v4, rfl, ho4, hb4⟩; obtain ⟨B4, m4, d4, rfl, hm4, hr4⟩ := ho4.form'; have HF4 : Hid (Fr b (b + 1) V3 w4) := Lib.hid (frg_trans (frg_drew b V3) (frg_below hb4)); have HC4 := Lib.hid (HCD.out.below hb4); have HR4 := Lib.hid hr4; have hm4 : m4 ≤ 12 := (by have h1 := hr4.len; have h2 := HLQ.out; omega); clear hb4 hr4 ho4)
                | (go_at_call 63; refine (termKeyOf_any B4 m4 d4 (joined xs ys) _ HR4.out hm4).mono ?_; rintro e w5 ⟨rfl, hb5⟩; have HF5 : Hid (Fr b (b + 1) V3 w5) := Lib.hid (frg_trans HF4.out (frg_below hb5)); have HC5 := Lib.hid (HC4.out.below hb5); clear hb5)
                | (go_at_call 62; (try rw [hwrap]); refine (add_any p (z * z2) b (mm + j) g (joined xs ys) _ HC5.out hkb2 HXQ.out (word_wf HXQ.out) (by omega) (by have := HGR.out (joined xs ys); omega) (by have := HZ.out; omega)).mono ?_; rintro e w6 ⟨rfl, hc6, hg6⟩; have HF6 : Hid (Fr b (b + 1) V3 w6) := Lib.hid (frg_trans HF5.out (frg_grown hg6)); have HC6 := Lib.hid hc6; clear hc6 hg6)))
            clear hwrap
            all_goals go_wp2_with fail
            all_goals go_roundw
            case rel => exact ⟨j + 1, by omega, by go_num, Lib.hid (by rw [HGS.out]; exact HC6.out), HF12, Lib.hid (frg_trans HFV3.out HF6.out)⟩
            case measure => simp [intOf]; omega
          · rw [show decide ((m0 : Int) / 2 + (m2 : Int) / 2 ≤ 6) = false from by simpa using hcan]
            have hnf : fits ts us = false := by
              rcases h : fits ts us with _ | _
              · rfl
              · have h3 := (fits_iff ts us).1 h k (by have := HLA.out; omega) j (by have := HLB.out; omega)
                rw [← HXS.out, ← HYS.out] at h3
                omega
            obtain ⟨rfl, rfl, rfl⟩ := HNO.out hnf
            clear hcan hev1 hev2 hlx hly y0 y1 hnf
            have d0 := HGK.out.cell0
            have d1 := HGK.out.cell1
            have f0 := HGK.out.free 0
            have f1 := HGK.out.free 1
            go_wp2_with fail
            have e2 := (HGK.out.set0 (.int .i64 0)).set1 (.slice none 0 0)
            refine bodyPost_ret (v := .tuple #[.agg #[.int .i64 0, .slice none 0 0], .int .i64 3]) ?_ ?_ ?_
            · exact results_row_tmp Try.results28 _ _ (w.heap.size + 2) _ _ rfl rfl (run_loadVar_row _ _ _ _ _ _ _ e2 Try.underlying25 rfl size_sum)
            · rfl
            · exact ⟨_, _, rfl, OwnT.nil_ _ _, ((HBK.out.setCell (by show w.heap.size ≤ w.heap.size + 2; omega) _).setCell (by show w.heap.size ≤ w.heap.size + 2; omega) _)⟩
        · obtain rfl : j = m := by omega
          have HT : Hid (us.take j = us) := Lib.hid (List.take_of_length_le (by rw [HLB.out]; exact Nat.le_refl _))
          go_wp2_with fail
          go_roundw
          case rel => exact ⟨k + 1, mm + j, by omega, by omega, by go_num, Lib.hid (by rw [HGN.out, ← HT.out]; rw [HT.out]; have h := hci.out; rw [HT.out] at h; exact h), Lib.hid (fun i hi i2 hi2 => by
            rcases Nat.lt_or_ge i k with h | h
            · exact hft.out i h i2 hi2
            · rw [show i = k from by omega, ← HXS.out]; exact hfj.out i2 hi2), Lib.hid (frg_trans HFV.out hfi.out)⟩
          case measure => simp [intOf]; omega
    · obtain rfl : k = n := by omega
      have HT : Hid (ts.take k = ts) := Lib.hid (List.take_of_length_le (by rw [HLA.out]; exact Nat.le_refl _))
      have hfit : fits ts us = true := (fits_iff ts us).2 (fun i hi j hj => hft.out i (by rw [← HLA.out]; exact hi) j (by rw [← HLB.out]; exact hj))
      have HR9 := Lib.hid (HYES.out hfit)
      have HFC := Lib.hid (putAll_facts (p := p) (by omega) (joinL_plain HSA.out HSB.out hfit))
      have hc6 := hcr.out
      rw [HT.out] at hc6
      have HC6 := Lib.hid hc6
      have HB6 : Hid (Below w.heap.size w wo) := Lib.hid (HBV.out.trans (below_frg hfr.out (by omega) (by have := HBV.out.size; omega)))
      have HG6 := Lib.hid (HGV.out.frg hfr.out (by omega))
      have HX6 := Lib.hid (HBX.out.frg hfr.out (by omega))
      have hs7 := HSV.out
      have hs8 := HS0.out
      clear hcr hc6 hfit
      have x0 := HX6.out.cell0
      have x1 := HX6.out.cell1
      go_wp2_with fail
      have hE := endSum_any p b (mm) (addAll p (fun _ => 0) (joinL ts us)) (putAll p [] (joinL ts us)) _ HC6.out (by omega) HFC.out.1 (fun ys _ => HFC.out.2.1 ys)
      rw [HR9.out] at hE
      refine Calls.mono hE ?_
      rintro e w9 ⟨v9, vs9, rfl, ho9, hb9⟩
      obtain ⟨A9, c9, rfl, _⟩ := ho9.form
      have hs9 := hb9.size
      have HG9 := Lib.hid (HG6.out.below hb9 (by omega))
      have HB9 := Lib.hid (HB6.out.trans (hb9.mono HB6.out.size))
      have HO9 := Lib.hid ho9
      have hls := HB6.out.size
      clear hE ho9 hb9
      have d0 := HG9.out.cell0
      have d1 := HG9.out.cell1
      have f0 := HG9.out.free 0
      have f1 := HG9.out.free 1
      go_wp2_with fail
      have e2 := (HG9.out.set0 (.int .i64 rp)).set1 (.slice A9 rts.length c9)
      refine bodyPost_ret (v := .tuple #[.agg #[.int .i64 rp, .slice A9 rts.length c9], .int .i64 rz]) ?_ ?_ ?_
      · exact results_row_tmp Try.results28 _ _ (w.heap.size + 2) _ _ rfl rfl (run_loadVar_row _ _ _ _ _ _ _ e2 Try.underlying25 rfl size_sum)
      · rfl
      · have ho7 := ((HO9.out.set_other ⟨w.heap.size + 2, 0, none⟩ (.int .i64 rp) (by show w.heap.size + 2 < _; omega)).set_other ⟨w.heap.size + 2, 1, none⟩ (.slice A9 rts.length c9) (by show w.heap.size + 2 < _; omega)).mono (lo' := w.heap.size) (by omega)
        exact ⟨_, vs9, rfl, ho7, ((HB9.out.setCell (by show w.heap.size ≤ w.heap.size + 2; omega) _).setCell (by show w.heap.size ≤ w.heap.size + 2; omega) _)⟩
end Go.Proofs.Ytofcldplgkejiaa
