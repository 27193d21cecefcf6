/- The program's PartOfSum. -/
import Derived.Test.YtofcldplgkejiaaSumImpl
namespace Go.Proofs.Ytofcldplgkejiaa
open Go.RowKit
set_option linter.unusedVariables false
set_option linter.unusedSimpArgs false
set_option maxRecDepth 100000

set_option maxHeartbeats 8000000 in
theorem implPartOfSum_any (p : Int) (A : Option Addr) (n c : Nat) (ts : Tms) (kk : Int) (w : World) (hr : RdT w A n ts) (hwf : WfT ts) (hN : need ts ≤ 1048576) (hp : -9223372036854775808 ≤ p ∧ p ≤ 9223372036854775807) (hik : -9223372036854775808 ≤ kk ∧ kk ≤ 9223372036854775807) :
    GaveS 38 #[.agg #[.int .i64 p, .slice A n c], .int .i64 kk] w (partOfSum p ts kk) := by
  obtain ⟨W, hW⟩ : ∃ W, W = (w.alloc (.cells #[.int .i64 p, .slice A n c] 25)).alloc (.cells #[.int .i64 0, .slice none 0 0] 25) := ⟨_, rfl⟩
  have hBW : Below w.heap.size w W := by rw [hW]; exact (below_alloc _ _).alloc (by simp) _
  have hsW : W.heap.size = w.heap.size + 2 := by rw [hW]; simp
  have g1 : Box2 W w.heap.size 25 (.int .i64 p) (.slice A n c) := by rw [hW]; exact (box2_new _ _ _ _).alloc _
  have g2 : Box2 W (w.heap.size + 1) 25 (.int .i64 0) (.slice none 0 0) := by
    have h := box2_new (w.alloc (.cells #[.int .i64 p, .slice A n c] 25)) 25 (.int .i64 0) (.slice none 0 0)
    rw [hW]; simpa using h
  have HWT := Lib.hid hwf
  have HN := Lib.hid hN
  have HL := Lib.hid hr.len
  have HRR : Hid (RdT W A n ts) := Lib.hid (hr.below hBW)
  have HRB : Hid (RdTB W w.heap.size A n ts) := Lib.hid (RdTB.below hr hBW)
  have HG1 := Lib.hid g1
  have HG2 := Lib.hid g2
  have HB := Lib.hid hBW
  have HS := Lib.hid hsW
  have HW := Lib.hid hW
  have q0 := g1.cell0
  have q1 := g1.cell1
  clear hr hwf hN g1 g2 hBW hsW hW
  rcases hsm : isSum p ts with _ | _
  · have H := Lib.hid hsm
    rw [show partOfSum p ts kk = ((0, []), 1) from by unfold partOfSum; rw [hsm]; rfl]
    clear hsm
    unfold GaveS
    go_enter Try.func38, Try.ntmps38
    go_wp2_with fail
    rw [← HW.out]
    refine (isSumI_any _ _ _ _ ts _ HRR.out HWT.out HN.out hp).mono ?_
    rintro e w1 ⟨rfl, hb1⟩
    rw [H.out]
    have HG3 := Lib.hid (HG2.out.below hb1 (by rw [HS.out]; omega))
    have HB3 := Lib.hid (HB.out.trans (hb1.mono HB.out.size))
    clear hb1 q0 q1
    have d0 := HG3.out.cell0
    have d1 := HG3.out.cell1
    have f0 := HG3.out.free 0
    have f1 := HG3.out.free 1
    go_wp2_with fail
    have e2 := (HG3.out.set0 (.int .i64 0)).set1 (.slice none 0 0)
    refine bodyPost_ret (v := .tuple #[.agg #[.int .i64 0, .slice none 0 0], .int .i64 1]) ?_ ?_ ?_
    · exact results_row_tmp Try.results38 _ _ (w.heap.size + 1) _ _ rfl rfl (run_loadVar_row _ _ _ _ _ _ _ e2 Try.underlying25 rfl size_sum)
    · rfl
    · exact ⟨_, _, rfl, OwnT.nil_ _ _, ((HB3.out.setCell (by show w.heap.size ≤ w.heap.size + 1; omega) _).setCell (by show w.heap.size ≤ w.heap.size + 1; omega) _)⟩
  have HSUM := Lib.hid hsm
  rcases hin : inB kk 0 6 with _ | _
  · have hkk : kk < 0 ∨ 6 < kk := by unfold inB at hin; simp at hin; omega
    rw [show partOfSum p ts kk = ((0, []), 2) from by unfold partOfSum; rw [hsm, hin]; rfl]
    clear hsm hin
    unfold GaveS
    go_enter Try.func38, Try.ntmps38
    go_wp2_with fail
    rw [← HW.out]
    refine (isSumI_any _ _ _ _ ts _ HRR.out HWT.out HN.out hp).mono ?_
    rintro e w1 ⟨rfl, hb1⟩
    rw [HSUM.out]
    have HG3 := Lib.hid (HG2.out.below hb1 (by rw [HS.out]; omega))
    have HB3 := Lib.hid (HB.out.trans (hb1.mono HB.out.size))
    clear hb1 q0 q1
    have d0 := HG3.out.cell0
    have d1 := HG3.out.cell1
    have f0 := HG3.out.free 0
    have f1 := HG3.out.free 1
    rcases hkk with hkk | hkk
    · have hkn : kk < 0 := hkk
      go_wp2_with fail
      have e2 := (HG3.out.set0 (.int .i64 0)).set1 (.slice none 0 0)
      refine bodyPost_ret (v := .tuple #[.agg #[.int .i64 0, .slice none 0 0], .int .i64 2]) ?_ ?_ ?_
      · exact results_row_tmp Try.results38 _ _ (w.heap.size + 1) _ _ rfl rfl (run_loadVar_row _ _ _ _ _ _ _ e2 Try.underlying25 rfl size_sum)
      · rfl
      · exact ⟨_, _, rfl, OwnT.nil_ _ _, ((HB3.out.setCell (by show w.heap.size ≤ w.heap.size + 1; omega) _).setCell (by show w.heap.size ≤ w.heap.size + 1; omega) _)⟩
    · have hkn : ¬ (kk < 0) := by omega
      have hkg : kk > 6 := hkk
      go_wp2_with fail
      have e2 := (HG3.out.set0 (.int .i64 0)).set1 (.slice none 0 0)
      refine bodyPost_ret (v := .tuple #[.agg #[.int .i64 0, .slice none 0 0], .int .i64 2]) ?_ ?_ ?_
      · exact results_row_tmp Try.results38 _ _ (w.heap.size + 1) _ _ rfl rfl (run_loadVar_row _ _ _ _ _ _ _ e2 Try.underlying25 rfl size_sum)
      · rfl
      · exact ⟨_, _, rfl, OwnT.nil_ _ _, ((HB3.out.setCell (by show w.heap.size ≤ w.heap.size + 1; omega) _).setCell (by show w.heap.size ≤ w.heap.size + 1; omega) _)⟩
  have hkb : 0 ≤ kk ∧ kk ≤ 6 := by unfold inB at hin; simpa using hin
  have hpb := prime_bd (isSum_prime hsm)
  have hpl := plain_partL (n := kk) (isSum_plain hsm)
  have hfc := putAll_facts (p := p) (by omega) hpl
  have hl2 := isSum_len hsm
  have hn2 : n ≤ 200 := by have := HL.out; omega
  obtain ⟨rp, rts, rz, hR⟩ : ∃ rp rts rz, partOfSum p ts kk = ((rp, rts), rz) := ⟨_, _, _, rfl⟩
  have HR9 : Hid (toldT p (putAll p [] (partL kk ts)) = ((rp, rts), rz)) := Lib.hid (by rw [← hR]; unfold partOfSum; rw [hsm, hin]; rfl)
  have HFC := Lib.hid hfc
  rw [hR]
  clear hR hsm hin hpl hfc hl2
  unfold GaveS
  go_enter Try.func38, Try.ntmps38
  go_wp2_with fail
  rw [← HW.out]
  refine (isSumI_any _ _ _ _ ts _ HRR.out HWT.out HN.out hp).mono ?_
  rintro e w1 ⟨rfl, hb1⟩
  rw [HSUM.out]
  obtain ⟨W0, hW0⟩ : ∃ W0, W0 = w1 := ⟨_, rfl⟩
  rw [← hW0] at hb1 ⊢
  clear hW0
  have hs1 := hb1.size
  have HX1 := Lib.hid (HG1.out.below hb1 (by rw [HS.out]; omega))
  have HGV := Lib.hid (HG2.out.below hb1 (by rw [HS.out]; omega))
  have HRV := Lib.hid (HRB.out.below (hb1.mono (by rw [HS.out]; omega)))
  have HBV := Lib.hid (HB.out.trans (hb1.mono HB.out.size))
  have HS0 : Hid (w.heap.size + 2 ≤ W0.heap.size) := Lib.hid (by have := HS.out; omega)
  clear q0 q1 hb1
  have q0 := HX1.out.cell0
  have q1 := HX1.out.cell1
  have hkn : ¬ (kk < 0) := by omega
  have hkg : ¬ (kk > 6) := by omega
  go_wp2_with fail
  refine (newSumOf_any p _).mono ?_
  rintro e w3 ⟨b, rfl, hbl, hc3, hb3⟩
  obtain ⟨V, hV⟩ : ∃ V, V = w3.alloc (.cells #[.int .i64 p, .map (some b)] 74) := ⟨_, rfl⟩
  have hv3 : Below w3.heap.size w3 V := by rw [hV]; exact below_alloc _ _
  have hsV : V.heap.size = w3.heap.size + 1 := by rw [hV]; simp
  have hbx : Box2 V w3.heap.size 74 (.int .i64 p) (.map (some b)) := by rw [hV]; exact box2_new _ _ _ _
  have hs3 := hb3.size
  have hbV : Below W0.heap.size W0 V := hb3.trans (hv3.mono hb3.size)
  have hblt := hc3.lt
  have HV := Lib.hid hV
  have HBX := Lib.hid hbx
  have hsw2 := HS0.out
  have HX1 := Lib.hid (HX1.out.below hbV (by omega))
  have HGV := Lib.hid (HGV.out.below hbV (by omega))
  have HRV := Lib.hid (HRV.out.below (hbV.mono (by omega)))
  have HBV := Lib.hid (HBV.out.trans (hbV.mono HBV.out.size))
  have HCV : Hid (Coefs V b 0 (fun _ => 0)) := Lib.hid (hc3.kept (grown_of_below hv3 none) (by simp))
  have HSV := Lib.hid hsV
  clear hV hv3 hbx hb3 hbV hc3 q0 q1
  have q1 := HX1.out.cell1
  go_upto_region 6 with fail
  rw [← HV.out]
  go_wp2_with fail
  clear q1
  go_loopw [26] (fun i wr => ∃ k : Nat, ∃ mm : Nat, k ≤ n ∧ mm ≤ k ∧ i = .int .i64 k ∧ Hid (Coefs wr b mm (addAll p (fun _ => 0) (partL kk (ts.take k)))) ∧ Hid (Fr b (b + 1) V wr)) (fun i _ => n - (intOf i).toNat)
  case atStart => exact ⟨0, 0, by omega, by omega, rfl, HCV, Lib.hid (frg_refl _ _)⟩
  case round =>
    obtain ⟨k, mm, hk, hmk, rfl, hcr, hfr⟩ := hrel
    have hszr := hfr.out.size
    by_cases hlt : k < n
    · obtain ⟨b0, o, C, m0, d, rfl, ha, hc0, hc1, hrk, hmd, hd⟩ := ((HRV.out.frg hfr.out (by omega) (by omega)).rd (by omega)).at_ hlt
      have hkl : k < ts.length := by have := HL.out; omega
      obtain ⟨z, hz⟩ : ∃ z, z = vl ts k := ⟨_, rfl⟩
      obtain ⟨xs, hxs⟩ : ∃ xs, xs = wd ts k := ⟨_, rfl⟩
      have hmem := isSum_mem HSUM.out (wd_mem hkl)
      have hstep := partL_take kk ts k hkl
      rw [← hz, ← hxs] at hmem hstep
      rw [← hz] at hc1
      rw [← hxs] at hrk
      have HX : Hid (isWord xs = true) := Lib.hid hmem.1
      have HZ : Hid (1 ≤ z ∧ z ≤ p - 1) := Lib.hid hmem.2
      have hlx : xs.length = m0 := hrk.len
      obtain ⟨hq2, hev⟩ := word_even HX.out
      have hm12 : m0 ≤ 12 := by have h1 := hrk.len; have h2 := isWord_len HX.out; omega
      obtain ⟨g, hg⟩ : ∃ g, g = addAll p (fun _ => 0) (partL kk (ts.take k)) := ⟨_, rfl⟩
      have hgr : Resid p g := by rw [hg]; exact resid_addAll (by omega) _ _ (resid_zero (by omega))
      have hyes : (m0 : Int) / 2 = kk → addAll p (fun _ => 0) (partL kk (ts.take (k + 1))) = upd g (xs) ((g (xs) + z) % p) := fun h => by rw [hstep, if_pos (by omega), addAll_snoc, ← hg]
      have hnot : ¬ (m0 : Int) / 2 = kk → addAll p (fun _ => 0) (partL kk (ts.take (k + 1))) = g := fun h => by rw [hstep, if_neg (by omega), List.append_nil, ← hg]
      rw [← hg] at hcr
      obtain ⟨V2, hV2⟩ : ∃ V2, V2 = wr.alloc (.cells #[.slice C m0 d, .int .i64 z] 93) := ⟨_, rfl⟩
      have hvw : Below wr.heap.size wr V2 := by rw [hV2]; exact below_alloc _ _
      have hbx2 : Box2 V2 wr.heap.size 93 (.slice C m0 d) (.int .i64 z) := by rw [hV2]; exact box2_new _ _ _ _
      have hb1 : Box2 V2 w3.heap.size 74 (.int .i64 p) (.map (some b)) := (HBX.out.frg hfr.out (by omega)).below hvw (by have := HSV.out; omega)
      have HK : Hid (∀ X, Fr b (b + 1) V2 X → X.cell? ⟨w3.heap.size, 0, none⟩ = some (.int .i64 p) ∧ X.cell? ⟨w3.heap.size, 1, none⟩ = some (.map (some b)) ∧ X.cell? ⟨wr.heap.size, 0, none⟩ = some (.slice C m0 d) ∧ X.cell? ⟨wr.heap.size, 1, none⟩ = some (.int .i64 z) ∧ Hid (Fr b (b + 1) V2 X)) :=
        Lib.hid (fun X hX => ⟨(hb1.frg hX (by omega)).cell0, (hb1.frg hX (by omega)).cell1, (hbx2.frg hX (by have := HSV.out; omega)).cell0, (hbx2.frg hX (by have := HSV.out; omega)).cell1, Lib.hid hX⟩)
      have y0 := hbx2.cell0
      have y1 := hbx2.cell1
      have HV2 := Lib.hid hV2
      have HCD : Hid (Coefs V2.drew b mm g) := Lib.hid (hcr.out.kept (grown_of_below hvw.drew none) (by simp))
      have HC2 : Hid (Coefs V2 b mm g) := Lib.hid (hcr.out.kept (grown_of_below hvw none) (by simp))
      have HRK : Hid (Rd V2.drew C m0 xs) := Lib.hid (hrk.below hvw.drew)
      have HFV : Hid (Fr b (b + 1) V V2) := Lib.hid (frg_trans hfr.out (frg_below hvw))
      have HGR := Lib.hid hgr
      have HYES := Lib.hid hyes
      have HNOT := Lib.hid hnot
      have hkb2 : mm < 1099511627776 := by omega
      clear hz hxs hmem hstep hg hgr hyes hnot hV2 hvw hbx2 hb1 hrk hmd hd hfr hcr hev hlx
      go_upto_region 9 with fail
      rw [← HV2.out]
      clear hc0 hc1
      by_cases htest : (m0 : Int) / 2 = kk
      · have htb : ((m0 : Int) / 2 == kk) = true := by simpa using htest
        have HTT := Lib.hid htest
        clear htest
        go_wp2_with fail
        refine (chordsOf_any _ _ _ _ (by omega)).mono ?_
        rintro e w2 ⟨rfl, rfl⟩
        go_upto_region 10 with fail
        clear y0 y1 htb
        go_region_held3 (fun X => X.cell? ⟨w3.heap.size, 0, none⟩ = some (.int .i64 p) ∧ X.cell? ⟨w3.heap.size, 1, none⟩ = some (.map (some b)) ∧ X.cell? ⟨wr.heap.size, 0, none⟩ = some (.slice C m0 d) ∧ X.cell? ⟨wr.heap.size, 1, none⟩ = some (.int .i64 z) ∧ Hid (Fr b (b + 1) V2 X))
          ((refine HK.out _ ?_; first | exact Hid.out (by assumption) | exact frg_drew _ _))
          ((first
            | (go_at_call 63; refine (termKeyOf_any C m0 d xs _ HRK.out hm12).mono ?_; rintro e w5 ⟨rfl, hb5⟩; have HF5 : Hid (Fr b (b + 1) V2 w5) := Lib.hid (frg_trans (frg_drew b V2) (frg_below hb5)); have HC5 := Lib.hid (HCD.out.below hb5); clear hb5)
            | (go_at_call 62; refine (add_any p z b mm g xs _ HC5.out hkb2 HX.out (word_wf HX.out) (by omega) (by have := HGR.out xs; omega) (by have := HZ.out; omega)).mono ?_; rintro e w6 ⟨rfl, hc6, hg6⟩; have HF6 : Hid (Fr b (b + 1) V2 w6) := Lib.hid (frg_trans HF5.out (frg_grown hg6)); have HC6 := Lib.hid hc6; clear hc6 hg6)))
        all_goals go_wp2_with fail
        all_goals go_roundw
        case rel => exact ⟨k + 1, mm + 1, by omega, by omega, by go_num, Lib.hid (by rw [HYES.out HTT.out]; exact HC6.out), Lib.hid (frg_trans HFV.out HF6.out)⟩
        case measure => simp [intOf]; omega
      · have htb : ((m0 : Int) / 2 == kk) = false := by simpa using htest
        have HTT := Lib.hid htest
        clear htest
        go_wp2_with fail
        refine (chordsOf_any _ _ _ _ (by omega)).mono ?_
        rintro e w2 ⟨rfl, rfl⟩
        go_wp2_with fail
        go_roundw
        case rel => exact ⟨k + 1, mm, by omega, by omega, by go_num, Lib.hid (by rw [HNOT.out HTT.out]; exact HC2.out), HFV⟩
        case measure => simp [intOf]; omega
    · obtain rfl : k = n := by omega
      have HT : Hid (ts.take k = ts) := Lib.hid (List.take_of_length_le (by rw [HL.out]; exact Nat.le_refl _))
      have hc6 := hcr.out
      rw [HT.out] at hc6
      have HC6 := Lib.hid hc6
      have HB6 : Hid (Below w.heap.size w wr) := Lib.hid (HBV.out.trans (below_frg hfr.out (by omega) (by have := HBV.out.size; omega)))
      have HG6 := Lib.hid (HGV.out.frg hfr.out (by omega))
      have HX6 := Lib.hid (HBX.out.frg hfr.out (by omega))
      have hs7 := HSV.out
      have hs8 := HS0.out
      clear hcr hc6
      have x0 := HX6.out.cell0
      have x1 := HX6.out.cell1
      go_wp2_with fail
      have hE := endSum_any p b (mm) (addAll p (fun _ => 0) (partL kk ts)) (putAll p [] (partL kk ts)) _ HC6.out (by omega) HFC.out.1 (fun ys _ => HFC.out.2.1 ys)
      rw [HR9.out] at hE
      refine Calls.mono hE ?_
      rintro e w9 ⟨v9, vs9, rfl, ho9, hb9⟩
      obtain ⟨A9, c9, rfl, _⟩ := ho9.form
      have hs9 := hb9.size
      have HG9 := Lib.hid (HG6.out.below hb9 (by omega))
      have HB9 := Lib.hid (HB6.out.trans (hb9.mono HB6.out.size))
      have HO9 := Lib.hid ho9
      have hls := HB6.out.size
      clear hE ho9 hb9
      have d0 := HG9.out.cell0
      have d1 := HG9.out.cell1
      have f0 := HG9.out.free 0
      have f1 := HG9.out.free 1
      go_wp2_with fail
      have e2 := (HG9.out.set0 (.int .i64 rp)).set1 (.slice A9 rts.length c9)
      refine bodyPost_ret (v := .tuple #[.agg #[.int .i64 rp, .slice A9 rts.length c9], .int .i64 rz]) ?_ ?_ ?_
      · exact results_row_tmp Try.results38 _ _ (w.heap.size + 1) _ _ rfl rfl (run_loadVar_row _ _ _ _ _ _ _ e2 Try.underlying25 rfl size_sum)
      · rfl
      · have ho7 := ((HO9.out.set_other ⟨w.heap.size + 1, 0, none⟩ (.int .i64 rp) (by show w.heap.size + 1 < _; omega)).set_other ⟨w.heap.size + 1, 1, none⟩ (.slice A9 rts.length c9) (by show w.heap.size + 1 < _; omega)).mono (lo' := w.heap.size) (by omega)
        exact ⟨_, vs9, rfl, ho7, ((HB9.out.setCell (by show w.heap.size ≤ w.heap.size + 1; omega) _).setCell (by show w.heap.size ≤ w.heap.size + 1; omega) _)⟩

end Go.Proofs.Ytofcldplgkejiaa
