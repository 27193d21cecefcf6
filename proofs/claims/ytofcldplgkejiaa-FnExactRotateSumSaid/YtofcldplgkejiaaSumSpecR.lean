/- The model's functions that build a sum, term by term: RotateSum. -/
import Derived.Test.YtofcldplgkejiaaSumSpec
namespace Go.Proofs.Ytofcldplgkejiaa
open Go.RowKit
set_option linter.unusedVariables false
set_option linter.unusedSimpArgs false
set_option maxRecDepth 100000

set_option maxHeartbeats 8000000 in
theorem specRotateSum_any (p : Int) (A : Option Addr) (n c : Nat) (ts : Tms) (kk : Int) (w : World) (hr : RdT w A n ts) (hwf : WfT ts) (hN : need ts ≤ 1048576) (hp : -9223372036854775808 ≤ p ∧ p ≤ 9223372036854775807) (hik : -9223372036854775808 ≤ kk ∧ kk ≤ 9223372036854775807) :
    GaveS 39 #[.agg #[.int .i64 p, .slice A n c], .int .i64 kk] w (rotateSum p ts kk) := by
  obtain ⟨W, hW⟩ : ∃ W, W = (w.alloc (.cells #[.int .i64 p, .slice A n c] 25)).alloc (.cells #[.int .i64 0, .slice none 0 0] 25) := ⟨_, rfl⟩
  have hBW : Below w.heap.size w W := by rw [hW]; exact (below_alloc _ _).alloc (by simp) _
  have hsW : W.heap.size = w.heap.size + 2 := by rw [hW]; simp
  have g1 : Box2 W w.heap.size 25 (.int .i64 p) (.slice A n c) := by rw [hW]; exact (box2_new _ _ _ _).alloc _
  have g2 : Box2 W (w.heap.size + 1) 25 (.int .i64 0) (.slice none 0 0) := by
    have h := box2_new (w.alloc (.cells #[.int .i64 p, .slice A n c] 25)) 25 (.int .i64 0) (.slice none 0 0)
    rw [hW]; simpa using h
  have HWT := Lib.hid hwf
  have HN := Lib.hid hN
  have HL := Lib.hid hr.len
  have HRR : Hid (RdT W A n ts) := Lib.hid (hr.below hBW)
  have HR : Hid (RdTB W w.heap.size A n ts) := Lib.hid (RdTB.below hr hBW)
  have HG1 := Lib.hid g1
  have HG2 := Lib.hid g2
  have HB := Lib.hid hBW
  have HS := Lib.hid hsW
  have HW := Lib.hid hW
  have q0 := g1.cell0
  have q1 := g1.cell1
  clear hr hwf hN g1 g2 hBW hsW hW
  rcases hsm : isSum p ts with _ | _
  · have H := Lib.hid hsm
    rw [show rotateSum p ts kk = ((0, []), 1) from by unfold rotateSum; rw [hsm]; rfl]
    clear hsm
    unfold GaveS
    go_enter Try.func39, Try.ntmps39
    go_wp2_with fail
    rw [← HW.out]
    refine (l03Is_any _ _ _ _ ts _ HRR.out HWT.out HN.out hp).mono ?_
    rintro e w1 ⟨rfl, hb1⟩
    rw [H.out]
    have HG3 := Lib.hid (HG2.out.below hb1 (by rw [HS.out]; omega))
    have HB3 := Lib.hid (HB.out.trans (hb1.mono HB.out.size))
    clear hb1 q0 q1
    have d0 := HG3.out.cell0
    have d1 := HG3.out.cell1
    have f0 := HG3.out.free 0
    have f1 := HG3.out.free 1
    go_wp2_with fail
    have e2 := (HG3.out.set0 (.int .i64 0)).set1 (.slice none 0 0)
    refine bodyPost_ret (v := .tuple #[.agg #[.int .i64 0, .slice none 0 0], .int .i64 1]) ?_ ?_ ?_
    · exact results_row_tmp Try.results39 _ _ (w.heap.size + 1) _ _ rfl rfl (run_loadVar_row _ _ _ _ _ _ _ e2 Try.underlying25 rfl size_sum)
    · rfl
    · exact ⟨_, _, rfl, OwnT.nil_ _ _, ((HB3.out.setCell (by show w.heap.size ≤ w.heap.size + 1; omega) _).setCell (by show w.heap.size ≤ w.heap.size + 1; omega) _)⟩
  have HSUM := Lib.hid hsm
  rcases hin : inB kk 0 1000 with _ | _
  · have HIN := Lib.hid hin
    rw [show rotateSum p ts kk = ((0, []), 2) from by unfold rotateSum; rw [hsm, hin]; rfl]
    clear hsm hin
    unfold GaveS
    go_enter Try.func39, Try.ntmps39
    go_wp2_with fail
    rw [← HW.out]
    refine (l03Is_any _ _ _ _ ts _ HRR.out HWT.out HN.out hp).mono ?_
    rintro e w1 ⟨rfl, hb1⟩
    rw [HSUM.out]
    go_wp2_with fail
    refine (in_any _ _ _ _).mono ?_
    rintro e w2 ⟨rfl, rfl⟩
    rw [HIN.out]
    have HG3 := Lib.hid (HG2.out.below hb1 (by rw [HS.out]; omega))
    have HB3 := Lib.hid (HB.out.trans (hb1.mono HB.out.size))
    clear hb1 q0 q1
    have d0 := HG3.out.cell0
    have d1 := HG3.out.cell1
    have f0 := HG3.out.free 0
    have f1 := HG3.out.free 1
    go_wp2_with fail
    have e2 := (HG3.out.set0 (.int .i64 0)).set1 (.slice none 0 0)
    refine bodyPost_ret (v := .tuple #[.agg #[.int .i64 0, .slice none 0 0], .int .i64 2]) ?_ ?_ ?_
    · exact results_row_tmp Try.results39 _ _ (w.heap.size + 1) _ _ rfl rfl (run_loadVar_row _ _ _ _ _ _ _ e2 Try.underlying25 rfl size_sum)
    · rfl
    · exact ⟨_, _, rfl, OwnT.nil_ _ _, ((HB3.out.setCell (by show w.heap.size ≤ w.heap.size + 1; omega) _).setCell (by show w.heap.size ≤ w.heap.size + 1; omega) _)⟩
  have HIN := Lib.hid hin
  have hpb := prime_bd (isSum_prime hsm)
  have hkb : 0 ≤ kk ∧ kk ≤ 1000 := by unfold inB at hin; simpa using hin
  have hl2 := isSum_len hsm
  have hn2 : n ≤ 200 := by have := HL.out; omega
  refine gaveS_mk (p := p) (ts := putAll p [] (mapL (rotW kk) ts)) (z := 0) (by unfold rotateSum; rw [hsm, hin]; show toldT _ _ = _; exact toldT_few (by rw [mapL_length]; exact isSum_len hsm)) ?_
  clear hsm hl2 hin
  go_enter Try.func39, Try.ntmps39
  go_wp2_with fail
  rw [← HW.out]
  refine (l03Is_any _ _ _ _ ts _ HRR.out HWT.out HN.out hp).mono ?_
  rintro e w1 ⟨rfl, hb1⟩
  rw [HSUM.out]
  go_wp2_with fail
  refine (in_any _ _ _ _).mono ?_
  rintro e w2 ⟨rfl, rfl⟩
  rw [HIN.out]
  obtain ⟨W0, hW0⟩ : ∃ W0, W0 = w1 := ⟨_, rfl⟩
  rw [← hW0] at hb1 ⊢
  clear hW0
  have hs1 := hb1.size
  have HG1 := Lib.hid (HG1.out.below hb1 (by rw [HS.out]; omega))
  have HG2 := Lib.hid (HG2.out.below hb1 (by rw [HS.out]; omega))
  have HR := Lib.hid (HR.out.below (hb1.mono (by rw [HS.out]; omega)))
  have HB := Lib.hid (HB.out.trans (hb1.mono HB.out.size))
  have HS := Lib.hid (show w.heap.size + 2 ≤ W0.heap.size by have := HS.out; omega)
  clear q0 q1 hb1
  have q0 := HG1.out.cell0
  go_wp2_with fail
  refine (empty_any p W0).mono ?_
  rintro e w3 ⟨g, rfl, ho3, hb3⟩
  have hp0 := putR_new (p := p) hb3 ho3
  obtain ⟨V, hV⟩ : ∃ V, V = w3.alloc (.cells #[.int .i64 p, .slice (some ⟨g, 0, none⟩) 0 0] 25) := ⟨_, rfl⟩
  obtain ⟨T, hT⟩ : ∃ T, T = w3.heap.size := ⟨_, rfl⟩
  rw [← hV, ← hT] at hp0
  have HV := Lib.hid hV
  have HP0 : Hid (∃ u us, PutR W0 V W0.heap.size T p u us (putAll p [] (mapL (rotW kk) (ts.take 0)))) := Lib.hid ⟨_, _, hp0⟩
  clear hV ho3 hb3 q0 hp0
  go_upto_region 6 with fail
  rw [← hT, ← HV.out]
  clear hT
  go_wp2_with fail
  go_loopw [7] (fun i wr => ∃ k : Nat, k ≤ n ∧ i = .int .i64 k ∧ Hid (∃ u us, PutR W0 wr W0.heap.size T p u us (putAll p [] (mapL (rotW kk) (ts.take k))))) (fun i _ => n - (intOf i).toNat)
  case atStart => exact ⟨0, by omega, rfl, HP0⟩
  case round =>
    obtain ⟨k, hk, rfl, hpr⟩ := hrel
    obtain ⟨u, us, hpr⟩ := hpr.out
    have hbw := hpr.below
    have hsw := hbw.size
    have hx1 := (HG1.out.below hbw (by have := HS.out; omega))
    have q1 := hx1.cell1
    by_cases hlt : k < n
    · obtain ⟨b0, o, C, m0, d, rfl, ha, hc0, hc1, hrk, hmd, hd⟩ := ((HR.out.below (hbw.mono (by have := HS.out; omega))).rd (by have := HS.out; omega)).at_ hlt
      have hab := RdTB.blk HR.out hlt
      have hkl : k < ts.length := by have := HL.out; omega
      obtain ⟨z, hz⟩ : ∃ z, z = vl ts k := ⟨_, rfl⟩
      obtain ⟨xs, hxs⟩ : ∃ xs, xs = wd ts k := ⟨_, rfl⟩
      have hmem := isSum_mem HSUM.out (wd_mem hkl)
      have hstep := mapL_take (rotW kk) ts k hkl
      rw [← hz, ← hxs] at hmem hstep
      rw [← hz] at hc1
      rw [← hxs] at hrk
      have HX : Hid (isWord xs = true) := Lib.hid hmem.1
      have HZ : Hid (0 ≤ z ∧ z ≤ 1048576) := Lib.hid (by have := hmem.2; omega)
      have hm12 : m0 ≤ 12 := by have h1 := hrk.len; have h2 := isWord_len HX.out; omega
      obtain ⟨cur, hcur⟩ : ∃ cur, cur = putAll p [] (mapL (rotW kk) (ts.take k)) := ⟨_, rfl⟩
      have hfin : putAll p [] (mapL (rotW kk) (ts.take (k + 1))) = putT p cur (rotW kk xs) z := by rw [hstep, putAll_snoc, ← hcur]
      have hcf := cur_facts (p := p) (by omega) (plain_mapL (f := rotW kk) ((isSum_plain HSUM.out).take k) (fun w h => rotW_word h)) (by rw [mapL_length]; simp; omega) (rotW kk xs)
      rw [← hcur] at hpr hcf
      obtain ⟨U, cU, hu, _⟩ := hpr.own.form
      obtain ⟨nU, hnU⟩ : ∃ nU, cur.length = nU := ⟨_, rfl⟩
      rw [hnU] at hu
      subst hu
      have HPR := Lib.hid hpr
      have HCF := Lib.hid hcf
      have HFIN := Lib.hid hfin
      have HMD := Lib.hid hmd
      have HRK : Hid (Rd wr.drew C m0 xs) := Lib.hid (hrk.below (Below.refl _ _).drew)
      have HRU : Hid (RdT wr.drew U nU cur) := Lib.hid (hpr.rdT.below (Below.refl _ _).drew)
      have HK : Hid (∀ X, Below wr.heap.size wr X → X.cell? ⟨T, 0, none⟩ = some (.int .i64 p) ∧ X.cell? ⟨T, 1, none⟩ = some (.slice U nU cU) ∧ X.cell? ⟨w.heap.size, 1, none⟩ = some (.slice (some ⟨b0, o, none⟩) n c) ∧ X.cell? ⟨b0, o + k * 2, none⟩ = some (.slice C m0 d) ∧ X.cell? ⟨b0, o + k * 2 + 1, none⟩ = some (.int .i64 z)) := Lib.hid (fun X hX => by
        have hb1 := hpr.box.below hX hpr.box.lt
        exact ⟨hb1.cell0, hb1.cell1, (hx1.below hX (by have := HS.out; omega)).cell1, (hX.cell (p := ⟨b0, o + k * 2, none⟩) ha).trans hc0, (hX.cell (p := ⟨b0, o + k * 2 + 1, none⟩) ha).trans hc1⟩)
      have HSD := HK.out wr.drew (Below.refl _ _).drew
      have hkn0 : (0 : Int) ≤ (k : Int) := by omega
      have hkn1 : (k : Int) < (n : Int) := by omega
      clear hz hxs hmem hstep hcur hfin hcf hpr hnU hrk hmd hd hbw hx1
      by_cases hm00 : m0 = 0
      · have hmi : ¬ ((0 : Int) < (m0 : Int)) := by omega
        have hmn : ¬ (0 < m0) := by omega
        have HRE : Hid (Rd wr.drew C m0 (rotW kk xs)) := Lib.hid (by
          have h1 := HRK.out.len
          have h2 : rotW kk xs = xs := by unfold rotW; rw [if_pos (by omega)]
          rw [h2]; exact HRK.out)
        clear hm00
        go_upto_region 12 with fail
        clear hc0 hc1 q1
        refine wp_region_store (fun X => X.cell? ⟨T, 0, none⟩ = some (.int .i64 p) ∧ X.cell? ⟨T, 1, none⟩ = some (.slice U nU cU) ∧ X.cell? ⟨w.heap.size, 1, none⟩ = some (.slice (some ⟨b0, o, none⟩) n c) ∧ X.cell? ⟨b0, o + k * 2, none⟩ = some (.slice C m0 d) ∧ X.cell? ⟨b0, o + k * 2 + 1, none⟩ = some (.int .i64 z)) 9 _ (by kernel_rfl) rfl rfl rfl rfl (by kernel_rfl) (by kernel_rfl) (by kernel_rfl) ?_
        simp only [List.set_cons_succ, List.set_cons_zero, nopOf, List.length_cons, List.length_nil, Nat.reduceAdd, Nat.zero_add]
        apply take_held 0 rfl rfl (by kernel_rfl) (by kernel_rfl) (by kernel_rfl) HSD
        case hy => (intro w0 hSw; (try dsimp only at hSw); go_simp; with_reducible rfl)
        try simp only [Act.put, List.setIfInBounds_toArray, List.set_cons_zero, List.set_cons_succ]
        apply take_held 1 rfl rfl (by kernel_rfl) (by kernel_rfl) (by kernel_rfl) HSD
        case hy => (intro w0 hSw; (try dsimp only at hSw); go_simp; with_reducible rfl)
        try simp only [Act.put, List.setIfInBounds_toArray, List.set_cons_zero, List.set_cons_succ]
        apply take_held 2 rfl rfl (by kernel_rfl) (by kernel_rfl) (by kernel_rfl) HSD
        case hy => (intro w0 hSw; (try dsimp only at hSw); go_simp; with_reducible rfl)
        try simp only [Act.put, List.setIfInBounds_toArray, List.set_cons_zero, List.set_cons_succ]
        apply take_held 3 rfl rfl (by kernel_rfl) (by kernel_rfl) (by kernel_rfl) HSD
        case hy => (intro w0 hSw; (try dsimp only at hSw); go_simp; with_reducible rfl)
        try simp only [Act.put, List.setIfInBounds_toArray, List.set_cons_zero, List.set_cons_succ]
        apply take_held 4 rfl rfl (by kernel_rfl) (by kernel_rfl) (by kernel_rfl) HSD
        case hy => (intro w0 hSw; (try dsimp only at hSw); go_simp; with_reducible rfl)
        try simp only [Act.put, List.setIfInBounds_toArray, List.set_cons_zero, List.set_cons_succ]
        apply take_held 5 rfl rfl (by kernel_rfl) (by kernel_rfl) (by kernel_rfl) HSD
        case hy => (intro w0 hSw; (try dsimp only at hSw); go_simp; with_reducible rfl)
        try simp only [Act.put, List.setIfInBounds_toArray, List.set_cons_zero, List.set_cons_succ]
        apply take_held 6 rfl rfl (by kernel_rfl) (by kernel_rfl) (by kernel_rfl) HSD
        case hy => (intro w0 hSw; (try dsimp only at hSw); go_simp; with_reducible rfl)
        try simp only [Act.put, List.setIfInBounds_toArray, List.set_cons_zero, List.set_cons_succ]
        apply take_held 7 rfl rfl (by kernel_rfl) (by kernel_rfl) (by kernel_rfl) HSD
        case hy => (intro w0 hSw; (try dsimp only at hSw); go_simp; with_reducible rfl)
        try simp only [Act.put, List.setIfInBounds_toArray, List.set_cons_zero, List.set_cons_succ]
        refine all_held 8 rfl rfl (by kernel_rfl) (fun K' hK => ?_)
        go_simp
        go_at_call 56
        refine (put_any p z U C nU cU m0 d cur (rotW kk xs) _ (by omega) HRU.out HCF.out.1 HRE.out (by omega) HZ.out HCF.out.2).mono ?_
        rintro e w5 ⟨u5, us5, rfl, ho5, hb5⟩
        obtain ⟨U5, cU5, hu5, _⟩ := ho5.form
        obtain ⟨nU5, hnU5⟩ : ∃ t, (putT p cur (rotW kk xs) z).length = t := ⟨_, rfl⟩
        rw [hnU5] at hu5
        subst hu5
        clear hnU5
        have HB5 : Hid (Below wr.heap.size wr w5) := Lib.hid ((Below.refl _ _).drew.trans hb5)
        have HO5 := Lib.hid ho5
        clear ho5 hb5
        refine hK.out _ _ (HK.out _ HB5.out) ?_
        clear hK
        try simp only [Act.put, List.setIfInBounds_toArray, List.set_cons_zero, List.set_cons_succ]
        apply take_held 9 rfl rfl (by kernel_rfl) (by kernel_rfl) (by kernel_rfl) (HK.out _ HB5.out)
        case hy => (intro w0 hSw; (try dsimp only at hSw); go_simp; with_reducible rfl)
        try simp only [Act.put, List.setIfInBounds_toArray, List.set_cons_zero, List.set_cons_succ]
        refine wpAnyH_done (by kernel_rfl) ?_ _
        show wpList _ _ _ _ _ _
        obtain ⟨y0, y1, _⟩ := HK.out _ HB5.out
        have hbx5 := HPR.out.box.below HB5.out HPR.out.box.lt
        have y2 := hbx5.free 0
        have y3 := hbx5.free 1
        clear hbx5 HSD
        go_wp2_with fail
        go_roundw
        case rel => exact ⟨k + 1, by omega, by go_num, Lib.hid ⟨_, _, by rw [HFIN.out]; exact PutR.stored HPR.out HB5.out HO5.out (Nat.le_refl _)⟩⟩
        case measure => simp [intOf]; omega
      · have hmi : ¬ ((m0 : Int) = 0) := by omega
        have hmp : (0 : Int) < (m0 : Int) := by omega
        obtain ⟨jj, hjj⟩ : ∃ jj : Nat, kk = jj := Int.eq_ofNat_of_zero_le hkb.1
        have hrem : kk % (m0 : Int) = ((jj % m0 : Nat) : Int) := by rw [hjj]; exact (Int.natCast_emod jj m0).symm
        have HROT : Hid (rotW kk xs = rot xs (jj % m0)) := Lib.hid (by unfold rotW; have h1 := HRK.out.len; rw [if_neg (by omega), h1, hjj]; rfl)
        have HREM := Lib.hid hrem
        have HJM : Hid (jj % m0 ≤ m0) := Lib.hid (Nat.le_of_lt (Nat.mod_lt _ (by omega)))
        clear hjj hrem
        go_wp2_with fail
        rw [HREM.out]
        refine (rotate_any C m0 d xs (jj % m0) _ (show Rd wr C m0 xs from HRK.out) (by omega) HMD.out HJM.out).mono ?_
        rintro e w4 ⟨v4, rfl, ho4, hb4⟩
        rw [← HROT.out] at ho4
        obtain ⟨B4, m4, d4, rfl, hm4, hr4⟩ := ho4.form'
        have HB4 : Hid (Below wr.heap.size wr w4) := Lib.hid hb4
        have HB4D : Hid (Below wr.heap.size wr w4.drew) := Lib.hid hb4.drew
        have HR4 : Hid (Rd w4.drew B4 m4 (rotW kk xs)) := Lib.hid (hr4.below (Below.refl _ _).drew)
        have HRU4 : Hid (RdT w4.drew U nU cur) := Lib.hid ((show RdT wr U nU cur from HRU.out).below hb4.drew)
        have hm4b : m4 ≤ 12 := by have h1 := isWord_len (rotW_word (k := kk) HX.out); omega
        have HSD4 := HK.out w4.drew hb4.drew
        have HSW4 := Lib.hid (HK.out w4 hb4)
        clear ho4 hm4 hr4 hb4 hc0 hc1 q1 HSD
        obtain ⟨z0, z1, z2, z3, z4⟩ := HSW4.out
        go_upto_region 12 with fail
        clear z0 z1 z2 z3 z4
        refine wp_region_store (fun X => X.cell? ⟨T, 0, none⟩ = some (.int .i64 p) ∧ X.cell? ⟨T, 1, none⟩ = some (.slice U nU cU) ∧ X.cell? ⟨w.heap.size, 1, none⟩ = some (.slice (some ⟨b0, o, none⟩) n c) ∧ X.cell? ⟨b0, o + k * 2, none⟩ = some (.slice C m0 d) ∧ X.cell? ⟨b0, o + k * 2 + 1, none⟩ = some (.int .i64 z)) 9 _ (by kernel_rfl) rfl rfl rfl rfl (by kernel_rfl) (by kernel_rfl) (by kernel_rfl) ?_
        simp only [List.set_cons_succ, List.set_cons_zero, nopOf, List.length_cons, List.length_nil, Nat.reduceAdd, Nat.zero_add]
        apply take_held 0 rfl rfl (by kernel_rfl) (by kernel_rfl) (by kernel_rfl) HSD4
        case hy => (intro w0 hSw; (try dsimp only at hSw); go_simp; with_reducible rfl)
        try simp only [Act.put, List.setIfInBounds_toArray, List.set_cons_zero, List.set_cons_succ]
        apply take_held 1 rfl rfl (by kernel_rfl) (by kernel_rfl) (by kernel_rfl) HSD4
        case hy => (intro w0 hSw; (try dsimp only at hSw); go_simp; with_reducible rfl)
        try simp only [Act.put, List.setIfInBounds_toArray, List.set_cons_zero, List.set_cons_succ]
        apply take_held 2 rfl rfl (by kernel_rfl) (by kernel_rfl) (by kernel_rfl) HSD4
        case hy => (intro w0 hSw; (try dsimp only at hSw); go_simp; with_reducible rfl)
        try simp only [Act.put, List.setIfInBounds_toArray, List.set_cons_zero, List.set_cons_succ]
        apply take_held 3 rfl rfl (by kernel_rfl) (by kernel_rfl) (by kernel_rfl) HSD4
        case hy => (intro w0 hSw; (try dsimp only at hSw); go_simp; with_reducible rfl)
        try simp only [Act.put, List.setIfInBounds_toArray, List.set_cons_zero, List.set_cons_succ]
        apply take_held 4 rfl rfl (by kernel_rfl) (by kernel_rfl) (by kernel_rfl) HSD4
        case hy => (intro w0 hSw; (try dsimp only at hSw); go_simp; with_reducible rfl)
        try simp only [Act.put, List.setIfInBounds_toArray, List.set_cons_zero, List.set_cons_succ]
        apply take_held 5 rfl rfl (by kernel_rfl) (by kernel_rfl) (by kernel_rfl) HSD4
        case hy => (intro w0 hSw; (try dsimp only at hSw); go_simp; with_reducible rfl)
        try simp only [Act.put, List.setIfInBounds_toArray, List.set_cons_zero, List.set_cons_succ]
        apply take_held 6 rfl rfl (by kernel_rfl) (by kernel_rfl) (by kernel_rfl) HSD4
        case hy => (intro w0 hSw; (try dsimp only at hSw); go_simp; with_reducible rfl)
        try simp only [Act.put, List.setIfInBounds_toArray, List.set_cons_zero, List.set_cons_succ]
        apply take_held 7 rfl rfl (by kernel_rfl) (by kernel_rfl) (by kernel_rfl) HSD4
        case hy => (intro w0 hSw; (try dsimp only at hSw); go_simp; with_reducible rfl)
        try simp only [Act.put, List.setIfInBounds_toArray, List.set_cons_zero, List.set_cons_succ]
        refine all_held 8 rfl rfl (by kernel_rfl) (fun K' hK => ?_)
        go_simp
        go_at_call 56
        refine (put_any p z U B4 nU cU m4 d4 cur (rotW kk xs) _ (by omega) HRU4.out HCF.out.1 HR4.out (by omega) HZ.out HCF.out.2).mono ?_
        rintro e w5 ⟨u5, us5, rfl, ho5, hb5⟩
        obtain ⟨U5, cU5, hu5, _⟩ := ho5.form
        obtain ⟨nU5, hnU5⟩ : ∃ t, (putT p cur (rotW kk xs) z).length = t := ⟨_, rfl⟩
        rw [hnU5] at hu5
        subst hu5
        clear hnU5
        have HB5 : Hid (Below wr.heap.size wr w5) := Lib.hid (HB4D.out.trans (hb5.mono HB4D.out.size))
        have HO5 := Lib.hid ho5
        clear ho5 hb5
        refine hK.out _ _ (HK.out _ HB5.out) ?_
        clear hK
        try simp only [Act.put, List.setIfInBounds_toArray, List.set_cons_zero, List.set_cons_succ]
        apply take_held 9 rfl rfl (by kernel_rfl) (by kernel_rfl) (by kernel_rfl) (HK.out _ HB5.out)
        case hy => (intro w0 hSw; (try dsimp only at hSw); go_simp; with_reducible rfl)
        try simp only [Act.put, List.setIfInBounds_toArray, List.set_cons_zero, List.set_cons_succ]
        refine wpAnyH_done (by kernel_rfl) ?_ _
        show wpList _ _ _ _ _ _
        obtain ⟨y0, y1, _⟩ := HK.out _ HB5.out
        have hbx5 := HPR.out.box.below HB5.out HPR.out.box.lt
        have y2 := hbx5.free 0
        have y3 := hbx5.free 1
        clear hbx5 HSD4
        go_wp2_with fail
        go_roundw
        case rel => exact ⟨k + 1, by omega, by go_num, Lib.hid ⟨_, _, by rw [HFIN.out]; exact PutR.stored HPR.out HB5.out HO5.out HB4D.out.size⟩⟩
        case measure => simp [intOf]; omega
    · obtain rfl : k = n := by omega
      have HT : Hid (ts.take k = ts) := Lib.hid (List.take_of_length_le (by rw [HL.out]; exact Nat.le_refl _))
      rw [HT.out] at hpr
      obtain ⟨U, cU, hu, _⟩ := hpr.own.form
      obtain ⟨nU, hnU⟩ : ∃ nU, (putAll p [] (mapL (rotW kk) ts)).length = nU := ⟨_, rfl⟩
      rw [hnU] at hu
      subst hu
      have HG7 := Lib.hid (HG2.out.below hbw (by have := HS.out; omega))
      have t0 := hpr.box.cell0
      have t1 := hpr.box.cell1
      have d0 := HG7.out.cell0
      have d1 := HG7.out.cell1
      have f0 := HG7.out.free 0
      have f1 := HG7.out.free 1
      have HPR := Lib.hid hpr
      have hs8 := HS.out
      clear hpr hnU hx1 hbw
      go_wp2_with fail
      have e2 := (HG7.out.set0 (.int .i64 p)).set1 (.slice U nU cU)
      refine bodyPost_ret (v := .tuple #[.agg #[.int .i64 p, .slice U nU cU], .int .i64 0]) ?_ ?_ ?_
      · exact results_row_tmp Try.results39 _ _ (w.heap.size + 1) _ _ rfl rfl (run_loadVar_row _ _ _ _ _ _ _ e2 Try.underlying25 rfl size_sum)
      · rfl
      · have hOT := ((HPR.out.own.set_other ⟨w.heap.size + 1, 0, none⟩ (.int .i64 p) (by show w.heap.size + 1 < W0.heap.size; omega)).set_other ⟨w.heap.size + 1, 1, none⟩ (.slice U nU cU) (by show w.heap.size + 1 < W0.heap.size; omega)).mono (lo' := w.heap.size) (by omega)
        exact ⟨_, us, rfl, hOT, (((HB.out.trans (HPR.out.below.mono HB.out.size)).setCell (by show w.heap.size ≤ w.heap.size + 1; omega) _).setCell (by show w.heap.size ≤ w.heap.size + 1; omega) _)⟩

end Go.Proofs.Ytofcldplgkejiaa
