/- The model's l03Told and DerivativeOf. -/
import Derived.Test.YtofcldplgkejiaaSumSpec
import Derived.Test.YtofcldplgkejiaaKeep
import Derived.Test.YtofcldplgkejiaaSumImpl
namespace Go.Proofs.Ytofcldplgkejiaa
open Go.RowKit
set_option linter.unusedVariables false
set_option linter.unusedSimpArgs false
set_option maxRecDepth 100000

theorem derL_len {ts : Tms} (h : Plain ts) : (derL ts).length ≤ 6 * ts.length := by
  induction ts with
  | nil => simp [derL]
  | cons t ts ih =>
    have h1 := ih (fun u hu => h u (List.mem_cons_of_mem _ hu))
    have h2 := isWord_len (h t (List.mem_cons_self ..)).1
    have h3 : derL (t :: ts) = derW t.1 t.2 (t.1.length / 2) ++ derL ts := by unfold derL; simp
    rw [h3, List.length_append, List.length_cons]
    have h4 : (derW t.1 t.2 (t.1.length / 2)).length = t.1.length / 2 := by unfold derW; simp
    omega
theorem derW_len (w : List Int) (v : Int) (k : Nat) : (derW w v k).length = k := by unfold derW; simp
theorem derW_nil (w : List Int) (v : Int) : derW w v 0 = [] := by unfold derW; simp


set_option maxHeartbeats 8000000 in
theorem specDerivativeOf_any (p : Int) (A : Option Addr) (n c : Nat) (ts : Tms) (w : World) (hr : RdT w A n ts) (hwf : WfT ts) (hN : need ts ≤ 1048576) (hp : -9223372036854775808 ≤ p ∧ p ≤ 9223372036854775807) :
    GaveS 31 #[.agg #[.int .i64 p, .slice A n c]] w (sumRes p ts (derL ts)) := by
  obtain ⟨W, hW⟩ : ∃ W, W = (w.alloc (.cells #[.int .i64 p, .slice A n c] 25)).alloc (.cells #[.int .i64 0, .slice none 0 0] 25) := ⟨_, rfl⟩
  have hBW : Below w.heap.size w W := by rw [hW]; exact (below_alloc _ _).alloc (by simp) _
  have hsW : W.heap.size = w.heap.size + 2 := by rw [hW]; simp
  have g1 : Box2 W w.heap.size 25 (.int .i64 p) (.slice A n c) := by rw [hW]; exact (box2_new _ _ _ _).alloc _
  have g2 : Box2 W (w.heap.size + 1) 25 (.int .i64 0) (.slice none 0 0) := by
    have h := box2_new (w.alloc (.cells #[.int .i64 p, .slice A n c] 25)) 25 (.int .i64 0) (.slice none 0 0)
    rw [hW]; simpa using h
  have HWT := Lib.hid hwf
  have HN := Lib.hid hN
  have HL := Lib.hid hr.len
  have HRR : Hid (RdT W A n ts) := Lib.hid (hr.below hBW)
  have HR : Hid (RdTB W w.heap.size A n ts) := Lib.hid (RdTB.below hr hBW)
  have HG1 := Lib.hid g1
  have HG2 := Lib.hid g2
  have HB := Lib.hid hBW
  have HS := Lib.hid hsW
  have HW := Lib.hid hW
  have q0 := g1.cell0
  have q1 := g1.cell1
  clear hr hwf hN g1 g2 hBW hsW hW
  rcases hsm : isSum p ts with _ | _
  · have H := Lib.hid hsm
    rw [show sumRes p ts (derL ts) = ((0, []), 1) from by exact sumRes_no _ hsm]
    clear hsm
    unfold GaveS
    go_enter Try.func31, Try.ntmps31
    go_wp2_with fail
    rw [← HW.out]
    refine (l03Is_any _ _ _ _ ts _ HRR.out HWT.out HN.out hp).mono ?_
    rintro e w1 ⟨rfl, hb1⟩
    rw [H.out]
    have HG3 := Lib.hid (HG2.out.below hb1 (by rw [HS.out]; omega))
    have HB3 := Lib.hid (HB.out.trans (hb1.mono HB.out.size))
    clear hb1 q0 q1
    have d0 := HG3.out.cell0
    have d1 := HG3.out.cell1
    have f0 := HG3.out.free 0
    have f1 := HG3.out.free 1
    go_wp2_with fail
    have e2 := (HG3.out.set0 (.int .i64 0)).set1 (.slice none 0 0)
    refine bodyPost_ret (v := .tuple #[.agg #[.int .i64 0, .slice none 0 0], .int .i64 1]) ?_ ?_ ?_
    · exact results_row_tmp Try.results31 _ _ (w.heap.size + 1) _ _ rfl rfl (run_loadVar_row _ _ _ _ _ _ _ e2 Try.underlying25 rfl size_sum)
    · rfl
    · exact ⟨_, _, rfl, OwnT.nil_ _ _, ((HB3.out.setCell (by show w.heap.size ≤ w.heap.size + 1; omega) _).setCell (by show w.heap.size ≤ w.heap.size + 1; omega) _)⟩
  have HSUM := Lib.hid hsm
  have hpb := prime_bd (isSum_prime hsm)
  have hl2 := isSum_len hsm
  have hn2 : n ≤ 200 := by have := HL.out; omega
  obtain ⟨rp, rts, rz, hR⟩ : ∃ rp rts rz, sumRes p ts (derL ts) = ((rp, rts), rz) := ⟨_, _, _, rfl⟩
  have HR9 : Hid (toldT p (putAll p [] (derL ts)) = ((rp, rts), rz)) := Lib.hid (by rw [← hR]; exact (sumRes_yes _ hsm).symm)
  have HPL : Hid (Plain ts) := Lib.hid (isSum_plain hsm)
  have hll2 : (putAll p [] (derL ts)).length ≤ 1048576 := by
    have h1 := (cur_facts (p := p) (by omega) (plain_derL (isSum_plain hsm)) (by have := derL_len (isSum_plain hsm); omega) []).1
    have h2 := need_len (putAll p [] (derL ts))
    omega
  have HLL := Lib.hid hll2
  rw [hR]
  clear hsm hl2 hR hll2
  unfold GaveS
  go_enter Try.func31, Try.ntmps31
  go_wp2_with fail
  rw [← HW.out]
  refine (l03Is_any _ _ _ _ ts _ HRR.out HWT.out HN.out hp).mono ?_
  rintro e w1 ⟨rfl, hb1⟩
  rw [HSUM.out]
  obtain ⟨W0, hW0⟩ : ∃ W0, W0 = w1 := ⟨_, rfl⟩
  rw [← hW0] at hb1 ⊢
  clear hW0
  have hs1 := hb1.size
  have HG1 := Lib.hid (HG1.out.below hb1 (by rw [HS.out]; omega))
  have HG2 := Lib.hid (HG2.out.below hb1 (by rw [HS.out]; omega))
  have HR := Lib.hid (HR.out.below (hb1.mono (by rw [HS.out]; omega)))
  have HB := Lib.hid (HB.out.trans (hb1.mono HB.out.size))
  have HS := Lib.hid (show w.heap.size + 2 ≤ W0.heap.size by have := HS.out; omega)
  clear q0 q1 hb1
  have q0 := HG1.out.cell0
  go_wp2_with fail
  refine (empty_any p W0).mono ?_
  rintro e w3 ⟨g, rfl, ho3, hb3⟩
  have hp0 := putR_new (p := p) hb3 ho3
  obtain ⟨V, hV⟩ : ∃ V, V = w3.alloc (.cells #[.int .i64 p, .slice (some ⟨g, 0, none⟩) 0 0] 25) := ⟨_, rfl⟩
  obtain ⟨T, hT⟩ : ∃ T, T = w3.heap.size := ⟨_, rfl⟩
  rw [← hV, ← hT] at hp0
  have HV := Lib.hid hV
  have HP0 : Hid (∃ u us, PutR W0 V W0.heap.size T p u us (putAll p [] (derL (ts.take 0)))) := Lib.hid ⟨_, _, hp0⟩
  clear hV ho3 hb3 q0 hp0
  go_upto_region 4 with fail
  rw [← hT, ← HV.out]
  clear hT
  go_wp2_with fail
  go_loopw [5] (fun i wr => ∃ k : Nat, k ≤ n ∧ i = .int .i64 k ∧ Hid (∃ u us, PutR W0 wr W0.heap.size T p u us (putAll p [] (derL (ts.take k))))) (fun i _ => n - (intOf i).toNat)
  case atStart => exact ⟨0, by omega, rfl, HP0⟩
  case round =>
    rename World => wo
    obtain ⟨k, hk, rfl, hpo⟩ := hrel
    by_cases hlt : k < n
    · obtain ⟨b0, o, C, m0, d, rfl, ha, hc0, hc1, hrk, hmd, hd⟩ := HR.out.atB hlt
      have hkl : k < ts.length := by have := HL.out; omega
      obtain ⟨z, hz⟩ : ∃ z, z = vl ts k := ⟨_, rfl⟩
      obtain ⟨xs, hxs⟩ : ∃ xs, xs = wd ts k := ⟨_, rfl⟩
      have hmem := isSum_mem HSUM.out (wd_mem hkl)
      have hstep := derL_take ts k hkl
      rw [← hz, ← hxs] at hmem hstep
      rw [← hz] at hc1
      rw [← hxs] at hrk
      have HX : Hid (isWord xs = true) := Lib.hid hmem.1
      have hzr : 1 ≤ z ∧ z ≤ p - 1 := hmem.2
      have HZ : Hid (0 ≤ z ∧ z ≤ 1048576) := Lib.hid (by omega)
      have hzs : 0 ≤ z ∧ z ≤ 1024 := by omega
      obtain ⟨hh, hev⟩ := word_even HX.out
      have hlx : xs.length = m0 := hrk.1
      have hm12 : m0 ≤ 12 := by have h2 := isWord_len HX.out; omega
      have hhe : (m0 : Int) / 2 = (hh : Int) := by omega
      have hh6 : hh ≤ 6 := by omega
      obtain ⟨L0, hL0⟩ : ∃ L0, L0 = derL (ts.take k) := ⟨_, rfl⟩
      have hgn : derL (ts.take (k + 1)) = L0 ++ derW xs z hh := by rw [hstep, ← hL0, show xs.length / 2 = hh from by omega]
      have hp0 : Plain L0 := by rw [hL0]; exact plain_derL (HPL.out.take k)
      have hl0 : L0.length ≤ 1200 := by have := derL_len (HPL.out.take k); rw [← hL0] at this; have h3 := List.length_take_le k ts; omega
      rw [← hL0] at hpo
      have HGN := Lib.hid hgn
      have HHE := Lib.hid hhe
      have HP1 := Lib.hid hp0
      have HL0 := Lib.hid hl0
      have HMD := Lib.hid hmd
      have HRK0 : Hid (RdB W0 w.heap.size C m0 xs) := Lib.hid hrk
      have HC0 := Lib.hid hc0
      have HC1 := Lib.hid hc1
      have HPS : Hid (∃ u us, PutR W0 wo W0.heap.size T p u us (putAll p [] (L0 ++ derW xs z 0))) := Lib.hid (by rw [derW_nil, List.append_nil]; exact hpo.out)
      clear hz hxs hmem hstep hL0 hgn hrk hmd hd hev hlx hp0 hl0 hzr hc0 hc1
      obtain ⟨u, us, hpr⟩ := hpo.out
      have hbw := hpr.below
      have hx1 := (HG1.out.below hbw (by have := HS.out; omega))
      have q1 := hx1.cell1
      have hc0 : wo.cell? ⟨b0, o + k * 2, none⟩ = some (.slice C m0 d) := (hbw.cell (p := ⟨b0, o + k * 2, none⟩) (by have := HS.out; show b0 < W0.heap.size; omega)).trans HC0.out
      clear hpo hpr hbw hx1 hhe
      go_upto_region 9 with fail
      clear q1 hc0
      go_loopw [7] (fun i wr => ∃ q : Nat, q ≤ hh ∧ i = .int .i64 q ∧ Hid (∃ u us, PutR W0 wr W0.heap.size T p u us (putAll p [] (L0 ++ derW xs z q)))) (fun i _ => hh - (intOf i).toNat)
      case atStart => exact ⟨0, by omega, rfl, HPS⟩
      case round =>
        obtain ⟨q, hq, rfl, hpi⟩ := hrel
        by_cases hqt : q < hh
        · obtain ⟨u, us, hpr⟩ := hpi.out
          have hbw := hpr.below
          have hsw := hbw.size
          have hx1 := (HG1.out.below hbw (by have := HS.out; omega))
          have hqi : (q : Int) < (m0 : Int) / 2 := by rw [HHE.out]; omega
          obtain ⟨cur, hcur⟩ : ∃ cur, cur = putAll p [] (L0 ++ derW xs z q) := ⟨_, rfl⟩
          have hfin : putAll p [] (L0 ++ derW xs z (q + 1)) = putT p cur (without xs (q : Int)) z := by rw [derW_succ, ← List.append_assoc, putAll_snoc, ← hcur]
          have hcf := cur_facts (p := p) (by omega) (HP1.out.app (plain_derW (k := q) HX.out hzs)) (by rw [List.length_append, derW_len]; have := HL0.out; omega) (without xs (q : Int))
          rw [← hcur] at hpr hcf
          obtain ⟨U, cU, hu, _⟩ := hpr.own.form
          obtain ⟨nU, hnU⟩ : ∃ nU, cur.length = nU := ⟨_, rfl⟩
          rw [hnU] at hu
          subst hu
          have HPR := Lib.hid hpr
          have HCF := Lib.hid hcf
          have HFIN := Lib.hid hfin
          have HRK : Hid (Rd wr.drew C m0 xs) := Lib.hid (((HRK0.out.below (hbw.mono (by have := HS.out; omega))).rd (by have := HS.out; omega)).below (Below.refl _ _).drew)
          have HRU : Hid (RdT wr.drew U nU cur) := Lib.hid (hpr.rdT.below (Below.refl _ _).drew)
          have HK : Hid (∀ X, Below wr.heap.size wr X → X.cell? ⟨T, 0, none⟩ = some (.int .i64 p) ∧ X.cell? ⟨T, 1, none⟩ = some (.slice U nU cU) ∧ X.cell? ⟨w.heap.size, 1, none⟩ = some (.slice (some ⟨b0, o, none⟩) n c) ∧ X.cell? ⟨b0, o + k * 2, none⟩ = some (.slice C m0 d) ∧ X.cell? ⟨b0, o + k * 2 + 1, none⟩ = some (.int .i64 z)) := Lib.hid (fun X hX => by
            have hb1 := hpr.box.below hX hpr.box.lt
            have hb2 := hbw.trans (hX.mono hbw.size)
            exact ⟨hb1.cell0, hb1.cell1, (hx1.below hX (by have := HS.out; omega)).cell1, (hb2.cell (p := ⟨b0, o + k * 2, none⟩) (by have := HS.out; show b0 < W0.heap.size; omega)).trans HC0.out, (hb2.cell (p := ⟨b0, o + k * 2 + 1, none⟩) (by have := HS.out; show b0 < W0.heap.size; omega)).trans HC1.out⟩)
          have HSD := HK.out wr.drew (Below.refl _ _).drew
          have hkn0 : (0 : Int) ≤ (k : Int) := by omega
          have hkn1 : (k : Int) < (n : Int) := by omega
          clear hcur hfin hcf hpr hnU hbw hx1 hpi
          go_upto_region 11 with fail
          clear hqi
          refine wp_region_store (fun X => X.cell? ⟨T, 0, none⟩ = some (.int .i64 p) ∧ X.cell? ⟨T, 1, none⟩ = some (.slice U nU cU) ∧ X.cell? ⟨w.heap.size, 1, none⟩ = some (.slice (some ⟨b0, o, none⟩) n c) ∧ X.cell? ⟨b0, o + k * 2, none⟩ = some (.slice C m0 d) ∧ X.cell? ⟨b0, o + k * 2 + 1, none⟩ = some (.int .i64 z)) 11 _ (by kernel_rfl) rfl rfl rfl rfl (by kernel_rfl) (by kernel_rfl) (by kernel_rfl) ?_
          simp only [List.set_cons_succ, List.set_cons_zero, nopOf, List.length_cons, List.length_nil, Nat.reduceAdd, Nat.zero_add]
          apply take_held 0 rfl rfl (by kernel_rfl) (by kernel_rfl) (by kernel_rfl) HSD
          case hy => (intro w0 hSw; (try dsimp only at hSw); go_simp; with_reducible rfl)
          try simp only [Act.put, List.setIfInBounds_toArray, List.set_cons_zero, List.set_cons_succ]
          apply take_held 1 rfl rfl (by kernel_rfl) (by kernel_rfl) (by kernel_rfl) HSD
          case hy => (intro w0 hSw; (try dsimp only at hSw); go_simp; with_reducible rfl)
          try simp only [Act.put, List.setIfInBounds_toArray, List.set_cons_zero, List.set_cons_succ]
          apply take_held 2 rfl rfl (by kernel_rfl) (by kernel_rfl) (by kernel_rfl) HSD
          case hy => (intro w0 hSw; (try dsimp only at hSw); go_simp; with_reducible rfl)
          try simp only [Act.put, List.setIfInBounds_toArray, List.set_cons_zero, List.set_cons_succ]
          apply take_held 4 rfl rfl (by kernel_rfl) (by kernel_rfl) (by kernel_rfl) HSD
          case hy => (intro w0 hSw; (try dsimp only at hSw); go_simp; with_reducible rfl)
          try simp only [Act.put, List.setIfInBounds_toArray, List.set_cons_zero, List.set_cons_succ]
          apply take_held 5 rfl rfl (by kernel_rfl) (by kernel_rfl) (by kernel_rfl) HSD
          case hy => (intro w0 hSw; (try dsimp only at hSw); go_simp; with_reducible rfl)
          try simp only [Act.put, List.setIfInBounds_toArray, List.set_cons_zero, List.set_cons_succ]
          apply take_held 6 rfl rfl (by kernel_rfl) (by kernel_rfl) (by kernel_rfl) HSD
          case hy => (intro w0 hSw; (try dsimp only at hSw); go_simp; with_reducible rfl)
          try simp only [Act.put, List.setIfInBounds_toArray, List.set_cons_zero, List.set_cons_succ]
          apply take_held 7 rfl rfl (by kernel_rfl) (by kernel_rfl) (by kernel_rfl) HSD
          case hy => (intro w0 hSw; (try dsimp only at hSw); go_simp; with_reducible rfl)
          try simp only [Act.put, List.setIfInBounds_toArray, List.set_cons_zero, List.set_cons_succ]
          apply take_held 8 rfl rfl (by kernel_rfl) (by kernel_rfl) (by kernel_rfl) HSD
          case hy => (intro w0 hSw; (try dsimp only at hSw); go_simp; with_reducible rfl)
          try simp only [Act.put, List.setIfInBounds_toArray, List.set_cons_zero, List.set_cons_succ]
          apply take_held 9 rfl rfl (by kernel_rfl) (by kernel_rfl) (by kernel_rfl) HSD
          case hy => (intro w0 hSw; (try dsimp only at hSw); go_simp; with_reducible rfl)
          try simp only [Act.put, List.setIfInBounds_toArray, List.set_cons_zero, List.set_cons_succ]
          refine all_held 3 rfl rfl (by kernel_rfl) (fun K' hK => ?_)
          go_simp
          go_at_call 81
          refine (specDelete_any C m0 d xs (q : Int) _ HRK.out (by omega)).mono ?_
          rintro e w4 ⟨v4, rfl, ho4, hb4⟩
          obtain ⟨B4, m4, d4, rfl, hm4, hr4⟩ := ho4.form'
          have HB4 : Hid (Below wr.heap.size wr w4) := Lib.hid ((Below.refl _ _).drew.trans hb4)
          have HBD4 := Lib.hid hb4
          have HR4 := Lib.hid hr4
          have hm4b : m4 ≤ 12 := by have h1 := (show (norm (xs.filter fun x => x != (q : Int))).length ≤ xs.length from without_len xs (q : Int)); have h2 := isWord_len HX.out; omega
          clear ho4 hm4 hr4 hb4
          refine hK.out _ _ (HK.out _ HB4.out) ?_
          clear hK
          try simp only [Act.put, List.setIfInBounds_toArray, List.set_cons_zero, List.set_cons_succ]
          refine all_held 10 rfl rfl (by kernel_rfl) (fun K' hK => ?_)
          go_simp
          go_at_call 56
          refine (put_any p z U B4 nU cU m4 d4 cur (without xs (q : Int)) _ (by omega) (HRU.out.below (HBD4.out)) HCF.out.1 HR4.out (by omega) HZ.out HCF.out.2).mono ?_
          rintro e w5 ⟨u5, us5, rfl, ho5, hb5⟩
          obtain ⟨U5, cU5, hu5, _⟩ := ho5.form
          obtain ⟨nU5, hnU5⟩ : ∃ t, (putT p cur (without xs (q : Int)) z).length = t := ⟨_, rfl⟩
          rw [hnU5] at hu5
          subst hu5
          clear hnU5
          have HB5 : Hid (Below wr.heap.size wr w5) := Lib.hid (HB4.out.trans (hb5.mono HB4.out.size))
          have HO5 := Lib.hid ho5
          clear ho5 hb5
          refine hK.out _ _ (HK.out _ HB5.out) ?_
          clear hK
          try simp only [Act.put, List.setIfInBounds_toArray, List.set_cons_zero, List.set_cons_succ]
          apply take_held 11 rfl rfl (by kernel_rfl) (by kernel_rfl) (by kernel_rfl) (HK.out _ HB5.out)
          case hy => (intro w0 hSw; (try dsimp only at hSw); go_simp; with_reducible rfl)
          try simp only [Act.put, List.setIfInBounds_toArray, List.set_cons_zero, List.set_cons_succ]
          refine wpAnyH_done (by kernel_rfl) ?_ _
          show wpList _ _ _ _ _ _
          obtain ⟨y0, y1, _⟩ := HK.out _ HB5.out
          have hbx5 := HPR.out.box.below HB5.out HPR.out.box.lt
          have y2 := hbx5.free 0
          have y3 := hbx5.free 1
          clear hbx5 HSD
          go_wp2_with fail
          go_roundw
          case rel => exact ⟨q + 1, by omega, by go_num, Lib.hid ⟨_, _, by rw [HFIN.out]; exact PutR.stored HPR.out HB5.out HO5.out HB4.out.size⟩⟩
          case measure => simp [intOf]; omega
        · obtain rfl : q = hh := by omega
          have hqi : ¬ ((q : Int) < (m0 : Int) / 2) := by rw [HHE.out]; omega
          go_wp2_with fail
          go_roundw
          case rel => exact ⟨k + 1, by omega, by go_num, Lib.hid (by rw [HGN.out]; exact hpi.out)⟩
          case measure => simp [intOf]; omega
    · obtain rfl : k = n := by omega
      have HT : Hid (ts.take k = ts) := Lib.hid (List.take_of_length_le (by rw [HL.out]; exact Nat.le_refl _))
      obtain ⟨u, us, hpr⟩ := hpo.out
      have hbw := hpr.below
      have hx1 := (HG1.out.below hbw (by have := HS.out; omega))
      have q1 := hx1.cell1
      rw [HT.out] at hpr
      obtain ⟨U, cU, hu, _⟩ := hpr.own.form
      obtain ⟨nU, hnU⟩ : ∃ nU, (putAll p [] (derL ts)).length = nU := ⟨_, rfl⟩
      rw [hnU] at hu
      subst hu
      have HG7 := Lib.hid (HG2.out.below hbw (by have := HS.out; omega))
      have HBB := Lib.hid (HB.out.trans (hbw.mono HB.out.size))
      have t0 := hpr.box.cell0
      have t1 := hpr.box.cell1
      have HPR := Lib.hid hpr
      have hs8 := HS.out
      have hs7 := hbw.size
      have hll : nU ≤ 1048576 := by rw [← hnU]; exact HLL.out
      by_cases hmany : 200 < nU
      · have hres : rp = 0 ∧ rts = [] ∧ rz = 3 := by
          have h := HR9.out
          unfold toldT at h
          rw [if_pos (by omega)] at h
          injection h with h1 h2
          injection h1 with h3 h4
          exact ⟨h3.symm, h4.symm, h2.symm⟩
        obtain ⟨rfl, rfl, rfl⟩ := hres
        clear hpr hnU hx1 hbw hpo
        go_wp2_with fail
        refine (told_many p U nU cU _ (by omega) (by omega)).mono ?_
        rintro e w8 ⟨rfl, hb8⟩
        have hs9 := hb8.size
        have HG8 := Lib.hid (HG7.out.below hb8 (by omega))
        have HP8 := Lib.hid (HPR.out.own.below hb8)
        have HB8 := Lib.hid (HBB.out.trans (hb8.mono HBB.out.size))
        obtain ⟨V8, hV8⟩ : ∃ X, X = w8.alloc (.cells #[.int .i64 0, .slice none 0 0] 25) := ⟨_, rfl⟩
        have h8 : Below w8.heap.size w8 V8 := by rw [hV8]; exact below_alloc _ _
        have b8 : Box2 V8 w8.heap.size 25 (.int .i64 0) (.slice none 0 0) := by rw [hV8]; exact box2_new _ _ _ _
        have HG9 := Lib.hid (HG8.out.below h8 (by omega))
        have HP9 := Lib.hid (HP8.out.below h8)
        have HB9 := Lib.hid (HB8.out.trans (h8.mono HB8.out.size))
        have HV8 := Lib.hid hV8
        have t8 := b8.cell0
        have t9 := b8.cell1
        clear hb8 hV8 h8 b8 t0 t1
        have d0 := HG9.out.cell0
        have d1 := HG9.out.cell1
        have f0 := HG9.out.free 0
        have f1 := HG9.out.free 1
        go_upto_region 13 with fail
        rw [← HV8.out]
        go_wp2_with fail
        have e2 := (HG9.out.set0 (.int .i64 0)).set1 (.slice none 0 0)
        refine bodyPost_ret (v := .tuple #[.agg #[.int .i64 0, .slice none 0 0], .int .i64 3]) ?_ ?_ ?_
        · exact results_row_tmp Try.results31 _ _ (w.heap.size + 1) _ _ rfl rfl (run_loadVar_row _ _ _ _ _ _ _ e2 Try.underlying25 rfl size_sum)
        · rfl
        · exact ⟨_, _, rfl, OwnT.nil_ _ _, ((HB9.out.setCell (by show w.heap.size ≤ w.heap.size + 1; omega) _).setCell (by show w.heap.size ≤ w.heap.size + 1; omega) _)⟩
      · have hres : rp = p ∧ rts = putAll p [] (derL ts) ∧ rz = 0 := by
          have h := HR9.out
          unfold toldT at h
          rw [if_neg (by omega)] at h
          injection h with h1 h2
          injection h1 with h3 h4
          exact ⟨h3.symm, h4.symm, h2.symm⟩
        have HRES := Lib.hid hres
        clear hpr hnU hx1 hbw hpo hres
        go_wp2_with fail
        refine (told_few p U nU cU _ (by omega)).mono ?_
        rintro e w8 ⟨rfl, hb8⟩
        have hs9 := hb8.size
        have HG8 := Lib.hid (HG7.out.below hb8 (by omega))
        have HP8 := Lib.hid (HPR.out.own.below hb8)
        have HB8 := Lib.hid (HBB.out.trans (hb8.mono HBB.out.size))
        obtain ⟨V8, hV8⟩ : ∃ X, X = w8.alloc (.cells #[.int .i64 p, .slice U nU cU] 25) := ⟨_, rfl⟩
        have h8 : Below w8.heap.size w8 V8 := by rw [hV8]; exact below_alloc _ _
        have b8 : Box2 V8 w8.heap.size 25 (.int .i64 p) (.slice U nU cU) := by rw [hV8]; exact box2_new _ _ _ _
        have HG9 := Lib.hid (HG8.out.below h8 (by omega))
        have HP9 := Lib.hid (HP8.out.below h8)
        have HB9 := Lib.hid (HB8.out.trans (h8.mono HB8.out.size))
        have HV8 := Lib.hid hV8
        have t8 := b8.cell0
        have t9 := b8.cell1
        clear hb8 hV8 h8 b8 t0 t1
        have d0 := HG9.out.cell0
        have d1 := HG9.out.cell1
        have f0 := HG9.out.free 0
        have f1 := HG9.out.free 1
        go_upto_region 13 with fail
        rw [← HV8.out]
        go_wp2_with fail
        have e2 := (HG9.out.set0 (.int .i64 p)).set1 (.slice U nU cU)
        refine bodyPost_ret (v := .tuple #[.agg #[.int .i64 p, .slice U nU cU], .int .i64 0]) ?_ ?_ ?_
        · exact results_row_tmp Try.results31 _ _ (w.heap.size + 1) _ _ rfl rfl (run_loadVar_row _ _ _ _ _ _ _ e2 Try.underlying25 rfl size_sum)
        · rfl
        · have hOT := ((HP9.out.set_other ⟨w.heap.size + 1, 0, none⟩ (.int .i64 p) (by show w.heap.size + 1 < W0.heap.size; omega)).set_other ⟨w.heap.size + 1, 1, none⟩ (.slice U nU cU) (by show w.heap.size + 1 < W0.heap.size; omega)).mono (lo' := w.heap.size) (by omega)
          rw [HRES.out.1, HRES.out.2.1, HRES.out.2.2]
          exact ⟨_, us, rfl, hOT, ((HB9.out.setCell (by show w.heap.size ≤ w.heap.size + 1; omega) _).setCell (by show w.heap.size ≤ w.heap.size + 1; omega) _)⟩

end Go.Proofs.Ytofcldplgkejiaa
