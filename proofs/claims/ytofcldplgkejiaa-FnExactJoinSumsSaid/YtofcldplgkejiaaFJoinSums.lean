/- The model's l03Join. -/
/- JoinSums: the model's contract; no answer is too great. -/
import Derived.Test.YtofcldplgkejiaaSumJoin
import Derived.Test.YtofcldplgkejiaaSumAddSpec
namespace Go.Proofs.Ytofcldplgkejiaa
open Go.RowKit
set_option linter.unusedVariables false
set_option linter.unusedSimpArgs false
set_option maxRecDepth 100000

theorem joinW_len (w : List Int) (v : Int) (us : Tms) : (joinW w v us).length = us.length := by unfold joinW; simp
theorem joinL_len (ts us : Tms) : (joinL ts us).length = ts.length * us.length := by
  induction ts with
  | nil => simp [joinL]
  | cons t ts ih =>
    have h3 : joinL (t :: ts) us = joinW t.1 t.2 us ++ joinL ts us := by unfold joinL; simp
    rw [h3, List.length_append, ih, joinW_len, List.length_cons, Nat.succ_mul]; omega
theorem fits_not {ts us : Tms} {i j : Nat} (hi : i < ts.length) (hj : j < us.length) (h : ¬ (wd ts i).length + (wd us j).length ≤ 12) : fits ts us = false := by
  rw [Bool.eq_false_iff]; intro hf
  exact h ((fits_iff ts us).1 hf i hi j hj)

theorem joinW_plain' {w : List Int} {v p : Int} {us : Tms} (hw : isWord w = true) (hv : 1 ≤ v ∧ v ≤ p - 1) (hs : isSum p us = true) (q : Nat) (hf : ∀ j, j < q → w.length + (wd us j).length ≤ 12) : Plain (joinW w v (us.take q)) := by
  have hb := prime_bd (isSum_prime hs)
  intro t ht
  unfold joinW at ht
  obtain ⟨u, hu, rfl⟩ := List.mem_map.1 ht
  obtain ⟨j, hj, rfl⟩ := List.getElem_of_mem hu
  have hj2 : j < q ∧ j < us.length := by rw [List.length_take] at hj; omega
  rw [List.getElem_take] at *
  have h1 := hf j hj2.1
  have e2 : wd us j = (us[j]).1 := by unfold wd; rw [List.getElem?_eq_getElem hj2.2]; rfl
  rw [e2] at h1
  have h2 := isSum_mem hs (List.getElem_mem hj2.2)
  have h3 : 0 ≤ v * (us[j]).2 := Int.mul_nonneg (by omega) (by omega)
  have h4 : v * (us[j]).2 ≤ 12 * 12 := Int.mul_le_mul (by omega) (by omega) (by omega) (by omega)
  exact ⟨joined_isWord hw h2.1 h1, h3, by show v * (us[j]).2 ≤ 1024; omega⟩
theorem joinL_plain' {p : Int} {ts us : Tms} (ht : isSum p ts = true) (hs : isSum p us = true) (k : Nat) (hf : ∀ i, i < k → ∀ j, j < us.length → (wd ts i).length + (wd us j).length ≤ 12) : Plain (joinL (ts.take k) us) := by
  intro t h
  unfold joinL at h
  obtain ⟨x, hx, h⟩ := List.mem_flatMap.1 h
  obtain ⟨i, hi, rfl⟩ := List.getElem_of_mem hx
  have hi2 : i < k ∧ i < ts.length := by rw [List.length_take] at hi; omega
  rw [List.getElem_take] at h
  have e1 : wd ts i = (ts[i]).1 := by unfold wd; rw [List.getElem?_eq_getElem hi2.2]; rfl
  have h2 := isSum_mem ht (List.getElem_mem hi2.2)
  exact joinW_plain h2.1 h2.2 hs (fun j hj => by rw [← e1]; exact hf i hi2.1 j hj) t h
theorem cell_lt {W : World} {a : Addr} {v : Value} (h : W.cell? a = some v) : a.block < W.heap.size := by
  rcases Nat.lt_or_ge a.block W.heap.size with hn | hn
  · exact hn
  · unfold World.cell? at h
    rw [Array.getElem?_eq_none hn] at h
    simp at h
theorem cell_alloc {W : World} {a : Addr} {v : Value} (h : W.cell? a = some v) (o : Obj) : (W.alloc o).cell? a = some v :=
  ((below_alloc W o).cell (p := a) (cell_lt h)).trans h
set_option maxHeartbeats 8000000 in
theorem join_any (p : Int) (A B : Option Addr) (n c m d : Nat) (ts us : Tms) (w : World) (hr : RdT w A n ts) (hr2 : RdT w B m us) (hsa : isSum p ts = true) (hsb : isSum p us = true) :
    Calls Try.prog 75 #[.agg #[.int .i64 p, .slice A n c], .agg #[.int .i64 p, .slice B m d]] w fun e w' => ∃ U nU cU us' ok, e = .returned (.tuple #[.agg #[.int .i64 p, .slice U nU cU], .bool ok]) ∧ Hid (ok = fits ts us) ∧ Hid (ok = true → OwnT w' w.heap.size (.slice U nU cU) us' (putAll p [] (joinL ts us))) ∧ Below w.heap.size w w' := by
  obtain ⟨W, hW⟩ : ∃ W, W = ((w.alloc (.cells #[.int .i64 p, .slice A n c] 25)).alloc (.cells #[.int .i64 p, .slice B m d] 25)).alloc (.cells #[.int .i64 0, .slice none 0 0] 25) := ⟨_, rfl⟩
  have hBW : Below w.heap.size w W := by rw [hW]; exact ((below_alloc _ _).alloc (by simp) _).alloc (by simp; omega) _
  have hsW : W.heap.size = w.heap.size + 3 := by rw [hW]; simp
  have g1 : Box2 W w.heap.size 25 (.int .i64 p) (.slice A n c) := by rw [hW]; exact ((box2_new _ _ _ _).alloc _).alloc _
  have g2 : Box2 W (w.heap.size + 1) 25 (.int .i64 p) (.slice B m d) := by
    have h := (box2_new (w.alloc (.cells #[.int .i64 p, .slice A n c] 25)) 25 (.int .i64 p) (.slice B m d)).alloc (.cells #[.int .i64 0, .slice none 0 0] 25)
    rw [hW]; simpa using h
  have g3 : Box2 W (w.heap.size + 2) 25 (.int .i64 0) (.slice none 0 0) := by
    have h := box2_new ((w.alloc (.cells #[.int .i64 p, .slice A n c] 25)).alloc (.cells #[.int .i64 p, .slice B m d] 25)) 25 (.int .i64 0) (.slice none 0 0)
    rw [hW]; simpa using h
  have hpb := prime_bd (isSum_prime hsa)
  have hl1 := isSum_len hsa
  have hl2 := isSum_len hsb
  have hn2 : n ≤ 200 := by have := hr.len; omega
  have hm2 : m ≤ 200 := by have := hr2.len; omega
  have HSA := Lib.hid hsa
  have HSB := Lib.hid hsb
  have HLA := Lib.hid hr.len
  have HLB := Lib.hid hr2.len
  have HBA : Hid (RdTB W w.heap.size A n ts) := Lib.hid (RdTB.below hr hBW)
  have HBB : Hid (RdTB W w.heap.size B m us) := Lib.hid (RdTB.below hr2 hBW)
  have HG1 := Lib.hid g1
  have HG2 := Lib.hid g2
  have HG3 := Lib.hid g3
  have HB := Lib.hid hBW
  have HS := Lib.hid hsW
  have HW := Lib.hid hW
  have q0 := g1.cell0
  have q1 := g1.cell1
  clear hr hr2 hsa hsb hl1 hl2 g1 g2 g3 hBW hsW hW
  go_enter Try.func75, Try.ntmps75
  go_upto_region 1 with fail
  rw [← HW.out]
  go_wp2_with fail
  refine (empty_any p W).mono ?_
  rintro e w3 ⟨g, rfl, ho3, hb3⟩
  have hp0 := putR_new (p := p) hb3 ho3
  obtain ⟨V, hV⟩ : ∃ V, V = w3.alloc (.cells #[.int .i64 p, .slice (some ⟨g, 0, none⟩) 0 0] 25) := ⟨_, rfl⟩
  obtain ⟨T, hT⟩ : ∃ T, T = w3.heap.size := ⟨_, rfl⟩
  rw [← hV, ← hT] at hp0
  have HV := Lib.hid hV
  have HP0 : Hid (∃ u us', PutR W V W.heap.size T p u us' (putAll p [] (joinL (ts.take 0) us))) := Lib.hid ⟨_, _, hp0⟩
  clear hV ho3 hb3 q0 q1 hp0
  go_upto_region 2 with fail
  rw [← hT, ← HV.out]
  clear hT
  go_wp2_with fail
  go_loopw [7] (fun i wr => ∃ k : Nat, k ≤ n ∧ i = .int .i64 k ∧ Hid (∀ i, i < k → ∀ j, j < m → (wd ts i).length + (wd us j).length ≤ 12) ∧ Hid (∃ u us', PutR W wr W.heap.size T p u us' (putAll p [] (joinL (ts.take k) us)))) (fun i _ => n - (intOf i).toNat)
  case atStart => exact ⟨0, by omega, rfl, Lib.hid (fun i hi => by omega), HP0⟩
  case round =>
    rename World => wo
    obtain ⟨k, hk, rfl, hft, hpo⟩ := hrel
    clear HP0
    obtain ⟨u, us0, hpr⟩ := hpo.out
    have hbw := hpr.below
    have hsw := hbw.size
    have hx1 := HG1.out.below hbw (by have := HS.out; omega)
    have hx2 := HG2.out.below hbw (by have := HS.out; omega)
    have q1 := hx1.cell1
    have q2 := hx2.cell1
    by_cases hlt : k < n
    · obtain ⟨b0, o, C, m0, d0, rfl, ha, hw0, hw1, hrk, hmd, hd⟩ := HBA.out.atB hlt
      have hkl : k < ts.length := by have := HLA.out; omega
      obtain ⟨z, hz⟩ : ∃ z, z = vl ts k := ⟨_, rfl⟩
      obtain ⟨xs, hxs⟩ : ∃ xs, xs = wd ts k := ⟨_, rfl⟩
      have HXS := Lib.hid hxs
      have hmem := isSum_mem HSA.out (wd_mem hkl)
      have hstep := joinL_take ts us k hkl
      rw [← hz, ← hxs] at hmem hstep
      rw [← hz] at hw1
      rw [← hxs] at hrk
      have HX : Hid (isWord xs = true) := Lib.hid hmem.1
      have hzz : 1 ≤ z ∧ z ≤ p - 1 := hmem.2
      have hlx : xs.length = m0 := hrk.1
      have hm12 : m0 ≤ 12 := by have h2 := isWord_len HX.out; omega
      obtain ⟨L0, hL0⟩ : ∃ L0, L0 = joinL (ts.take k) us := ⟨_, rfl⟩
      have hll0 : L0.length ≤ 40000 := by
        rw [hL0, joinL_len]
        have h1 := List.length_take_le k ts
        have h2 : us.length ≤ 200 := by have := HLB.out; omega
        calc (ts.take k).length * us.length ≤ 200 * 200 := Nat.mul_le_mul (by have := HLA.out; omega) h2
          _ = 40000 := rfl
      rw [← hL0] at hpo hstep
      have HL0 := Lib.hid hL0
      have HLL0 := Lib.hid hll0
      have HW0 := Lib.hid hw0
      have HW1 := Lib.hid hw1
      have HRK0 : Hid (RdB W w.heap.size C m0 xs) := Lib.hid hrk
      have HLX := Lib.hid hlx
      have HSTEP := Lib.hid hstep
      have HPS : Hid (∃ u us', PutR W wo W.heap.size T p u us' (putAll p [] (L0 ++ joinW xs z (us.take 0)))) := Lib.hid (by rw [joinW_zero, List.append_nil]; exact hpo.out)
      clear hz hxs hmem hstep hL0 hll0 hrk hmd hd hpr hx1 hx2 hbw hpo hw0 hw1 hlx
      go_upto_region 6 with fail
      clear q1 q2
      go_loopw [8] (fun i wr => ∃ q : Nat, q ≤ m ∧ i = .int .i64 q ∧ Hid (∀ i, i < q → xs.length + (wd us i).length ≤ 12) ∧ Hid (∃ u us', PutR W wr W.heap.size T p u us' (putAll p [] (L0 ++ joinW xs z (us.take q))))) (fun i _ => m - (intOf i).toNat)
      case atStart => exact ⟨0, by omega, rfl, Lib.hid (fun i hi => by omega), HPS⟩
      case round =>
        obtain ⟨q, hq, rfl, hfq, hpi⟩ := hrel
        clear HPS
        obtain ⟨u, us1, hpr⟩ := hpi.out
        have hbw := hpr.below
        have hsw := hbw.size
        have hx1 := HG1.out.below hbw (by have := HS.out; omega)
        have hx2 := HG2.out.below hbw (by have := HS.out; omega)
        have q1 := hx1.cell1
        have q2 := hx2.cell1
        by_cases hqt : q < m
        · obtain ⟨b2, o2, C2, m2, d2, rfl, ha2, hy0, hy1, hrk2, hmd2, hd2⟩ := HBB.out.atB hqt
          have hql : q < us.length := by have := HLB.out; omega
          obtain ⟨z2, hz⟩ : ∃ z2, z2 = vl us q := ⟨_, rfl⟩
          obtain ⟨ys, hys⟩ : ∃ ys, ys = wd us q := ⟨_, rfl⟩
          have HYS := Lib.hid hys
          have hmem := isSum_mem HSB.out (wd_mem hql)
          have hstep := joinW_take xs z us q hql
          rw [← hz, ← hys] at hmem hstep
          rw [← hz] at hy1
          rw [← hys] at hrk2
          have HY : Hid (isWord ys = true) := Lib.hid hmem.1
          have hzy : 1 ≤ z2 ∧ z2 ≤ p - 1 := hmem.2
          have hly : ys.length = m2 := hrk2.1
          have hm22 : m2 ≤ 12 := by have h2 := isWord_len HY.out; omega
          have hmul0 : 0 ≤ z * z2 := Int.mul_nonneg (by omega) (by omega)
          have hmul1 : z * z2 ≤ 12 * 12 := Int.mul_le_mul (by omega) (by omega) (by omega) (by omega)
          have HZ : Hid (0 ≤ z * z2 ∧ z * z2 ≤ 1048576) := Lib.hid ⟨hmul0, by omega⟩
          have hwrap : IntKind.i64.wrap (z * z2) = z * z2 := by rw [IntKind.wrap_i64]; omega
          have hab0 : b0 < W.heap.size := by have := HS.out; omega
          have hab2 : b2 < W.heap.size := by have := HS.out; omega
          have c0 := (hbw.cell (p := ⟨b0, o + k * 2, none⟩) hab0).trans HW0.out
          have c1 := (hbw.cell (p := ⟨b0, o + k * 2 + 1, none⟩) hab0).trans HW1.out
          have c2 := (hbw.cell (p := ⟨b2, o2 + q * 2, none⟩) hab2).trans hy0
          have c3 := (hbw.cell (p := ⟨b2, o2 + q * 2 + 1, none⟩) hab2).trans hy1
          have hkn0 : (0 : Int) ≤ (k : Int) := by omega
          have hkn1 : (k : Int) < (n : Int) := by omega
          have hqm0 : (0 : Int) ≤ (q : Int) := by omega
          have hqm1 : (q : Int) < (m : Int) := by omega
          have HPR := Lib.hid hpr
          have HRK2 : Hid (RdB W w.heap.size C2 m2 ys) := Lib.hid hrk2
          have HST := Lib.hid hstep
          have HLY := Lib.hid hly
          clear hz hys hmem hstep hrk2 hmd2 hd2 hpr hx1 hx2 hbw hpi hly hy0 hy1 hmul0 hmul1
          go_upto_region 8 with fail
          have e1 := fun o => cell_alloc q1 o
          have e2 := fun o => cell_alloc q2 o
          have e3 := fun o => cell_alloc c0 o
          have e4 := fun o => cell_alloc c1 o
          have e5 := fun o => cell_alloc c2 o
          have e6 := fun o => cell_alloc c3 o
          have f1 := fun o o' => cell_alloc (e1 o) o'
          have f2 := fun o o' => cell_alloc (e2 o) o'
          have f3 := fun o o' => cell_alloc (e3 o) o'
          have f4 := fun o o' => cell_alloc (e4 o) o'
          have f5 := fun o o' => cell_alloc (e5 o) o'
          have f6 := fun o o' => cell_alloc (e6 o) o'
          go_region
          · skip
            obtain ⟨V2, hV2⟩ : ∃ V2, V2 = ((wr.alloc (.cells #[.slice C m0 d0, .int .i64 z] 93)).alloc (.cells #[.slice C2 m2 d2, .int .i64 z2] 93)).drew := ⟨_, rfl⟩
            have hvw : Below wr.heap.size wr V2 := by rw [hV2]; exact ((below_alloc _ _).alloc (by simp) _).drew
            have bA0 : Box2 ((wr.alloc (.cells #[.slice C m0 d0, .int .i64 z] 93)).alloc (.cells #[.slice C2 m2 d2, .int .i64 z2] 93)) wr.heap.size 93 (.slice C m0 d0) (.int .i64 z) := (box2_new _ _ _ _).alloc _
            have bB0 : Box2 ((wr.alloc (.cells #[.slice C m0 d0, .int .i64 z] 93)).alloc (.cells #[.slice C2 m2 d2, .int .i64 z2] 93)) (wr.heap.size + 1) 93 (.slice C2 m2 d2) (.int .i64 z2) := by
              have h := box2_new (wr.alloc (.cells #[.slice C m0 d0, .int .i64 z] 93)) 93 (.slice C2 m2 d2) (.int .i64 z2)
              rw [show (wr.alloc (.cells #[.slice C m0 d0, .int .i64 z] 93)).heap.size = wr.heap.size + 1 from by simp] at h
              exact h
            have bA : Box2 V2 wr.heap.size 93 (.slice C m0 d0) (.int .i64 z) := by rw [hV2]; exact bA0.below (Below.refl _ _).drew bA0.lt
            have bB : Box2 V2 (wr.heap.size + 1) 93 (.slice C2 m2 d2) (.int .i64 z2) := by rw [hV2]; exact bB0.below (Below.refl _ _).drew bB0.lt
            clear bA0 bB0
            have hsV2 : V2.heap.size = wr.heap.size + 2 := by rw [hV2]; simp [World.drew]
            have HV2 := Lib.hid hV2
            have HBA2 := Lib.hid bA
            have HBB2 := Lib.hid bB
            have HP2 := Lib.hid (HPR.out.grew hvw)
            have HVW := Lib.hid hvw
            have p0 := bA.cell0
            have p1 := bA.cell1
            have p2 := bB.cell0
            have p3 := bB.cell1
            rw [← HV2.out]
            clear e1 e2 e3 e4 e5 e6 f1 f2 f3 f4 f5 f6 q1 q2 c0 c1 c2 c3 hV2 bA bB hvw
            obtain ⟨cur, hcur⟩ : ∃ cur, cur = putAll p [] (L0 ++ joinW xs z (us.take q)) := ⟨_, rfl⟩
            have hpr2 := HP2.out
            rw [← hcur] at hpr2
            obtain ⟨U, cU, hu, _⟩ := hpr2.own.form
            obtain ⟨nU, hnU⟩ : ∃ nU, cur.length = nU := ⟨_, rfl⟩
            rw [hnU] at hu
            subst hu
            have HPQ := Lib.hid hpr2
            have HCUR := Lib.hid hcur
            clear hcur hpr2 hnU
            by_cases hfit : xs.length + ys.length ≤ 12
            case neg =>
              have HNO : Hid (fits ts us = false) := Lib.hid (fits_not (i := k) (j := q) hkl hql (by rw [← HXS.out, ← HYS.out]; exact hfit))
              have hbig : (12 : Int) < (m0 : Int) + (m2 : Int) := by have := HLX.out; have := HLY.out; omega
              have hbig2 : 12 < m0 + m2 := by omega
              have hbw2 := HPQ.out.below
              have HG7 := Lib.hid (HG3.out.below hbw2 (by have := HS.out; omega))
              have t0 := HPQ.out.box.cell0
              have t1 := HPQ.out.box.cell1
              have d5 := HG7.out.cell0
              have d6 := HG7.out.cell1
              have g5 := HG7.out.free 0
              have g6 := HG7.out.free 1
              have hs8 := HS.out
              clear hfit
              go_wp2_with fail
              have e2 := (HG7.out.set0 (.int .i64 p)).set1 (.slice U nU cU)
              refine bodyPost_ret (v := .tuple #[.agg #[.int .i64 p, .slice U nU cU], .bool false]) ?_ ?_ ?_
              · exact results_row_tmp Try.results75 _ _ (w.heap.size + 2) _ _ rfl rfl (run_loadVar_row _ _ _ _ _ _ _ e2 Try.underlying25 rfl size_SumP)
              · rfl
              · exact ⟨_, _, _, us1, false, rfl, Lib.hid HNO.out.symm, Lib.hid (fun h => by cases h), (((HB.out.trans (hbw2.mono HB.out.size)).setCell (by show w.heap.size ≤ w.heap.size + 2; omega) _).setCell (by show w.heap.size ≤ w.heap.size + 2; omega) _)⟩
            have hfit2 : ¬ ((12 : Int) < (m0 : Int) + (m2 : Int)) := by have := HLX.out; have := HLY.out; omega
            have hfit3 : ¬ (12 < m0 + m2) := by have := HLX.out; have := HLY.out; omega
            have HFIT := Lib.hid hfit
            clear hfit
            go_upto_region 11 with fail
            clear p0 p1 p2 p3 hfit2 hfit3
            have HFIN : Hid (putAll p [] (L0 ++ joinW xs z (us.take (q + 1))) = putT p cur (joined xs ys) (z * z2)) := Lib.hid (by rw [HST.out, ← List.append_assoc, putAll_snoc, ← HCUR.out])
            have hcf := cur_facts (p := p) (by omega) ((show Plain L0 by rw [HL0.out]; exact joinL_plain' HSA.out HSB.out k (fun i hi j hj => hft.out i hi j (by rw [← HLB.out]; exact hj))).app (joinW_plain' HX.out hzz HSB.out q (fun j hj => hfq.out j hj))) (by rw [List.length_append, joinW_len, List.length_take]; have := HLL0.out; omega) (joined xs ys)
            rw [← HCUR.out] at hcf
            have HCF := Lib.hid hcf
            have hlow : W.heap.size ≤ V2.heap.size := by omega
            have HRX : Hid (Rd V2.drew C m0 xs) := Lib.hid (((HRK0.out.below (HPQ.out.below.mono (by have := HS.out; omega))).rd (by have := HS.out; omega)).below (Below.refl _ _).drew)
            have HRY : Hid (Rd V2.drew C2 m2 ys) := Lib.hid (((HRK2.out.below (HPQ.out.below.mono (by have := HS.out; omega))).rd (by have := HS.out; omega)).below (Below.refl _ _).drew)
            have HRU : Hid (RdT V2.drew U nU cur) := Lib.hid (HPQ.out.rdT.below (Below.refl _ _).drew)
            have HK : Hid (∀ X, Below V2.heap.size V2 X → X.cell? ⟨T, 0, none⟩ = some (.int .i64 p) ∧ X.cell? ⟨T, 1, none⟩ = some (.slice U nU cU) ∧ X.cell? ⟨wr.heap.size, 0, none⟩ = some (.slice C m0 d0) ∧ X.cell? ⟨wr.heap.size, 1, none⟩ = some (.int .i64 z) ∧ X.cell? ⟨wr.heap.size + 1, 0, none⟩ = some (.slice C2 m2 d2) ∧ X.cell? ⟨wr.heap.size + 1, 1, none⟩ = some (.int .i64 z2)) := Lib.hid (fun X hX => by
              have hb1 := HPQ.out.box.below hX HPQ.out.box.lt
              have hb2 := HBA2.out.below hX HBA2.out.lt
              have hb3 := HBB2.out.below hX HBB2.out.lt
              exact ⟨hb1.cell0, hb1.cell1, hb2.cell0, hb2.cell1, hb3.cell0, hb3.cell1⟩)
            have HSD := HK.out V2.drew (Below.refl _ _).drew
            clear hcf
            refine wp_region_store (fun X => X.cell? ⟨T, 0, none⟩ = some (.int .i64 p) ∧ X.cell? ⟨T, 1, none⟩ = some (.slice U nU cU) ∧ X.cell? ⟨wr.heap.size, 0, none⟩ = some (.slice C m0 d0) ∧ X.cell? ⟨wr.heap.size, 1, none⟩ = some (.int .i64 z) ∧ X.cell? ⟨wr.heap.size + 1, 0, none⟩ = some (.slice C2 m2 d2) ∧ X.cell? ⟨wr.heap.size + 1, 1, none⟩ = some (.int .i64 z2)) 12 _ (by kernel_rfl) rfl rfl rfl rfl (by kernel_rfl) (by kernel_rfl) (by kernel_rfl) ?_
            simp only [List.set_cons_succ, List.set_cons_zero, nopOf, List.length_cons, List.length_nil, Nat.reduceAdd, Nat.zero_add]
            apply take_held 0 rfl rfl (by kernel_rfl) (by kernel_rfl) (by kernel_rfl) HSD
            case hy => (intro w0 hSw; (try dsimp only at hSw); go_simp; with_reducible rfl)
            try simp only [Act.put, List.setIfInBounds_toArray, List.set_cons_zero, List.set_cons_succ]
            apply take_held 1 rfl rfl (by kernel_rfl) (by kernel_rfl) (by kernel_rfl) HSD
            case hy => (intro w0 hSw; (try dsimp only at hSw); go_simp; with_reducible rfl)
            try simp only [Act.put, List.setIfInBounds_toArray, List.set_cons_zero, List.set_cons_succ]
            apply take_held 2 rfl rfl (by kernel_rfl) (by kernel_rfl) (by kernel_rfl) HSD
            case hy => (intro w0 hSw; (try dsimp only at hSw); go_simp; with_reducible rfl)
            try simp only [Act.put, List.setIfInBounds_toArray, List.set_cons_zero, List.set_cons_succ]
            apply take_held 3 rfl rfl (by kernel_rfl) (by kernel_rfl) (by kernel_rfl) HSD
            case hy => (intro w0 hSw; (try dsimp only at hSw); go_simp; with_reducible rfl)
            try simp only [Act.put, List.setIfInBounds_toArray, List.set_cons_zero, List.set_cons_succ]
            apply take_held 4 rfl rfl (by kernel_rfl) (by kernel_rfl) (by kernel_rfl) HSD
            case hy => (intro w0 hSw; (try dsimp only at hSw); go_simp; with_reducible rfl)
            try simp only [Act.put, List.setIfInBounds_toArray, List.set_cons_zero, List.set_cons_succ]
            apply take_held 6 rfl rfl (by kernel_rfl) (by kernel_rfl) (by kernel_rfl) HSD
            case hy => (intro w0 hSw; (try dsimp only at hSw); go_simp; with_reducible rfl)
            try simp only [Act.put, List.setIfInBounds_toArray, List.set_cons_zero, List.set_cons_succ]
            apply take_held 7 rfl rfl (by kernel_rfl) (by kernel_rfl) (by kernel_rfl) HSD
            case hy => (intro w0 hSw; (try dsimp only at hSw); go_simp; with_reducible rfl)
            try simp only [Act.put, List.setIfInBounds_toArray, List.set_cons_zero, List.set_cons_succ]
            apply take_held 8 rfl rfl (by kernel_rfl) (by kernel_rfl) (by kernel_rfl) HSD
            case hy => (intro w0 hSw; (try dsimp only at hSw); go_simp; with_reducible rfl)
            try simp only [Act.put, List.setIfInBounds_toArray, List.set_cons_zero, List.set_cons_succ]
            apply take_held 9 rfl rfl (by kernel_rfl) (by kernel_rfl) (by kernel_rfl) HSD
            case hy => (intro w0 hSw; (try dsimp only at hSw); go_simp; with_reducible rfl)
            try simp only [Act.put, List.setIfInBounds_toArray, List.set_cons_zero, List.set_cons_succ]
            apply take_held 10 rfl rfl (by kernel_rfl) (by kernel_rfl) (by kernel_rfl) HSD
            case hy => (intro w0 hSw; (try dsimp only at hSw); go_simp; with_reducible rfl)
            try simp only [Act.put, List.setIfInBounds_toArray, List.set_cons_zero, List.set_cons_succ]
            refine all_held 5 rfl rfl (by kernel_rfl) (fun K' hK => ?_)
            go_simp
            go_at_call 122
            refine (specJoin_any _ _ _ _ _ _ xs ys _ HRX.out HRY.out (by omega) (by omega) (fun y hy => by have := word_lt HY.out hy; have := HLY.out; omega)).mono ?_
            rintro e w4 ⟨v4, rfl, ho4, hb4⟩
            obtain ⟨B4, m4, d4, rfl, hm4, hr4⟩ := ho4.form'
            have HB4 : Hid (Below V2.heap.size V2 w4) := Lib.hid ((Below.refl _ _).drew.trans hb4)
            have HBD4 := Lib.hid hb4
            have HR4 := Lib.hid hr4
            have hm4b : m4 ≤ 24 := by rw [← hm4, joined_length]; have := HLX.out; have := HLY.out; omega
            clear ho4 hm4 hr4 hb4
            refine hK.out _ _ (HK.out _ HB4.out) ?_
            clear hK
            try simp only [Act.put, List.setIfInBounds_toArray, List.set_cons_zero, List.set_cons_succ]
            refine all_held 11 rfl rfl (by kernel_rfl) (fun K' hK => ?_)
            go_simp
            go_at_call 56
            (try rw [hwrap])
            refine (put_any p (z * z2) U B4 nU cU m4 d4 cur (joined xs ys) _ (by omega) (HRU.out.below (HBD4.out)) HCF.out.1 HR4.out (by omega) HZ.out HCF.out.2).mono ?_
            rintro e w5 ⟨u5, us5, rfl, ho5, hb5⟩
            obtain ⟨U5, cU5, hu5, _⟩ := ho5.form
            obtain ⟨nU5, hnU5⟩ : ∃ t, (putT p cur (joined xs ys) (z * z2)).length = t := ⟨_, rfl⟩
            rw [hnU5] at hu5
            subst hu5
            clear hnU5
            have HB5 : Hid (Below V2.heap.size V2 w5) := Lib.hid (HB4.out.trans (hb5.mono HB4.out.size))
            have HO5 := Lib.hid ho5
            clear ho5 hb5
            refine hK.out _ _ (HK.out _ HB5.out) ?_
            clear hK
            try simp only [Act.put, List.setIfInBounds_toArray, List.set_cons_zero, List.set_cons_succ]
            apply take_held 12 rfl rfl (by kernel_rfl) (by kernel_rfl) (by kernel_rfl) (HK.out _ HB5.out)
            case hy => (intro w0 hSw; (try dsimp only at hSw); go_simp; with_reducible rfl)
            try simp only [Act.put, List.setIfInBounds_toArray, List.set_cons_zero, List.set_cons_succ]
            refine wpAnyH_done (by kernel_rfl) ?_ _
            show wpList _ _ _ _ _ _
            obtain ⟨y0, y1, _⟩ := HK.out _ HB5.out
            have hbx5 := HPQ.out.box.below HB5.out HPQ.out.box.lt
            have y2 := hbx5.free 0
            have y3 := hbx5.free 1
            clear hbx5 HSD hwrap
            go_wp2_with fail
            go_roundw
            case rel =>
              have HN : Hid (∀ i, i < q + 1 → xs.length + (wd us i).length ≤ 12) := Lib.hid (fun i hi => by
                by_cases e : i = q
                · rw [e, ← HYS.out]; exact HFIT.out
                · exact hfq.out i (by omega))
              exact ⟨q + 1, by omega, by go_num, HN, Lib.hid ⟨_, _, by rw [HFIN.out]; exact PutR.stored HPQ.out HB5.out HO5.out HB4.out.size⟩⟩
            case measure => simp [intOf]; omega
          · skip
            obtain ⟨V2, hV2⟩ : ∃ V2, V2 = ((wr.alloc (.cells #[.slice C2 m2 d2, .int .i64 z2] 93)).alloc (.cells #[.slice C m0 d0, .int .i64 z] 93)).drew := ⟨_, rfl⟩
            have hvw : Below wr.heap.size wr V2 := by rw [hV2]; exact ((below_alloc _ _).alloc (by simp) _).drew
            have bB0 : Box2 ((wr.alloc (.cells #[.slice C2 m2 d2, .int .i64 z2] 93)).alloc (.cells #[.slice C m0 d0, .int .i64 z] 93)) wr.heap.size 93 (.slice C2 m2 d2) (.int .i64 z2) := (box2_new _ _ _ _).alloc _
            have bA0 : Box2 ((wr.alloc (.cells #[.slice C2 m2 d2, .int .i64 z2] 93)).alloc (.cells #[.slice C m0 d0, .int .i64 z] 93)) (wr.heap.size + 1) 93 (.slice C m0 d0) (.int .i64 z) := by
              have h := box2_new (wr.alloc (.cells #[.slice C2 m2 d2, .int .i64 z2] 93)) 93 (.slice C m0 d0) (.int .i64 z)
              rw [show (wr.alloc (.cells #[.slice C2 m2 d2, .int .i64 z2] 93)).heap.size = wr.heap.size + 1 from by simp] at h
              exact h
            have bA : Box2 V2 (wr.heap.size + 1) 93 (.slice C m0 d0) (.int .i64 z) := by rw [hV2]; exact bA0.below (Below.refl _ _).drew bA0.lt
            have bB : Box2 V2 wr.heap.size 93 (.slice C2 m2 d2) (.int .i64 z2) := by rw [hV2]; exact bB0.below (Below.refl _ _).drew bB0.lt
            clear bA0 bB0
            have hsV2 : V2.heap.size = wr.heap.size + 2 := by rw [hV2]; simp [World.drew]
            have HV2 := Lib.hid hV2
            have HBA2 := Lib.hid bA
            have HBB2 := Lib.hid bB
            have HP2 := Lib.hid (HPR.out.grew hvw)
            have HVW := Lib.hid hvw
            have p0 := bA.cell0
            have p1 := bA.cell1
            have p2 := bB.cell0
            have p3 := bB.cell1
            rw [← HV2.out]
            clear e1 e2 e3 e4 e5 e6 f1 f2 f3 f4 f5 f6 q1 q2 c0 c1 c2 c3 hV2 bA bB hvw
            obtain ⟨cur, hcur⟩ : ∃ cur, cur = putAll p [] (L0 ++ joinW xs z (us.take q)) := ⟨_, rfl⟩
            have hpr2 := HP2.out
            rw [← hcur] at hpr2
            obtain ⟨U, cU, hu, _⟩ := hpr2.own.form
            obtain ⟨nU, hnU⟩ : ∃ nU, cur.length = nU := ⟨_, rfl⟩
            rw [hnU] at hu
            subst hu
            have HPQ := Lib.hid hpr2
            have HCUR := Lib.hid hcur
            clear hcur hpr2 hnU
            by_cases hfit : xs.length + ys.length ≤ 12
            case neg =>
              have HNO : Hid (fits ts us = false) := Lib.hid (fits_not (i := k) (j := q) hkl hql (by rw [← HXS.out, ← HYS.out]; exact hfit))
              have hbig : (12 : Int) < (m0 : Int) + (m2 : Int) := by have := HLX.out; have := HLY.out; omega
              have hbig2 : 12 < m0 + m2 := by omega
              have hbw2 := HPQ.out.below
              have HG7 := Lib.hid (HG3.out.below hbw2 (by have := HS.out; omega))
              have t0 := HPQ.out.box.cell0
              have t1 := HPQ.out.box.cell1
              have d5 := HG7.out.cell0
              have d6 := HG7.out.cell1
              have g5 := HG7.out.free 0
              have g6 := HG7.out.free 1
              have hs8 := HS.out
              clear hfit
              go_wp2_with fail
              have e2 := (HG7.out.set0 (.int .i64 p)).set1 (.slice U nU cU)
              refine bodyPost_ret (v := .tuple #[.agg #[.int .i64 p, .slice U nU cU], .bool false]) ?_ ?_ ?_
              · exact results_row_tmp Try.results75 _ _ (w.heap.size + 2) _ _ rfl rfl (run_loadVar_row _ _ _ _ _ _ _ e2 Try.underlying25 rfl size_SumP)
              · rfl
              · exact ⟨_, _, _, us1, false, rfl, Lib.hid HNO.out.symm, Lib.hid (fun h => by cases h), (((HB.out.trans (hbw2.mono HB.out.size)).setCell (by show w.heap.size ≤ w.heap.size + 2; omega) _).setCell (by show w.heap.size ≤ w.heap.size + 2; omega) _)⟩
            have hfit2 : ¬ ((12 : Int) < (m0 : Int) + (m2 : Int)) := by have := HLX.out; have := HLY.out; omega
            have hfit3 : ¬ (12 < m0 + m2) := by have := HLX.out; have := HLY.out; omega
            have HFIT := Lib.hid hfit
            clear hfit
            go_upto_region 11 with fail
            clear p0 p1 p2 p3 hfit2 hfit3
            have HFIN : Hid (putAll p [] (L0 ++ joinW xs z (us.take (q + 1))) = putT p cur (joined xs ys) (z * z2)) := Lib.hid (by rw [HST.out, ← List.append_assoc, putAll_snoc, ← HCUR.out])
            have hcf := cur_facts (p := p) (by omega) ((show Plain L0 by rw [HL0.out]; exact joinL_plain' HSA.out HSB.out k (fun i hi j hj => hft.out i hi j (by rw [← HLB.out]; exact hj))).app (joinW_plain' HX.out hzz HSB.out q (fun j hj => hfq.out j hj))) (by rw [List.length_append, joinW_len, List.length_take]; have := HLL0.out; omega) (joined xs ys)
            rw [← HCUR.out] at hcf
            have HCF := Lib.hid hcf
            have hlow : W.heap.size ≤ V2.heap.size := by omega
            have HRX : Hid (Rd V2.drew C m0 xs) := Lib.hid (((HRK0.out.below (HPQ.out.below.mono (by have := HS.out; omega))).rd (by have := HS.out; omega)).below (Below.refl _ _).drew)
            have HRY : Hid (Rd V2.drew C2 m2 ys) := Lib.hid (((HRK2.out.below (HPQ.out.below.mono (by have := HS.out; omega))).rd (by have := HS.out; omega)).below (Below.refl _ _).drew)
            have HRU : Hid (RdT V2.drew U nU cur) := Lib.hid (HPQ.out.rdT.below (Below.refl _ _).drew)
            have HK : Hid (∀ X, Below V2.heap.size V2 X → X.cell? ⟨T, 0, none⟩ = some (.int .i64 p) ∧ X.cell? ⟨T, 1, none⟩ = some (.slice U nU cU) ∧ X.cell? ⟨wr.heap.size + 1, 0, none⟩ = some (.slice C m0 d0) ∧ X.cell? ⟨wr.heap.size + 1, 1, none⟩ = some (.int .i64 z) ∧ X.cell? ⟨wr.heap.size, 0, none⟩ = some (.slice C2 m2 d2) ∧ X.cell? ⟨wr.heap.size, 1, none⟩ = some (.int .i64 z2)) := Lib.hid (fun X hX => by
              have hb1 := HPQ.out.box.below hX HPQ.out.box.lt
              have hb2 := HBA2.out.below hX HBA2.out.lt
              have hb3 := HBB2.out.below hX HBB2.out.lt
              exact ⟨hb1.cell0, hb1.cell1, hb2.cell0, hb2.cell1, hb3.cell0, hb3.cell1⟩)
            have HSD := HK.out V2.drew (Below.refl _ _).drew
            clear hcf
            refine wp_region_store (fun X => X.cell? ⟨T, 0, none⟩ = some (.int .i64 p) ∧ X.cell? ⟨T, 1, none⟩ = some (.slice U nU cU) ∧ X.cell? ⟨wr.heap.size + 1, 0, none⟩ = some (.slice C m0 d0) ∧ X.cell? ⟨wr.heap.size + 1, 1, none⟩ = some (.int .i64 z) ∧ X.cell? ⟨wr.heap.size, 0, none⟩ = some (.slice C2 m2 d2) ∧ X.cell? ⟨wr.heap.size, 1, none⟩ = some (.int .i64 z2)) 12 _ (by kernel_rfl) rfl rfl rfl rfl (by kernel_rfl) (by kernel_rfl) (by kernel_rfl) ?_
            simp only [List.set_cons_succ, List.set_cons_zero, nopOf, List.length_cons, List.length_nil, Nat.reduceAdd, Nat.zero_add]
            apply take_held 0 rfl rfl (by kernel_rfl) (by kernel_rfl) (by kernel_rfl) HSD
            case hy => (intro w0 hSw; (try dsimp only at hSw); go_simp; with_reducible rfl)
            try simp only [Act.put, List.setIfInBounds_toArray, List.set_cons_zero, List.set_cons_succ]
            apply take_held 1 rfl rfl (by kernel_rfl) (by kernel_rfl) (by kernel_rfl) HSD
            case hy => (intro w0 hSw; (try dsimp only at hSw); go_simp; with_reducible rfl)
            try simp only [Act.put, List.setIfInBounds_toArray, List.set_cons_zero, List.set_cons_succ]
            apply take_held 2 rfl rfl (by kernel_rfl) (by kernel_rfl) (by kernel_rfl) HSD
            case hy => (intro w0 hSw; (try dsimp only at hSw); go_simp; with_reducible rfl)
            try simp only [Act.put, List.setIfInBounds_toArray, List.set_cons_zero, List.set_cons_succ]
            apply take_held 3 rfl rfl (by kernel_rfl) (by kernel_rfl) (by kernel_rfl) HSD
            case hy => (intro w0 hSw; (try dsimp only at hSw); go_simp; with_reducible rfl)
            try simp only [Act.put, List.setIfInBounds_toArray, List.set_cons_zero, List.set_cons_succ]
            apply take_held 4 rfl rfl (by kernel_rfl) (by kernel_rfl) (by kernel_rfl) HSD
            case hy => (intro w0 hSw; (try dsimp only at hSw); go_simp; with_reducible rfl)
            try simp only [Act.put, List.setIfInBounds_toArray, List.set_cons_zero, List.set_cons_succ]
            apply take_held 6 rfl rfl (by kernel_rfl) (by kernel_rfl) (by kernel_rfl) HSD
            case hy => (intro w0 hSw; (try dsimp only at hSw); go_simp; with_reducible rfl)
            try simp only [Act.put, List.setIfInBounds_toArray, List.set_cons_zero, List.set_cons_succ]
            apply take_held 7 rfl rfl (by kernel_rfl) (by kernel_rfl) (by kernel_rfl) HSD
            case hy => (intro w0 hSw; (try dsimp only at hSw); go_simp; with_reducible rfl)
            try simp only [Act.put, List.setIfInBounds_toArray, List.set_cons_zero, List.set_cons_succ]
            apply take_held 8 rfl rfl (by kernel_rfl) (by kernel_rfl) (by kernel_rfl) HSD
            case hy => (intro w0 hSw; (try dsimp only at hSw); go_simp; with_reducible rfl)
            try simp only [Act.put, List.setIfInBounds_toArray, List.set_cons_zero, List.set_cons_succ]
            apply take_held 9 rfl rfl (by kernel_rfl) (by kernel_rfl) (by kernel_rfl) HSD
            case hy => (intro w0 hSw; (try dsimp only at hSw); go_simp; with_reducible rfl)
            try simp only [Act.put, List.setIfInBounds_toArray, List.set_cons_zero, List.set_cons_succ]
            apply take_held 10 rfl rfl (by kernel_rfl) (by kernel_rfl) (by kernel_rfl) HSD
            case hy => (intro w0 hSw; (try dsimp only at hSw); go_simp; with_reducible rfl)
            try simp only [Act.put, List.setIfInBounds_toArray, List.set_cons_zero, List.set_cons_succ]
            refine all_held 5 rfl rfl (by kernel_rfl) (fun K' hK => ?_)
            go_simp
            go_at_call 122
            refine (specJoin_any _ _ _ _ _ _ xs ys _ HRX.out HRY.out (by omega) (by omega) (fun y hy => by have := word_lt HY.out hy; have := HLY.out; omega)).mono ?_
            rintro e w4 ⟨v4, rfl, ho4, hb4⟩
            obtain ⟨B4, m4, d4, rfl, hm4, hr4⟩ := ho4.form'
            have HB4 : Hid (Below V2.heap.size V2 w4) := Lib.hid ((Below.refl _ _).drew.trans hb4)
            have HBD4 := Lib.hid hb4
            have HR4 := Lib.hid hr4
            have hm4b : m4 ≤ 24 := by rw [← hm4, joined_length]; have := HLX.out; have := HLY.out; omega
            clear ho4 hm4 hr4 hb4
            refine hK.out _ _ (HK.out _ HB4.out) ?_
            clear hK
            try simp only [Act.put, List.setIfInBounds_toArray, List.set_cons_zero, List.set_cons_succ]
            refine all_held 11 rfl rfl (by kernel_rfl) (fun K' hK => ?_)
            go_simp
            go_at_call 56
            (try rw [hwrap])
            refine (put_any p (z * z2) U B4 nU cU m4 d4 cur (joined xs ys) _ (by omega) (HRU.out.below (HBD4.out)) HCF.out.1 HR4.out (by omega) HZ.out HCF.out.2).mono ?_
            rintro e w5 ⟨u5, us5, rfl, ho5, hb5⟩
            obtain ⟨U5, cU5, hu5, _⟩ := ho5.form
            obtain ⟨nU5, hnU5⟩ : ∃ t, (putT p cur (joined xs ys) (z * z2)).length = t := ⟨_, rfl⟩
            rw [hnU5] at hu5
            subst hu5
            clear hnU5
            have HB5 : Hid (Below V2.heap.size V2 w5) := Lib.hid (HB4.out.trans (hb5.mono HB4.out.size))
            have HO5 := Lib.hid ho5
            clear ho5 hb5
            refine hK.out _ _ (HK.out _ HB5.out) ?_
            clear hK
            try simp only [Act.put, List.setIfInBounds_toArray, List.set_cons_zero, List.set_cons_succ]
            apply take_held 12 rfl rfl (by kernel_rfl) (by kernel_rfl) (by kernel_rfl) (HK.out _ HB5.out)
            case hy => (intro w0 hSw; (try dsimp only at hSw); go_simp; with_reducible rfl)
            try simp only [Act.put, List.setIfInBounds_toArray, List.set_cons_zero, List.set_cons_succ]
            refine wpAnyH_done (by kernel_rfl) ?_ _
            show wpList _ _ _ _ _ _
            obtain ⟨y0, y1, _⟩ := HK.out _ HB5.out
            have hbx5 := HPQ.out.box.below HB5.out HPQ.out.box.lt
            have y2 := hbx5.free 0
            have y3 := hbx5.free 1
            clear hbx5 HSD hwrap
            go_wp2_with fail
            go_roundw
            case rel =>
              have HN : Hid (∀ i, i < q + 1 → xs.length + (wd us i).length ≤ 12) := Lib.hid (fun i hi => by
                by_cases e : i = q
                · rw [e, ← HYS.out]; exact HFIT.out
                · exact hfq.out i (by omega))
              exact ⟨q + 1, by omega, by go_num, HN, Lib.hid ⟨_, _, by rw [HFIN.out]; exact PutR.stored HPQ.out HB5.out HO5.out HB4.out.size⟩⟩
            case measure => simp [intOf]; omega
        · obtain rfl : q = m := by omega
          have HT : Hid (us.take q = us) := Lib.hid (List.take_of_length_le (by rw [HLB.out]; exact Nat.le_refl _))
          have HN : Hid (∀ i, i < k + 1 → ∀ j, j < q → (wd ts i).length + (wd us j).length ≤ 12) := Lib.hid (fun i hi j hj => by
            by_cases e : i = k
            · rw [e, ← HXS.out]; exact hfq.out j hj
            · exact hft.out i (by omega) j hj)
          have HPN : Hid (∃ u us', PutR W wr W.heap.size T p u us' (putAll p [] (joinL (ts.take (k + 1)) us))) := Lib.hid (by rw [HSTEP.out]; have h := hpi.out; rw [HT.out] at h; exact h)
          clear hpi hpr hx1 hx2 hbw
          go_wp2_with fail
          go_roundw
          case rel => exact ⟨k + 1, by omega, by go_num, HN, HPN⟩
          case measure => simp [intOf]; omega
    · obtain rfl : k = n := by omega
      have HT : Hid (ts.take k = ts) := Lib.hid (List.take_of_length_le (by rw [HLA.out]; exact Nat.le_refl _))
      have HYES : Hid (fits ts us = true) := Lib.hid ((fits_iff ts us).2 (fun i hi j hj => hft.out i (by rw [← HLA.out]; exact hi) j (by rw [← HLB.out]; exact hj)))
      rw [HT.out] at hpr
      obtain ⟨U, cU, hu, _⟩ := hpr.own.form
      obtain ⟨nU, hnU⟩ : ∃ nU, (putAll p [] (joinL ts us)).length = nU := ⟨_, rfl⟩
      rw [hnU] at hu
      subst hu
      have HG7 := Lib.hid (HG3.out.below hbw (by have := HS.out; omega))
      have t0 := hpr.box.cell0
      have t1 := hpr.box.cell1
      have d5 := HG7.out.cell0
      have d6 := HG7.out.cell1
      have g5 := HG7.out.free 0
      have g6 := HG7.out.free 1
      have hs8 := HS.out
      have HPQ := Lib.hid hpr
      have HBW2 := Lib.hid hbw
      clear hpr hpo hnU hx1 hx2 hbw
      go_wp2_with fail
      have e2 := (HG7.out.set0 (.int .i64 p)).set1 (.slice U nU cU)
      refine bodyPost_ret (v := .tuple #[.agg #[.int .i64 p, .slice U nU cU], .bool true]) ?_ ?_ ?_
      · exact results_row_tmp Try.results75 _ _ (w.heap.size + 2) _ _ rfl rfl (run_loadVar_row _ _ _ _ _ _ _ e2 Try.underlying25 rfl size_SumP)
      · rfl
      · have hOT := ((HPQ.out.own.set_other ⟨w.heap.size + 2, 0, none⟩ (.int .i64 p) (by show w.heap.size + 2 < W.heap.size; omega)).set_other ⟨w.heap.size + 2, 1, none⟩ (.slice U nU cU) (by show w.heap.size + 2 < W.heap.size; omega)).mono (lo' := w.heap.size) (by omega)
        exact ⟨_, _, _, us0, true, rfl, Lib.hid HYES.out.symm, Lib.hid (fun _ => hOT), (((HB.out.trans (HBW2.out.mono HB.out.size)).setCell (by show w.heap.size ≤ w.heap.size + 2; omega) _).setCell (by show w.heap.size ≤ w.heap.size + 2; omega) _)⟩
end Go.Proofs.Ytofcldplgkejiaa

namespace Go.Proofs.Ytofcldplgkejiaa
open Go.RowKit
set_option linter.unusedVariables false
set_option linter.unusedSimpArgs false
set_option maxRecDepth 100000

set_option maxHeartbeats 8000000 in
theorem specJoinSums_any (p : Int) (A : Option Addr) (n c : Nat) (ts : Tms) (q : Int) (B : Option Addr) (m d : Nat) (us : Tms) (w : World) (hr : RdT w A n ts) (hwf : WfT ts) (hN : need ts ≤ 1048576) (hp : -9223372036854775808 ≤ p ∧ p ≤ 9223372036854775807) (hr2 : RdT w B m us) (hwf2 : WfT us) (hN2 : need us ≤ 1048576) (hq : -9223372036854775808 ≤ q ∧ q ≤ 9223372036854775807) :
    GaveS 27 #[.agg #[.int .i64 p, .slice A n c], .agg #[.int .i64 q, .slice B m d]] w (joinSums p ts q us) := by
  obtain ⟨W, hW⟩ : ∃ W, W = ((w.alloc (.cells #[.int .i64 p, .slice A n c] 25)).alloc (.cells #[.int .i64 q, .slice B m d] 25)).alloc (.cells #[.int .i64 0, .slice none 0 0] 25) := ⟨_, rfl⟩
  have hBW : Below w.heap.size w W := by rw [hW]; exact ((below_alloc _ _).alloc (by simp) _).alloc (by simp; omega) _
  have hsW : W.heap.size = w.heap.size + 3 := by rw [hW]; simp
  have g1 : Box2 W w.heap.size 25 (.int .i64 p) (.slice A n c) := by rw [hW]; exact ((box2_new _ _ _ _).alloc _).alloc _
  have g2 : Box2 W (w.heap.size + 1) 25 (.int .i64 q) (.slice B m d) := by
    have h := (box2_new (w.alloc (.cells #[.int .i64 p, .slice A n c] 25)) 25 (.int .i64 q) (.slice B m d)).alloc (.cells #[.int .i64 0, .slice none 0 0] 25)
    rw [hW]; simpa using h
  have g3 : Box2 W (w.heap.size + 2) 25 (.int .i64 0) (.slice none 0 0) := by
    have h := box2_new ((w.alloc (.cells #[.int .i64 p, .slice A n c] 25)).alloc (.cells #[.int .i64 q, .slice B m d] 25)) 25 (.int .i64 0) (.slice none 0 0)
    rw [hW]; simpa using h
  have HWA := Lib.hid hwf
  have HNA := Lib.hid hN
  have HWB := Lib.hid hwf2
  have HNB := Lib.hid hN2
  have HRA : Hid (RdT W A n ts) := Lib.hid (hr.below hBW)
  have HRB : Hid (RdT W B m us) := Lib.hid (hr2.below hBW)
  have HLA := Lib.hid hr.len
  have HLB := Lib.hid hr2.len
  have HG1 := Lib.hid g1
  have HG2 := Lib.hid g2
  have HG3 := Lib.hid g3
  have HB := Lib.hid hBW
  have HS := Lib.hid hsW
  have HW := Lib.hid hW
  have q0 := g1.cell0
  have q1 := g1.cell1
  have q2 := g2.cell0
  have q3 := g2.cell1
  clear hr hwf hN hr2 hwf2 hN2 g1 g2 g3 hBW hsW hW
  rcases likeC_cases p ts q us with hlc | hlc | hlc
  case inr.inl =>
    have HLC := Lib.hid hlc
    rw [show joinSums p ts q us = ((0, []), 1) from by unfold joinSums; rw [hlc]; rfl]
    clear hlc
    unfold GaveS
    go_enter Try.func27, Try.ntmps27
    go_wp2_with fail
    rw [← HW.out]
    refine (l03Like_any p q A B n c m d ts us _ HRA.out HWA.out HNA.out hp HRB.out HWB.out HNB.out hq).mono ?_
    rintro e w1 ⟨rfl, hb1⟩
    rw [HLC.out]
    have HG4 := Lib.hid (HG3.out.below hb1 (by have := HS.out; omega))
    have HB4 := Lib.hid (HB.out.trans (hb1.mono HB.out.size))
    clear hb1 q0 q1 q2 q3
    have d0 := HG4.out.cell0
    have d1 := HG4.out.cell1
    have f0 := HG4.out.free 0
    have f1 := HG4.out.free 1
    go_wp2_with fail
    have e2 := (HG4.out.set0 (.int .i64 0)).set1 (.slice none 0 0)
    refine bodyPost_ret (v := .tuple #[.agg #[.int .i64 0, .slice none 0 0], .int .i64 1]) ?_ ?_ ?_
    · exact results_row_tmp Try.results27 _ _ (w.heap.size + 2) _ _ rfl rfl (run_loadVar_row _ _ _ _ _ _ _ e2 Try.underlying25 rfl size_sum)
    · rfl
    · exact ⟨_, _, rfl, OwnT.nil_ _ _, ((HB4.out.setCell (by show w.heap.size ≤ w.heap.size + 2; omega) _).setCell (by show w.heap.size ≤ w.heap.size + 2; omega) _)⟩
  case inr.inr =>
    have HLC := Lib.hid hlc
    rw [show joinSums p ts q us = ((0, []), 2) from by unfold joinSums; rw [hlc]; rfl]
    clear hlc
    unfold GaveS
    go_enter Try.func27, Try.ntmps27
    go_wp2_with fail
    rw [← HW.out]
    refine (l03Like_any p q A B n c m d ts us _ HRA.out HWA.out HNA.out hp HRB.out HWB.out HNB.out hq).mono ?_
    rintro e w1 ⟨rfl, hb1⟩
    rw [HLC.out]
    have HG4 := Lib.hid (HG3.out.below hb1 (by have := HS.out; omega))
    have HB4 := Lib.hid (HB.out.trans (hb1.mono HB.out.size))
    clear hb1 q0 q1 q2 q3
    have d0 := HG4.out.cell0
    have d1 := HG4.out.cell1
    have f0 := HG4.out.free 0
    have f1 := HG4.out.free 1
    go_wp2_with fail
    have e2 := (HG4.out.set0 (.int .i64 0)).set1 (.slice none 0 0)
    refine bodyPost_ret (v := .tuple #[.agg #[.int .i64 0, .slice none 0 0], .int .i64 2]) ?_ ?_ ?_
    · exact results_row_tmp Try.results27 _ _ (w.heap.size + 2) _ _ rfl rfl (run_loadVar_row _ _ _ _ _ _ _ e2 Try.underlying25 rfl size_sum)
    · rfl
    · exact ⟨_, _, rfl, OwnT.nil_ _ _, ((HB4.out.setCell (by show w.heap.size ≤ w.heap.size + 2; omega) _).setCell (by show w.heap.size ≤ w.heap.size + 2; omega) _)⟩
  obtain ⟨hsa, hsb, hpq⟩ := likeC_zero hlc
  subst hpq
  have HLC := Lib.hid hlc
  have hpb := prime_bd (isSum_prime hsa)
  have HSA := Lib.hid hsa
  have HSB := Lib.hid hsb
  have HLL : Hid (fits ts us = true → (putAll p [] (joinL ts us)).length ≤ 1048576) := Lib.hid (fun hf => by
    have h1 := (cur_facts (p := p) (by omega) (joinL_plain hsa hsb hf) (by
      rw [joinL_len]
      have h1 := isSum_len hsa
      have h2 := isSum_len hsb
      calc ts.length * us.length ≤ 200 * 200 := Nat.mul_le_mul (by omega) (by omega)
        _ ≤ 60000 := by decide) []).1
    have h2 := need_len (putAll p [] (joinL ts us))
    omega)
  obtain ⟨rp, rts, rz, hR⟩ : ∃ rp rts rz, joinSums p ts p us = ((rp, rts), rz) := ⟨_, _, _, rfl⟩
  have HYES : Hid (fits ts us = true → toldT p (putAll p [] (joinL ts us)) = ((rp, rts), rz)) := Lib.hid (fun h => by rw [← hR]; unfold joinSums; rw [hlc, h]; rfl)
  have HNO : Hid (fits ts us = false → rp = 0 ∧ rts = [] ∧ rz = 3) := Lib.hid (fun h => by
    have h1 : joinSums p ts p us = ((0, []), 3) := by unfold joinSums; rw [hlc, h]; rfl
    rw [hR] at h1
    injection h1 with h1 h2
    injection h1 with h3 h4
    exact ⟨h3, h4, h2⟩)
  rw [hR]
  clear hR hlc hsa hsb
  unfold GaveS
  go_enter Try.func27, Try.ntmps27
  go_wp2_with fail
  rw [← HW.out]
  refine (l03Like_any p p A B n c m d ts us _ HRA.out HWA.out HNA.out hp HRB.out HWB.out HNB.out hq).mono ?_
  rintro e w1 ⟨rfl, hb1⟩
  rw [HLC.out]
  have hs1 := hb1.size
  have HX1 := Lib.hid (HG1.out.below hb1 (by have := HS.out; omega))
  have HX2 := Lib.hid (HG2.out.below hb1 (by have := HS.out; omega))
  have HGV := Lib.hid (HG3.out.below hb1 (by have := HS.out; omega))
  have HBV := Lib.hid (HB.out.trans (hb1.mono HB.out.size))
  have HAV := Lib.hid (HRA.out.below hb1)
  have HBV2 := Lib.hid (HRB.out.below hb1)
  have hs8 : w.heap.size + 3 ≤ w1.heap.size := by have := HS.out; omega
  clear q0 q1 q2 q3 hb1
  have q0 := HX1.out.cell0
  have q1 := HX1.out.cell1
  have q2 := HX2.out.cell0
  have q3 := HX2.out.cell1
  go_wp2_with fail
  refine (join_any p A B n c m d ts us _ HAV.out HBV2.out HSA.out HSB.out).mono ?_
  rintro e w5 ⟨U, nU, cU, us', ok, rfl, hok, hown, hb5⟩
  have hs5 := hb5.size
  have HG7 := Lib.hid (HGV.out.below hb5 (by omega))
  have HBB := Lib.hid (HBV.out.trans (hb5.mono HBV.out.size))
  clear hb5 q0 q1 q2 q3
  obtain ⟨V5, hV5⟩ : ∃ X, X = w5.alloc (.cells #[.int .i64 p, .slice U nU cU] 25) := ⟨_, rfl⟩
  have h5 : Below w5.heap.size w5 V5 := by rw [hV5]; exact below_alloc _ _
  have b5 : Box2 V5 w5.heap.size 25 (.int .i64 p) (.slice U nU cU) := by rw [hV5]; exact box2_new _ _ _ _
  have hs55 := h5.size
  have HV5 := Lib.hid hV5
  have HB5 := Lib.hid b5
  have HG7 := Lib.hid (HG7.out.below h5 (by omega))
  have HBB := Lib.hid (HBB.out.trans (h5.mono HBB.out.size))
  have H55 := Lib.hid h5
  clear hV5 b5 h5
  go_upto_region 5 with fail
  rw [← HV5.out]
  rcases ok with _ | _
  · obtain ⟨rfl, rfl, rfl⟩ := HNO.out hok.out.symm
    have d0 := HG7.out.cell0
    have d1 := HG7.out.cell1
    have f0 := HG7.out.free 0
    have f1 := HG7.out.free 1
    go_wp2_with fail
    have e2 := (HG7.out.set0 (.int .i64 0)).set1 (.slice none 0 0)
    refine bodyPost_ret (v := .tuple #[.agg #[.int .i64 0, .slice none 0 0], .int .i64 3]) ?_ ?_ ?_
    · exact results_row_tmp Try.results27 _ _ (w.heap.size + 2) _ _ rfl rfl (run_loadVar_row _ _ _ _ _ _ _ e2 Try.underlying25 rfl size_sum)
    · rfl
    · first | exact ⟨_, rfl, ⟨_, OwnT.nil_ _ _⟩, ((HBB.out.setCell (by show w.heap.size ≤ w.heap.size + 2; omega) _).setCell (by show w.heap.size ≤ w.heap.size + 2; omega) _)⟩ | exact ⟨_, _, rfl, OwnT.nil_ _ _, ((HBB.out.setCell (by show w.heap.size ≤ w.heap.size + 2; omega) _).setCell (by show w.heap.size ≤ w.heap.size + 2; omega) _)⟩
  have hfit : fits ts us = true := hok.out.symm
  have ho5 := hown.out rfl
  have HR9 := Lib.hid (HYES.out hfit)
  have hll2 := HLL.out hfit
  obtain ⟨U', cU', hu, _⟩ := ho5.form
  have hnU : (putAll p [] (joinL ts us)).length = nU := by injection hu with e1 e2 e3; exact e2.symm
  rw [hnU] at hll2
  clear hu
  have HO5 := Lib.hid (ho5.below H55.out)
  have hll : nU ≤ 1048576 := hll2
  have t0 := HB5.out.cell0
  have t1 := HB5.out.cell1
  clear ho5 hown hok hll2 hfit
  by_cases hmany : 200 < nU
  · have hres : rp = 0 ∧ rts = [] ∧ rz = 3 := by
      have h := HR9.out
      unfold toldT at h
      rw [if_pos (by omega)] at h
      injection h with h1 h2
      injection h1 with h3 h4
      exact ⟨h3.symm, h4.symm, h2.symm⟩
    obtain ⟨rfl, rfl, rfl⟩ := hres
    clear hnU
    go_wp2_with fail
    refine (told_many p U nU cU _ (by omega) (by omega)).mono ?_
    rintro e w8 ⟨rfl, hb8⟩
    have hs9 := hb8.size
    have HG8 := Lib.hid (HG7.out.below hb8 (by omega))
    have HP8 := Lib.hid (HO5.out.below hb8)
    have HB8 := Lib.hid (HBB.out.trans (hb8.mono HBB.out.size))
    obtain ⟨V8, hV8⟩ : ∃ X, X = w8.alloc (.cells #[.int .i64 0, .slice none 0 0] 25) := ⟨_, rfl⟩
    have h8 : Below w8.heap.size w8 V8 := by rw [hV8]; exact below_alloc _ _
    have b8 : Box2 V8 w8.heap.size 25 (.int .i64 0) (.slice none 0 0) := by rw [hV8]; exact box2_new _ _ _ _
    have HG9 := Lib.hid (HG8.out.below h8 (by omega))
    have HP9 := Lib.hid (HP8.out.below h8)
    have HB9 := Lib.hid (HB8.out.trans (h8.mono HB8.out.size))
    have HV8 := Lib.hid hV8
    have t8 := b8.cell0
    have t9 := b8.cell1
    clear hb8 hV8 h8 b8 t0 t1
    have d0 := HG9.out.cell0
    have d1 := HG9.out.cell1
    have f0 := HG9.out.free 0
    have f1 := HG9.out.free 1
    go_upto_region 8 with fail
    rw [← HV8.out]
    go_wp2_with fail
    have e2 := (HG9.out.set0 (.int .i64 0)).set1 (.slice none 0 0)
    refine bodyPost_ret (v := .tuple #[.agg #[.int .i64 0, .slice none 0 0], .int .i64 3]) ?_ ?_ ?_
    · exact results_row_tmp Try.results27 _ _ (w.heap.size + 2) _ _ rfl rfl (run_loadVar_row _ _ _ _ _ _ _ e2 Try.underlying25 rfl size_sum)
    · rfl
    · exact ⟨_, _, rfl, OwnT.nil_ _ _, ((HB9.out.setCell (by show w.heap.size ≤ w.heap.size + 2; omega) _).setCell (by show w.heap.size ≤ w.heap.size + 2; omega) _)⟩
  · have hres : rp = p ∧ rts = putAll p [] (joinL ts us) ∧ rz = 0 := by
      have h := HR9.out
      unfold toldT at h
      rw [if_neg (by omega)] at h
      injection h with h1 h2
      injection h1 with h3 h4
      exact ⟨h3.symm, h4.symm, h2.symm⟩
    have HRES := Lib.hid hres
    clear hnU hres
    go_wp2_with fail
    refine (told_few p U nU cU _ (by omega)).mono ?_
    rintro e w8 ⟨rfl, hb8⟩
    have hs9 := hb8.size
    have HG8 := Lib.hid (HG7.out.below hb8 (by omega))
    have HP8 := Lib.hid (HO5.out.below hb8)
    have HB8 := Lib.hid (HBB.out.trans (hb8.mono HBB.out.size))
    obtain ⟨V8, hV8⟩ : ∃ X, X = w8.alloc (.cells #[.int .i64 p, .slice U nU cU] 25) := ⟨_, rfl⟩
    have h8 : Below w8.heap.size w8 V8 := by rw [hV8]; exact below_alloc _ _
    have b8 : Box2 V8 w8.heap.size 25 (.int .i64 p) (.slice U nU cU) := by rw [hV8]; exact box2_new _ _ _ _
    have HG9 := Lib.hid (HG8.out.below h8 (by omega))
    have HP9 := Lib.hid (HP8.out.below h8)
    have HB9 := Lib.hid (HB8.out.trans (h8.mono HB8.out.size))
    have HV8 := Lib.hid hV8
    have t8 := b8.cell0
    have t9 := b8.cell1
    clear hb8 hV8 h8 b8 t0 t1
    have d0 := HG9.out.cell0
    have d1 := HG9.out.cell1
    have f0 := HG9.out.free 0
    have f1 := HG9.out.free 1
    go_upto_region 8 with fail
    rw [← HV8.out]
    go_wp2_with fail
    have e2 := (HG9.out.set0 (.int .i64 p)).set1 (.slice U nU cU)
    refine bodyPost_ret (v := .tuple #[.agg #[.int .i64 p, .slice U nU cU], .int .i64 0]) ?_ ?_ ?_
    · exact results_row_tmp Try.results27 _ _ (w.heap.size + 2) _ _ rfl rfl (run_loadVar_row _ _ _ _ _ _ _ e2 Try.underlying25 rfl size_sum)
    · rfl
    · have hOT := ((HP9.out.set_other ⟨w.heap.size + 2, 0, none⟩ (.int .i64 p) (by show w.heap.size + 2 < w1.heap.size; omega)).set_other ⟨w.heap.size + 2, 1, none⟩ (.slice U nU cU) (by show w.heap.size + 2 < w1.heap.size; omega)).mono (lo' := w.heap.size) (by omega)
      rw [HRES.out.1, HRES.out.2.1, HRES.out.2.2]
      first | exact ⟨_, rfl, ⟨us', hOT⟩, ((HB9.out.setCell (by show w.heap.size ≤ w.heap.size + 2; omega) _).setCell (by show w.heap.size ≤ w.heap.size + 2; omega) _)⟩ | exact ⟨_, us', rfl, hOT, ((HB9.out.setCell (by show w.heap.size ≤ w.heap.size + 2; omega) _).setCell (by show w.heap.size ≤ w.heap.size + 2; omega) _)⟩
theorem join_need (p : Int) (ts : Tms) (q : Int) (us : Tms) : need (joinSums p ts q us).1.2 ≤ 1048576 := by
  unfold joinSums
  by_cases h : likeC p ts q us = 0
  · rw [if_pos h]
    obtain ⟨h1, h2, h3⟩ := likeC_zero h
    rcases h4 : fits ts us with _ | _
    · exact zero_need 3
    · exact put_need p (joinL_plain h1 (by rw [h3]; exact h2) h4)
  · rw [if_neg h]; exact zero_need _
end Go.Proofs.Ytofcldplgkejiaa
