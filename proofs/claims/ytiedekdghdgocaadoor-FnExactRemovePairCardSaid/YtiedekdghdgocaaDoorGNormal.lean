/- l07Order, l07Normal: the model's normal Gauss words. -/
import Derived.Test.YtiedekdghdgocaaDoorGBox
namespace Go.Proofs.YtiedekdghdgocaaDoor
open Go.RowKit
set_option linter.unusedVariables false
set_option linter.unusedSimpArgs false
set_option maxRecDepth 100000

theorem met_step (xs : List Int) (k : Nat) (hk : k < xs.length) :
    (xs[k]?.getD 0 ∈ met (xs.take k) → met (xs.take (k + 1)) = met (xs.take k)) ∧ (xs[k]?.getD 0 ∉ met (xs.take k) → met (xs.take (k + 1)) = met (xs.take k) ++ [xs[k]?.getD 0]) :=
  ⟨fun h => ((normal_step xs k hk).1 h).1, fun h => ((normal_step xs k hk).2 h).1⟩
theorem contains_snoc (l : List Int) (x y : Int) : (l ++ [x]).contains y = (l.contains y || (x == y)) := by
  rw [Bool.eq_iff_iff, Bool.or_eq_true, List.contains_iff_mem, List.mem_append, List.mem_singleton, List.contains_iff_mem, beq_iff_eq]
  exact ⟨fun h => h.imp id Eq.symm, fun h => h.imp id Eq.symm⟩
/-- the number of a chord in a list -/
def pickI (hs : List Int) (y : Int) : Int := hs[y.toNat]?.getD 0
def gnorm (xs hs ss : List Int) : Trip := (norm xs, (met xs).map (pickI hs), (met xs).map (pickI ss))
set_option maxHeartbeats 3200000 in
theorem order_any (A : Option Addr) (n c : Nat) (xs : List Int) (w : World) (hr : Rd w A n xs) (hn : n ≤ 1048576) :
    Calls Tryd.prog 29 #[.slice A n c] w fun e w' => ∃ v, e = .returned v ∧ Own w' w.heap.size v (met xs) ∧ Below w.heap.size w w' := by
  have HR := Lib.hid hr
  have HL := Lib.hid hr.len
  clear hr
  go_enter Tryd.func29, Tryd.ntmps29
  go_wp2
  go_loopw [3, 4] (fun mv i wr => ∃ k : Nat, k ≤ n ∧ i = .int .i64 k ∧ Own wr w.heap.size mv (met (xs.take k)) ∧ Below w.heap.size w wr) (fun _ i _ => n - (intOf i).toNat)
  case atStart => exact ⟨0, by omega, rfl, World.ownsRow_lit w #[] 0 (Nat.le_refl _) (by decide) rfl, (Below.refl _ _).alloc (Nat.le_refl _) _⟩
  case round =>
    obtain ⟨k, hk, rfl, hm, hb⟩ := hrel
    by_cases hlt : k < n
    · obtain ⟨a, rfl, ha, hc⟩ := (HR.out.below hb).at_ hlt
      obtain ⟨MA, M, mc, rfl, hM, hmr⟩ := hm.form'
      have hml := met_length (xs.take k)
      have hkl : (xs.take k).length ≤ k := List.length_take_le _ _
      have hMn : M ≤ n := by omega
      have HM := Lib.hid hM
      have HMR := Lib.hid hmr
      obtain ⟨y, hy⟩ : ∃ y, y = xs[k]?.getD 0 := ⟨_, rfl⟩
      rw [getD_eq, ← hy] at hc
      have HY := Lib.hid hy
      clear hM hml hkl hmr hy
      go_wp2
      go_loopw [5, 6] (fun t j w2 => ∃ m : Nat, m ≤ M ∧ j = .int .i64 m ∧ (∃ b : Bool, t = .bool b ∧ Hid (b = ((met (xs.take k)).take m).contains y)) ∧ ∃ q, w2 = wr.drewN q) (fun _ j _ => M - (intOf j).toNat)
      case atStart => exact ⟨0, by omega, rfl, ⟨false, rfl, Lib.hid (by simp)⟩, 0, rfl⟩
      case round =>
        obtain ⟨m, hm2, rfl, ⟨b, rfl, hbb⟩, q, rfl⟩ := hrel
        by_cases hlt' : m < M
        · obtain ⟨a', rfl, ha', hd⟩ := HMR.out.at_ hlt'
          have HST : Hid (((met (xs.take k)).take (m + 1)).contains y = (b || ((met (xs.take k))[m]?.getD 0 == y))) := Lib.hid (by
            rw [take_next _ m (by rw [HM.out]; exact hlt'), hbb.out]
            exact contains_snoc _ _ _)
          obtain ⟨x, hx⟩ : ∃ x, x = (met (xs.take k))[m]?.getD 0 := ⟨_, rfl⟩
          rw [getD_eq, ← hx] at hd
          rw [← hx] at HST
          clear hx hbb
          obtain ⟨r, hr⟩ : ∃ r, r = (x == y) := ⟨_, rfl⟩
          rw [← hr] at HST
          have e1 : (x == y) = r := hr.symm
          clear hr
          rcases b with _ | _
          · go_wp2
            go_quiet (fail)
            go_wp2
            go_roundw
            case rel => exact ⟨m + 1, by omega, by go_num, ⟨r, rfl, Lib.hid (by rw [HST.out]; rfl)⟩, _, rfl⟩
            case measure => simp [intOf]; omega
          · go_wp2
            go_quiet (fail)
            go_wp2
            go_roundw
            case rel => exact ⟨m + 1, by omega, by go_num, ⟨true, rfl, Lib.hid (by rw [HST.out]; rfl)⟩, _, rfl⟩
            case measure => simp [intOf]; omega
        · obtain rfl : m = M := by omega
          have hfull : b = (met (xs.take k)).contains y := by rw [hbb.out, List.take_of_length_le (by rw [HM.out]; exact Nat.le_refl _)]
          have hstep := met_step xs k (by rw [HL.out]; omega)
          rw [← HY.out] at hstep
          have hml2 : (met (xs.take k)).length ≤ 1099511627776 := by have := HM.out; omega
          have hmq : Own (wr.drewN q) w.heap.size (.slice MA m mc) (met (xs.take k)) := hm
          have hbq : Below w.heap.size w (wr.drewN q) := below_drewN hb q
          have HMQ := Lib.hid hmq
          have HBQ := Lib.hid hbq
          have hsz : w.heap.size ≤ wr.heap.size := hb.size
          rcases b with _ | _
          · have HS := Lib.hid (hstep.2 (by simpa using hfull.symm))
            clear hbb hfull hstep hm hb hmq hbq
            go_wp2_with (at_builtin; refine push_int (wr.drewN q) rfl (.tmp 34) (.tmp 39) rfl w.heap.size _ (met (xs.take k)) y rfl HMQ.out rfl hml2 HBQ.out.size ?_; intro v1 w1 ho1 hg1 hat1)
            go_roundw
            case rel => exact ⟨k + 1, by omega, by go_num, by rw [HS.out]; exact ho1, HBQ.out.grown hg1 HBQ.out.size (fun g hg => (HMQ.out.lt g hg).1)⟩
            case measure => simp [intOf]; omega
          · have HS := Lib.hid (hstep.1 (by simpa using hfull.symm))
            clear hbb hfull hstep hm hb hmq hbq
            go_wp2
            go_roundw
            case rel => exact ⟨k + 1, by omega, by go_num, by rw [HS.out]; exact HMQ.out, HBQ.out⟩
            case measure => simp [intOf]; omega
    · have et : xs.take k = xs := List.take_of_length_le (by rw [HL.out]; omega)
      rw [et] at hm
      clear et
      go_wp2
      go_ret
      exact ⟨_, rfl, hm, hb⟩
set_option maxHeartbeats 16000000 in
theorem gnormal_any (A B C : Option Addr) (n c m d q f : Nat) (xs hs ss : List Int) (w : World) (hr : Rd w A n xs) (hh : Rd w B m hs) (hg : Rd w C q ss) (hn : n ≤ 1048576) (hm1 : m ≤ 1048576) (hq1 : q ≤ 1048576) (hin : ∀ y ∈ xs, 0 ≤ y ∧ y < m ∧ y < q) :
    Calls Tryd.prog 18 #[.slice A n c, .slice B m d, .slice C q f] w fun e w' => ∃ u v s, e = .returned (.agg #[u, v, s]) ∧ OwnG w' w.heap.size u v s (gnorm xs hs ss).1 (gnorm xs hs ss).2.1 (gnorm xs hs ss).2.2 ∧ Below w.heap.size w w' := by
  obtain ⟨b0, hb0⟩ : ∃ b, b = w.heap.size := ⟨_, rfl⟩
  obtain ⟨W, hW⟩ : ∃ W, W = w.alloc (.cells #[.slice none 0 0, .slice none 0 0, .slice none 0 0] 26) := ⟨_, rfl⟩
  have hbW : Below w.heap.size w W := by rw [hW]; exact below_alloc _ _
  have x0 : Box3 W b0 26 (.slice none 0 0) (.slice none 0 0) (.slice none 0 0) := by rw [hW, hb0]; exact box3_new _ _ _ _ _
  have hsW : b0 < W.heap.size := x0.lt
  have HX := Lib.hid x0
  have HB : Hid (Below b0 w W) := Lib.hid (by rw [hb0]; exact hbW)
  have HW := Lib.hid hW
  have HB0 := Lib.hid hb0
  have HRX := Lib.hid (hr.below hbW)
  have HRH := Lib.hid (hh.below hbW)
  have HRS := Lib.hid (hg.below hbW)
  have HL : Hid (xs.length = n ∧ hs.length = m ∧ ss.length = q) := Lib.hid ⟨hr.len, hh.len, hg.len⟩
  have HIN : Hid (∀ k, k < (met xs).length → 0 ≤ (met xs)[k]?.getD 0 ∧ (met xs)[k]?.getD 0 < m ∧ (met xs)[k]?.getD 0 < q) := Lib.hid (fun k hk => by
    rw [List.getElem?_eq_getElem hk]; exact hin _ ((met_mem xs _).1 (List.getElem_mem hk)))
  clear hr hh hg hin hbW x0 hW hb0
  rw [← HB0.out]
  go_enter Tryd.func18, Tryd.ntmps18
  go_wp2_with fail
  rw [← HW.out, ← HB0.out]
  refine (order_any _ _ _ xs _ HRX.out hn).mono ?_
  rintro e w1 ⟨ov, rfl, ho1, hb1⟩
  obtain ⟨OA, M, oc, rfl, hM, hro⟩ := ho1.form'
  have HB1 := Lib.hid hb1
  have HRO := Lib.hid hro
  have HM := Lib.hid hM
  have hs1 := hb1.size
  have hMn : M ≤ n := by have := met_length xs; have := HL.out.1; omega
  clear ho1 hro hM hb1
  go_wp2_with fail
  refine (normal_any _ _ _ xs _ (HRX.out.below HB1.out) hn).mono ?_
  rintro e w2 ⟨nv, rfl, ho2, hb2⟩
  obtain ⟨NA, nn, nc, rfl, hN, hrn⟩ := ho2.form'
  obtain ⟨lo, hlo⟩ : ∃ lo, lo = w1.heap.size := ⟨_, rfl⟩
  obtain ⟨g1, hg1⟩ : ∃ g, g = w2.heap.size := ⟨_, rfl⟩
  obtain ⟨g2, hg2⟩ : ∃ g, g = g1 + 1 := ⟨_, rfl⟩
  obtain ⟨g, hg⟩ : ∃ g, g = g2 + 1 := ⟨_, rfl⟩
  obtain ⟨V1, hV1⟩ : ∃ V, V = w2.alloc (.cells #[] 2) := ⟨_, rfl⟩
  obtain ⟨V2, hV2⟩ : ∃ V, V = V1.alloc (.cells #[] 2) := ⟨_, rfl⟩
  obtain ⟨V, hV⟩ : ∃ V, V = V2.alloc (.cells #[.slice NA nn nc, .slice (some ⟨g1, 0, none⟩) 0 0, .slice (some ⟨g2, 0, none⟩) 0 0] 26) := ⟨_, rfl⟩
  have s1 : V1.heap.size = g2 := by rw [hV1, World.size_alloc, ← hg1, hg2]
  have s2 : V2.heap.size = g := by rw [hV2, World.size_alloc, s1, hg]
  rw [← hlo] at ho2 hb2
  have hsl := hb2.size
  have b1 : Below w2.heap.size w2 V1 := by rw [hV1]; exact below_alloc _ _
  have b2 : Below V1.heap.size V1 V2 := by rw [hV2]; exact below_alloc _ _
  have b3 : Below V2.heap.size V2 V := by rw [hV]; exact below_alloc _ _
  have b13 : Below V1.heap.size V1 V := b2.trans (b3.mono (by omega))
  have b03 : Below w2.heap.size w2 V := b1.trans (b13.mono (by omega))
  have o1 : Own V1 lo (.slice (some ⟨g1, 0, none⟩) 0 0) [] := by rw [hV1, hg1]; exact own_none w2 lo (by omega)
  have o2 : Own V2 lo (.slice (some ⟨g2, 0, none⟩) 0 0) [] := by rw [hV2, ← s1]; exact own_none V1 lo (by omega)
  have x4 : Box3 V g 26 (.slice NA nn nc) (.slice (some ⟨g1, 0, none⟩) 0 0) (.slice (some ⟨g2, 0, none⟩) 0 0) := by rw [hV, ← s2]; exact box3_new _ _ _ _ _
  have hbl : Below lo w1 V := hb2.trans (b03.mono (by omega))
  have x0' := (HX.out.below HB1.out hsW).below hbl (by omega)
  have hnb : ∀ k, (Value.slice NA nn nc).ownBlock = some k → k < g1 := fun k hk => by have := (ho2.lt k hk).2; omega
  have HINV : Hid (InvR w1 V lo g b0 b0 #[.slice none 0 0, .slice none 0 0, .slice none 0 0] 26 (0, 0) (norm xs, ((met xs).take 0).map (pickI hs), ((met xs).take 0).map (pickI ss))) := Lib.hid ⟨⟨_, _, _, x4, ⟨ho2.below b03, o1.below b13, o2.below b3, fun k hk h => by have := hnb k hk; simp [Value.ownBlock] at h; omega, fun k hk h => by have := hnb k hk; simp [Value.ownBlock] at h; omega, fun k hk h => by simp [Value.ownBlock] at hk h; omega⟩⟩, x0', x0', hbl⟩
  have HRH1 := Lib.hid (HRH.out.below HB1.out)
  have HRS1 := Lib.hid (HRS.out.below HB1.out)
  have hT : (26 : TypeId) ≠ 2 := by decide
  have he0 : b0 ≠ g := by omega
  have heB := he0
  have hlg : lo ≤ g := by omega
  have HLO : Hid (lo = w1.heap.size) := Lib.hid hlo
  have HG1 := Lib.hid hg1
  have HG2 := Lib.hid hg2
  have HG4 := Lib.hid hg
  have HB2 : Hid (Below b0 w w1) := Lib.hid (HB.out.trans (HB1.out.mono (by omega)))
  have HV : Hid (V = ((w2.alloc (.cells #[] 2)).alloc (.cells #[] 2)).alloc (.cells #[.slice NA nn nc, .slice (some ⟨g1, 0, none⟩) 0 0, .slice (some ⟨g2, 0, none⟩) 0 0] 26)) := Lib.hid (by rw [hV, hV2, hV1])
  have hb0l : b0 < lo := by omega
  clear hV hV2 hV1 s1 s2 b1 b2 b3 b13 b03 o1 o2 x4 hbl x0' hnb hg hg2 hg1 hlo ho2 hb2 hrn hN hsl
  go_upto_region 2 with fail
  rw [← HG1.out, ← HG2.out, ← HG4.out, ← HV.out]
  go_wp2_with fail
  go_loopw [9] (fun i wr => ∃ k : Nat, k ≤ M ∧ i = .int .i64 k ∧ Hid (InvR w1 wr lo g b0 b0 #[.slice none 0 0, .slice none 0 0, .slice none 0 0] 26 (0, 0) (norm xs, ((met xs).take k).map (pickI hs), ((met xs).take k).map (pickI ss)))) (fun i _ => M - (intOf i).toNat)
  case atStart => exact ⟨0, by omega, rfl, HINV⟩
  case round =>
    clear HINV
    obtain ⟨k, hk, rfl, hinv0⟩ := hrel
    by_cases hlt : k < M
    · obtain ⟨y, hy0, hyk, hym, hyq⟩ : ∃ y : Nat, (met xs)[k]?.getD 0 = (y : Int) ∧ y = ((met xs)[k]?.getD 0).toNat ∧ y < m ∧ y < q := by
        have h := HIN.out k (by have := HM.out; omega)
        exact ⟨((met xs)[k]?.getD 0).toNat, by omega, rfl, by omega, by omega⟩
      have HYK := Lib.hid hyk
      obtain ⟨r, hr⟩ : ∃ r : Trip, r = (norm xs, ((met xs).take k).map (pickI hs), ((met xs).take k).map (pickI ss)) := ⟨_, rfl⟩
      have HR := Lib.hid hr
      rw [← hr] at hinv0
      have hbw := hinv0.out.2.2.2
      have hroW := (show Rd w1 OA M (met xs) from HRO.out)
      have HZ1 : Hid (pickI hs ((met xs)[k]?.getD 0) = hs[y]?.getD 0) := Lib.hid (by unfold pickI; rw [hyk])
      have HZ2 : Hid (pickI ss ((met xs)[k]?.getD 0) = ss[y]?.getD 0) := Lib.hid (by unfold pickI; rw [hyk])
      have HTK : Hid ((met xs).take (k + 1) = (met xs).take k ++ [(met xs)[k]?.getD 0]) := Lib.hid (take_next _ k (by have := HM.out; omega))
      have hlq : ((met xs).take k).length ≤ k := List.length_take_le _ _
      have HLN1 : Hid (r.2.1.length + 1 ≤ 1099511627776) := Lib.hid (by rw [hr]; simp; omega)
      have HLN2 : Hid (r.2.2.length + 1 ≤ 1099511627776) := Lib.hid (by rw [hr]; simp; omega)
      clear hyk hr hlq
      obtain ⟨⟨u, v, z, hb3, ho⟩, h0, hB, hw⟩ := hinv0.out
      clear hinv0 hbw hroW
      obtain ⟨A1, n1, c1, B1, m1, d1, C1, s1, t1, rfl, rfl, rfl⟩ := form3 ho
      have HB3 := Lib.hid hb3
      have HO := Lib.hid ho
      have H0 := Lib.hid h0
      have HBB := Lib.hid hB
      have HWW := Lib.hid hw
      have hsz : lo ≤ wr.heap.size := by have h1 := hw.size; have h2 := HLO.out; omega
      have p0 := hb3.cell0
      have p1 := hb3.cell1
      have p2 := hb3.cell2
      have hww : Below w1.heap.size w1 wr := by have h2 := HLO.out; rw [← h2]; exact hw
      obtain ⟨a, rfl, ha, hca⟩ := Rd.at_ (Rd.below (show Rd w1 OA M (met xs) from HRO.out) hww) hlt
      rw [getD_eq, hy0] at hca
      clear hb3 ho h0 hB hw
      obtain ⟨b, rfl, hb, hcb⟩ := Rd.at_ (Rd.below (show Rd w1 B _ hs from HRH1.out) hww) hym
      obtain ⟨zz, hzz⟩ : ∃ zz, zz = hs[y]?.getD 0 := ⟨_, rfl⟩
      rw [getD_eq, ← hzz] at hcb
      have HZZ := Lib.hid hzz
      have HOA : Hid (Own (wr.alloc (.cells #[.int .i64 zz] 2)) lo (.slice B1 m1 d1) r.2.1) := Lib.hid (HO.out.heads.below (below_alloc _ _))
      have HRA : Hid (Rd (wr.alloc (.cells #[.int .i64 zz] 2)) (some ⟨wr.heap.size, 0, none⟩) 1 [zz]) := Lib.hid (rd_one _ _)
      have hszA : lo ≤ (wr.alloc (.cells #[.int .i64 zz] 2)).heap.size := by simp; omega
      have a1 := fun o => (HB3.out.alloc o).cell1
      have a1d : ∀ o, (wr.alloc o).drew.cell? ⟨g, 1, none⟩ = some (.slice B1 m1 d1) := fun o => (HB3.out.alloc o).cell1
      clear hww hzz
      go_upto_region 5 with fail
      go_cut [] from 351 (fun wd => Hid (InvR w1 wd lo g b0 b0 #[.slice none 0 0, .slice none 0 0, .slice none 0 0] 26 (0, 0) (r.1, r.2.1 ++ [hs[y]?.getD 0], r.2.2)))
      case first =>
        go_region_law (first | (refine step_append_rd rfl (.tmp 24) (.tmp 32) rfl lo (.slice B1 m1 d1) r.2.1 [zz] (by simp [Act.eval, Act.put]) HOA.out (some ⟨wr.heap.size, 0, none⟩) 1 1 (by simp [Act.eval, Act.put]) HRA.out HLN1.out hszA ?_; intro v1 w5 ho1 hg1 hat1; obtain ⟨Ax, nx, cx, hvx, _, _⟩ := ho1.form'; subst hvx; obtain ⟨hk1, hinv⟩ := inv_push1 (r := r) HB3.out HO.out H0.out HBB.out HWW.out hT he0 heB hlg hsz ho1 (grown_alloc hg1) (by simpa using hat1); have dd2 := hk1.cell1; have ff2 := hk1.free 1; clear ho1 hg1 hat1 hk1))
        all_goals (try go_wp2_with fail)
        all_goals go_meet
        all_goals (rw [← HZZ.out]; exact hinv)
      case rest =>
        have hinv1 := hcut
        rename World => wd
        obtain ⟨r2, hr2⟩ : ∃ r2 : Trip, r2 = (r.1, r.2.1 ++ [hs[y]?.getD 0], r.2.2) := ⟨_, rfl⟩
        have HR2 := Lib.hid hr2
        rw [← hr2] at hinv1
        have HLN3 : Hid (r2.2.2.length + 1 ≤ 1099511627776) := Lib.hid (by rw [hr2]; exact HLN2.out)
        clear hr2 hcut p0 p1 p2 hca hcb a1 a1d hsz hszA
        clear HB3 HO H0 HBB HWW HOA HRA HZZ
        obtain ⟨⟨u, v, z, hb3, ho⟩, h0, hB, hw⟩ := hinv1.out
        clear hinv1
        obtain ⟨A2, n2, c2, B2, m2, d2, C2, s2, t2, rfl, rfl, rfl⟩ := form3 ho
        have HB3 := Lib.hid hb3
        have HO := Lib.hid ho
        have H0 := Lib.hid h0
        have HBB := Lib.hid hB
        have HWW := Lib.hid hw
        have hsz : lo ≤ wd.heap.size := by have h1 := hw.size; have h2 := HLO.out; omega
        have p0 := hb3.cell0
        have p1 := hb3.cell1
        have p2 := hb3.cell2
        have hww : Below w1.heap.size w1 wd := by have h2 := HLO.out; rw [← h2]; exact hw
        obtain ⟨a', ea', ha', hca⟩ := Rd.at_ (Rd.below (show Rd w1 (some a) M (met xs) from HRO.out) hww) hlt
        injection ea' with ea'
        subst ea'
        rw [getD_eq, hy0] at hca
        clear hb3 ho h0 hB hw
        obtain ⟨b9, rfl, hb9, hcb⟩ := Rd.at_ (Rd.below (show Rd w1 C _ ss from HRS1.out) hww) hyq
        obtain ⟨zz, hzz⟩ : ∃ zz, zz = ss[y]?.getD 0 := ⟨_, rfl⟩
        rw [getD_eq, ← hzz] at hcb
        have HZZ := Lib.hid hzz
        have HOA : Hid (Own (wd.alloc (.cells #[.int .i64 zz] 2)) lo (.slice C2 s2 t2) r2.2.2) := Lib.hid (HO.out.signs.below (below_alloc _ _))
        have HRA : Hid (Rd (wd.alloc (.cells #[.int .i64 zz] 2)) (some ⟨wd.heap.size, 0, none⟩) 1 [zz]) := Lib.hid (rd_one _ _)
        have hszA : lo ≤ (wd.alloc (.cells #[.int .i64 zz] 2)).heap.size := by simp; omega
        have a1 := fun o => (HB3.out.alloc o).cell2
        have a1d : ∀ o, (wd.alloc o).drew.cell? ⟨g, 2, none⟩ = some (.slice C2 s2 t2) := fun o => (HB3.out.alloc o).cell2
        clear hww hzz
        have HE : Hid ((norm xs, ((met xs).take (k + 1)).map (pickI hs), ((met xs).take (k + 1)).map (pickI ss)) = (r2.1, r2.2.1, r2.2.2 ++ [zz])) := Lib.hid (by rw [HTK.out, List.map_append, List.map_append, HR2.out, HR.out, HZZ.out]; simp [HZ1.out, HZ2.out])
        go_upto_region 6 with fail
        go_region_law (first | (refine step_append_rd rfl (.tmp 36) (.tmp 44) rfl lo (.slice C2 s2 t2) r2.2.2 [zz] (by simp [Act.eval, Act.put]) HOA.out (some ⟨wd.heap.size, 0, none⟩) 1 1 (by simp [Act.eval, Act.put]) HRA.out HLN3.out hszA ?_; intro v1 w5 ho1 hg1 hat1; obtain ⟨Ax, nx, cx, hvx, _, _⟩ := ho1.form'; subst hvx; obtain ⟨hk1, hinv⟩ := inv_push2 (r := r2) HB3.out HO.out H0.out HBB.out HWW.out hT he0 heB hlg hsz ho1 (grown_alloc hg1) (by simpa using hat1); have dd2 := hk1.cell2; have ff2 := hk1.free 2; clear ho1 hg1 hat1 hk1))
        all_goals (try go_wp2_with fail)
        all_goals go_roundw
        all_goals first | exact ⟨k + 1, by omega, by go_num, by rw [HE.out]; exact hinv⟩ | (simp [intOf]; omega)
    · obtain rfl : k = M := by omega
      have het : (met xs).take k = met xs := List.take_of_length_le (by rw [HM.out]; exact Nat.le_refl _)
      rw [het] at hinv0
      obtain ⟨⟨u, v, z, hb3, ho⟩, h0, hB, hw⟩ := hinv0.out
      obtain ⟨A1, n1, c1, B1, m1, d1, C1, s1, t1, rfl, rfl, rfl⟩ := form3 ho
      have y0 := hb3.cell0
      have y1 := hb3.cell1
      have y2 := hb3.cell2
      have q0 := h0.cell0
      have q1 := h0.cell1
      have q2 := h0.cell2
      have f0 := h0.free 0
      have f1 := h0.free 1
      have f2 := h0.free 2
      have H0 := Lib.hid h0
      have HO := Lib.hid (ho.mono (by omega : b0 ≤ lo))
      have HBZ := Lib.hid (HB2.out.trans (hw.mono (by omega)))
      clear hb3 ho h0 hB hw hinv0 het
      go_wp2_with fail
      have e0 := H0.out.set0 (.slice A1 n1 c1)
      have e1 := e0.set1 (.slice B1 m1 d1)
      have e2 := e1.set2 (.slice C1 s1 t1)
      refine bodyPost_ret (v := .agg #[.slice A1 n1 c1, .slice B1 m1 d1, .slice C1 s1 t1]) ?_ ?_ ?_
      · exact results_cell_row Tryd.results18 _ _ b0 26 _ (0, 0) _ rfl e2 Tryd.underlying26 rfl size_gauss
      · rfl
      · exact ⟨_, _, _, rfl, ((HO.out.set_box H0.out).set_box e0).set_box e1, ((HBZ.out.setCell (p := ⟨b0, 0, none⟩) (Nat.le_refl _) _).setCell (p := ⟨b0, 1, none⟩) (Nat.le_refl _) _).setCell (p := ⟨b0, 2, none⟩) (Nat.le_refl _) _⟩
end Go.Proofs.YtiedekdghdgocaaDoor
