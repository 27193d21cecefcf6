/- A knot as a Gauss word: the walk of gauss. -/
import Derived.Test.YtiedekdghdgocaaDoorKnotGauss
namespace Go.Proofs.YtiedekdghdgocaaDoor
open Go.RowKit
set_option linter.unusedVariables false
set_option linter.unusedSimpArgs false
set_option maxRecDepth 100000

set_option maxHeartbeats 32000000 in
theorem gauss_any (L : List Nd) (kb : Nat) (av : Value) (X : List Nat) (hd sg : Int → Int) (w : World) (h : KnotX w kb L av X hd sg) (hl : X.length ≤ 100) :
    Calls Tryd.prog 36 #[ptr kb] w fun e w' => ∃ u v s, e = .returned (.agg #[u, v, s]) ∧ OwnG w' w.heap.size u v s (norm (ofN X)) ((met (ofN X)).map hd) ((met (ofN X)).map sg) ∧ Below w.heap.size w w' := by
  obtain ⟨b0, hb0⟩ : ∃ b, b = w.heap.size := ⟨_, rfl⟩
  obtain ⟨g, hg⟩ : ∃ b, b = b0 + 1 := ⟨_, rfl⟩
  obtain ⟨W, hW⟩ : ∃ W, W = w.alloc (.cells #[.slice none 0 0, .slice none 0 0, .slice none 0 0] 26) := ⟨_, rfl⟩
  obtain ⟨W2, hW2⟩ : ∃ V, V = W.alloc (.cells #[.slice none 0 0, .slice none 0 0, .slice none 0 0] 26) := ⟨_, rfl⟩
  have s0 : W.heap.size = g := by rw [hW, World.size_alloc, ← hb0, hg]
  have b1 : Below b0 w W := by rw [hW, hb0]; exact below_alloc _ _
  have b2 : Below g W W2 := by rw [hW2, ← s0]; exact below_alloc _ _
  have x0 : Box3 W b0 26 (.slice none 0 0) (.slice none 0 0) (.slice none 0 0) := by rw [hW, hb0]; exact box3_new _ _ _ _ _
  have x1 : Box3 W2 g 26 (.slice none 0 0) (.slice none 0 0) (.slice none 0 0) := by rw [hW2, ← s0]; exact box3_new _ _ _ _ _
  have x0' := x0.below b2 (by omega)
  have b12 : Below b0 w W2 := b1.trans (b2.mono (by omega))
  have hK2 := h.below (by rw [← hb0]; exact b12)
  have hsz2 : W2.heap.size = g + 1 := by rw [hW2, World.size_alloc, s0]
  have HKX := Lib.hid h
  have HK2 := Lib.hid hK2
  have HX0 := Lib.hid x0'
  have HX1 := Lib.hid x1
  have HB12 := Lib.hid b12
  have HS2 := Lib.hid hsz2
  have HB0 := Lib.hid hb0
  have HG := Lib.hid hg
  have HV : Hid (W2 = (w.alloc (.cells #[.slice none 0 0, .slice none 0 0, .slice none 0 0] 26)).alloc (.cells #[.slice none 0 0, .slice none 0 0, .slice none 0 0] 26)) := Lib.hid (by rw [hW2, hW])
  have hbg : b0 < g := by omega
  obtain ⟨N, hN⟩ : ∃ N, N = X.length := ⟨_, rfl⟩
  have HN := Lib.hid hN
  have HLB : Hid (∀ i, i < L.length → bl L i < g) := Lib.hid (fun i hi => by have := h.ring.lt hi; omega)
  have HLA : Hid (∀ j, j < X.length → X[j]?.getD 0 < g) := Lib.hid (fun j hj => by have := (h.arrow j hj).lt; omega)
  clear h hW hW2 s0 b1 b2 x0 x1 x0' b12 hK2 hsz2 hg hb0
  rw [← hN] at hl
  clear hN
  rw [← HB0.out]
  unfold ptr
  go_enter Tryd.func36, Tryd.ntmps36
  go_wp2_with fail
  rw [← HB0.out, ← HG.out, ← HV.out]
  refine (places_any L kb av W2 HK2.out.ring HK2.out.box (by rw [HK2.out.len]; omega) (by rw [HK2.out.len, ← HN.out]; omega)).mono ?_
  rintro e w1 ⟨pv, rfl, hp1, hb1⟩
  have hb1g : Below (g + 1) W2 w1 := by rw [← HS2.out]; exact hb1
  have HP1 := Lib.hid hp1
  have HB1 := Lib.hid hb1g
  have hp2 : OwnN w1 g pv (blocks L) := row_mono hp1 (by have := HS2.out; omega)
  have HGS : Hid (Gs w1 w1 g b0 pv (.slice none 0 0) [] (blocks L) (gto (ofN X) hd sg 0)) := Lib.hid
    ⟨⟨⟨_, _, _, HX1.out.below hb1g (by omega), ⟨Own.nil_ _ _, Own.nil_ _ _, Own.nil_ _ _, fun k hk => by simp [Value.ownBlock] at hk, fun k hk => by simp [Value.ownBlock] at hk, fun k hk => by simp [Value.ownBlock] at hk⟩⟩, HX0.out.below hb1g (by omega), HX0.out.below hb1g (by omega), Below.refl _ _⟩,
      World.ownsRow_nil w1 g 69 1, hp2⟩
  have HK1 := Lib.hid (HK2.out.below (by rw [HS2.out]; exact hb1g))
  have hs1 : g ≤ w1.heap.size := by have := hb1.size; have := HS2.out; omega
  obtain ⟨PA, pc, rfl⟩ := row_form hp2
  have hbn : (blocks L).length = N := by rw [blocks_len, HK2.out.len, HN.out]; omega
  rw [hbn] at HGS ⊢
  have HBN := Lib.hid hbn
  clear hp1 hp2 hb1 hb1g hbn
  go_wp2_with fail
  go_loopg [4, 11] N (fun f mv i wr => ∃ k : Nat, k + f = N ∧ i = .int .i64 k ∧ Hid (Gs w1 wr g b0 (.slice PA N pc) mv (metN (X.take k)) (blocks L) (gto (ofN X) hd sg k)))
  case atStart => exact ⟨0, by omega, rfl, by simpa [metN, ofN, met_nil] using HGS⟩
  case round =>
    obtain ⟨k, hkf, rfl, hgs⟩ := hrel
    by_cases hk : k < N
    · have hkX : k < X.length := by rw [← HN.out]; exact hk
      have hkI : k < (ofN X).length := by rw [ofN_length]; exact hkX
      obtain ⟨y, hy⟩ : ∃ y, y = X[k]?.getD 0 := ⟨_, rfl⟩
      have hyI : (ofN X)[k]?.getD 0 = (y : Int) := by rw [ofN_get, ← hy]
      obtain ⟨M, hM⟩ : ∃ M, M = metN (X.take k) := ⟨_, rfl⟩
      have hMI : ofN M = met ((ofN X).take k) := by rw [hM, ofN_metN, ofN_take]
      have hMl : M.length ≤ 100 := by
        have h1 : M.length = (met ((ofN X).take k)).length := by rw [hM, metN_length, ofN_take]
        have h2 := met_length ((ofN X).take k)
        have h3 : ((ofN X).take k).length ≤ k := List.length_take_le _ _
        omega
      obtain ⟨r, hr⟩ : ∃ r : Trip, r = gto (ofN X) hd sg k := ⟨_, rfl⟩
      rw [← hM, ← hr] at hgs
      have hwb : Below g w1 wr := hgs.out.inv.2.2.2
      have hszr := hwb.size
      have hgz : g ≤ wr.heap.size := by omega
      have hk1L : k + 1 < L.length := by have := HK1.out.len; omega
      have hnode := (HK1.out.ring.node (k + 1) hk1L).below hwb (HLB.out _ hk1L)
      rw [HK1.out.vals k hkX, ← hy] at hnode
      have harr := (HK1.out.arrow k hkX).below hwb (HLA.out k hkX)
      rw [← hy] at harr
      have hnode1 := HK1.out.ring.node (k + 1) hk1L
      rw [HK1.out.vals k hkX, ← hy] at hnode1
      have harr1 := HK1.out.arrow k hkX
      rw [← hy] at harr1
      obtain ⟨nb, hnb⟩ : ∃ b, b = bl L (k + 1) := ⟨_, rfl⟩
      rw [← hnb] at hnode1
      rw [← hnb] at hnode
      obtain ⟨hpn, pg, hpa, hpc⟩ := row_at hgs.out.pls (j := k) (u := ptr nb) (by rw [HBN.out]; exact hk) (by rw [ptrs_get, blocks_get L k hk1L, ← hnb]; rfl)
      subst hpa
      have n0 := hnode.cell0
      obtain ⟨g2, rfl⟩ : ∃ g2, gk = g2 + 1 := ⟨gk - 1, by omega⟩
      have HI : Hid (Calls Tryd.prog 46 #[u4, ptr y] wr fun e w' => e = .returned (.int .i64 (findB (met ((ofN X).take k)) y)) ∧ w' = wr) := Lib.hid (by
        rw [← hMI]
        refine indexP_any g u4 M y wr hgs.out.mt (fun j hj => ?_) ⟨_, _, harr⟩ (by omega)
        have hmem : M[j]?.getD 0 ∈ X.take k := by rw [List.getElem?_eq_getElem hj]; exact metN_mem (hM ▸ List.getElem_mem hj)
        obtain ⟨q, hq, hqe⟩ := List.getElem_of_mem hmem
        rw [List.getElem_take] at hqe
        have hqX : q < X.length := by rw [List.length_take] at hq; omega
        have hq2 := (HK1.out.arrow q hqX).below hwb (HLA.out q hqX)
        rw [show X[q]?.getD 0 = M[j]?.getD 0 by rw [List.getElem?_eq_getElem hqX]; exact hqe] at hq2
        exact ⟨_, _, hq2⟩)
      have HM := Lib.hid hM
      have HMI := Lib.hid hMI
      have HR := Lib.hid hr
      have HY := Lib.hid hy
      have HYI := Lib.hid hyI
      have HKL : Hid (k < X.length) := Lib.hid hkX
      obtain ⟨MA, mc, rfl⟩ := row_form hgs.out.mt
      obtain ⟨⟨ub, vb, zb, hb3, ho⟩, _⟩ := hgs.out.inv
      obtain ⟨A1, n1, c1, B1, m1, d1, C1, s1, t1, rfl, rfl, rfl⟩ := form3 ho
      have HB3 := Lib.hid hb3
      have HO := Lib.hid ho
      have p0 := hb3.cell0
      have he0 : b0 ≠ g := by omega
      have hn3 : r.1.length ≤ 100 ∧ r.2.1.length ≤ 100 ∧ r.2.2.length ≤ 100 := by
        have h1 := norm_length ((ofN X).take k)
        have h2 := met_length ((ofN X).take k)
        have h3 : ((ofN X).take k).length ≤ k := List.length_take_le _ _
        rw [hr]
        unfold gto
        simp only [List.length_map]
        omega
      obtain ⟨z, hz⟩ : ∃ z, z = findB (met ((ofN X).take k)) (y : Int) := ⟨_, rfl⟩
      rw [← hz] at HI
      have HZ := Lib.hid hz
      have hzm : ((y : Int) ∈ met ((ofN X).take k) ∧ 0 ≤ z ∧ z ≤ 100) ∨ ((y : Int) ∉ met ((ofN X).take k) ∧ z = -1) := by
        by_cases hmem : (y : Int) ∈ met ((ofN X).take k)
        · left
          have h2 := List.idxOf_lt_length_of_mem hmem
          have h4 : (met ((ofN X).take k)).length = M.length := by rw [hM, metN_length, ofN_take]
          rw [hz]
          unfold findB
          rw [if_pos hmem]
          exact ⟨hmem, by omega, by omega⟩
        · right
          rw [hz]
          unfold findB
          rw [if_neg hmem]
          exact ⟨hmem, rfl⟩
      have HT1 : Hid ((y : Int) ∈ met ((ofN X).take k) → gto (ofN X) hd sg (k + 1) = (r.1 ++ [z], r.2.1, r.2.2) ∧ metN (X.take (k + 1)) = M) := Lib.hid (fun hm => ⟨by rw [gto_old hkI (by rw [hyI]; exact hm), ← hr, hyI, ← hz], by rw [metN_old hkX (by rw [← hy]; exact hm), ← hM]⟩)
      have HT2 : Hid ((y : Int) ∉ met ((ofN X).take k) → gto (ofN X) hd sg (k + 1) = (r.1 ++ [(M.length : Int)], r.2.1 ++ [hd y], r.2.2 ++ [sg y]) ∧ metN (X.take (k + 1)) = M ++ [y]) := Lib.hid (fun hm => ⟨by rw [gto_new hkI (by rw [hyI]; exact hm), ← hr, hyI, hM, metN_length, ofN_take], by rw [metN_new hkX (by rw [← hy]; exact hm), ← hM, ← hy]⟩)
      obtain ⟨hdv, hhd⟩ : ∃ x, x = hd y := ⟨_, rfl⟩
      obtain ⟨sgv, hsg⟩ : ∃ x, x = sg y := ⟨_, rfl⟩
      rw [← hhd, ← hsg] at harr harr1 HT2
      have HNODE1 := Lib.hid hnode1
      have HARR1 := Lib.hid harr1
      have HNB : Hid (nb < g) := Lib.hid (by rw [hnb]; exact HLB.out _ hk1L)
      have HYG : Hid (y < g) := Lib.hid (by rw [hy]; exact HLA.out k hkX)
      have HNODE := Lib.hid hnode
      have HARR := Lib.hid harr
      clear hnode1 harr1 hz hhd hsg hb3 ho hM hMI hr hy hyI hnb hpn hnode harr hkX hkI hk1L hwb hszr
      unfold ptr at hpc n0 HI
      go_upto_region 6 with fail
      rcases hzm with ⟨hmem, hz0, hz1⟩ | ⟨hmem, rfl⟩
      · have HT := Lib.hid (HT1.out hmem)
        have hln : r.1.length ≤ 1099511627776 := by omega
        clear HT1 HT2 hmem
        go_wp2_with (first | (go_at_call 46; refine HI.out.mono ?_; rintro e w9 ⟨rfl, rfl⟩) | (at_builtin; refine push_int w9 rfl (.tmp 57) (.tmp 59) rfl g _ r.1 z rfl HO.out.word rfl hln hgz ?_; intro v1 w2 ho1 hg1 hat1; obtain ⟨Ax, nx, cx, hvx, _, _⟩ := ho1.form'; subst hvx; obtain ⟨hk1, hinv⟩ := Gs.push0 (r := r) hgs.out HB3.out HO.out he0 hgz ho1 hg1 hat1; have dd0 := hk1.cell0; have ff0 := hk1.free 0; clear ho1 hg1 hat1 hk1))
        go_roundg g2
        case rel => exact ⟨k + 1, by omega, by go_num, by rw [HT.out.1, HT.out.2]; exact hinv⟩
        case measure => omega
      · have HT := Lib.hid (HT2.out hmem)
        have HMT : Hid (wr.ownsRow g 69 1 (.slice MA M.length mc) M.length (ptrs M)) := Lib.hid hgs.out.mt
        have hlm : M.length ≤ 1099511627776 := by omega
        clear HT1 HT2 hmem p0
        go_upto_region 10 with (first | (go_at_call 46; refine HI.out.mono ?_; rintro e w9 ⟨rfl, rfl⟩) | (at_builtin; refine push_ptr w9 69 72 Tryd.underlying72 info_arrowp rfl (.tmp 25) (.tmp 30) rfl g _ M y rfl HMT.out rfl hlm hgz ?_; intro v1 w2 ho1 hg1 hat1; obtain ⟨Ax, cx, hvx⟩ := row_form ho1; subst hvx; have HGS2 := Lib.hid (hgs.out.push_met hgz ho1 hg1); have hgz2 : g ≤ w2.heap.size := Nat.le_trans hgz hg1.size; clear ho1 hg1 hat1))
        have hwb2 := HGS2.out.inv.2.2.2
        obtain ⟨⟨ub2, vb2, zb2, hb2, ho2⟩, _⟩ := HGS2.out.inv
        obtain ⟨A2, n2, c2, B2, m2, d2, C2, s2, t2, rfl, rfl, rfl⟩ := form3 ho2
        have HB2 := Lib.hid hb2
        have HO2 := Lib.hid ho2
        have nn2 := (HNODE1.out.below hwb2 HNB.out).cell0
        have aa2 := (HARR1.out.below hwb2 HYG.out).cell0
        have pp2 := hb2.cell1
        have pa2 := fun o => (hb2.alloc o).cell1
        have pb2 : ∀ o, (w2.alloc o).drew.cell? ⟨g, 1, none⟩ = some (.slice B2 m2 d2) := fun o => (hb2.alloc o).cell1
        have HOA2 : Hid (Own (w2.alloc (.cells #[.int .i64 hdv] 2)) g (.slice B2 m2 d2) r.2.1) := Lib.hid (ho2.heads.below (below_alloc _ _))
        have HRA2 : Hid (Rd (w2.alloc (.cells #[.int .i64 hdv] 2)) (some ⟨w2.heap.size, 0, none⟩) 1 [hdv]) := Lib.hid (rd_one _ _)
        have hszA2 : g ≤ (w2.alloc (.cells #[.int .i64 hdv] 2)).heap.size := by simp; omega
        have hll2 : r.2.1.length + 1 ≤ 1099511627776 := by omega
        clear hwb2 hb2 ho2
        unfold ptr at nn2
        go_cut [] from 32 to 43 (fun wd => Hid (Gs w1 wd g b0 (.slice (some ⟨pg, 0, none⟩) N pc) (.slice Ax (M ++ [y]).length cx) (M ++ [y]) (blocks L) (r.1, r.2.1 ++ [hdv], r.2.2)) ∧ g ≤ wd.heap.size)
        case first =>
          go_region_law (first | (refine step_append_rd rfl (.tmp 33) (.tmp 41) rfl g (.slice B2 m2 d2) r.2.1 [hdv] (by simp [Act.eval, Act.put]) HOA2.out (some ⟨w2.heap.size, 0, none⟩) 1 1 (by simp [Act.eval, Act.put]) HRA2.out hll2 hszA2 ?_; intro v1 w5 ho1 hg1 hat1; obtain ⟨Ax, nx, cx, hvx, _, _⟩ := ho1.form'; subst hvx; obtain ⟨hk1, hinv⟩ := Gs.push1 (r := r) HGS2.out HB2.out HO2.out he0 hgz2 ho1 (grown_alloc hg1) (by simpa using hat1); have dd := hk1.cell1; have ff := hk1.free 1; have hgw : g ≤ (w5.setCell ⟨g, 1, none⟩ (.slice Ax nx cx)).heap.size := Nat.le_trans hgz2 (Nat.le_trans (grown_alloc hg1).size (by simp)); clear ho1 hg1 hat1 hk1))
          all_goals (try go_wp2_with fail)
          all_goals go_meet
          all_goals exact ⟨hinv, hgw⟩
        case rest =>
        obtain ⟨hgs3, hgz3⟩ := hcut
        rename World => w3
        have HGS3 := Lib.hid hgs3.out
        obtain ⟨r3, hr3⟩ : ∃ r3 : Trip, r3 = (r.1, r.2.1 ++ [hdv], r.2.2) := ⟨_, rfl⟩
        rw [← hr3] at HGS3
        have HR3 := Lib.hid hr3
        have hn4 : r3.1.length ≤ 101 ∧ r3.2.1.length ≤ 101 ∧ r3.2.2.length ≤ 101 := by rw [hr3]; simp; omega
        clear hr3 hgs3 nn2 aa2 pp2 pa2 pb2 hszA2 hll2
        have hwb3 := HGS3.out.inv.2.2.2
        obtain ⟨⟨ub3, vb3, zb3, hb3, ho3⟩, _⟩ := HGS3.out.inv
        obtain ⟨A3, n3, c3, B3, m3, d3, C3, s3, t3, rfl, rfl, rfl⟩ := form3 ho3
        have HB3 := Lib.hid hb3
        have HO3 := Lib.hid ho3
        have nn3 := (HNODE1.out.below hwb3 HNB.out).cell0
        have aa3 := (HARR1.out.below hwb3 HYG.out).cell1
        have pp3 := hb3.cell2
        have pa3 := fun o => (hb3.alloc o).cell2
        have pb3 : ∀ o, (w3.alloc o).drew.cell? ⟨g, 2, none⟩ = some (.slice C3 s3 t3) := fun o => (hb3.alloc o).cell2
        have HOA3 : Hid (Own (w3.alloc (.cells #[.int .i64 sgv] 2)) g (.slice C3 s3 t3) r3.2.2) := Lib.hid (ho3.signs.below (below_alloc _ _))
        have HRA3 : Hid (Rd (w3.alloc (.cells #[.int .i64 sgv] 2)) (some ⟨w3.heap.size, 0, none⟩) 1 [sgv]) := Lib.hid (rd_one _ _)
        have hszA3 : g ≤ (w3.alloc (.cells #[.int .i64 sgv] 2)).heap.size := by simp; omega
        have hll3 : r3.2.2.length + 1 ≤ 1099511627776 := by omega
        clear hwb3 hb3 ho3
        unfold ptr at nn3
        go_upto_region 11 with fail
        go_cut [] from 44 to 55 (fun wd => Hid (Gs w1 wd g b0 (.slice (some ⟨pg, 0, none⟩) N pc) (.slice Ax (M ++ [y]).length cx) (M ++ [y]) (blocks L) (r3.1, r3.2.1, r3.2.2 ++ [sgv])) ∧ g ≤ wd.heap.size)
        case first =>
          go_region_law (first | (refine step_append_rd rfl (.tmp 45) (.tmp 53) rfl g (.slice C3 s3 t3) r3.2.2 [sgv] (by simp [Act.eval, Act.put]) HOA3.out (some ⟨w3.heap.size, 0, none⟩) 1 1 (by simp [Act.eval, Act.put]) HRA3.out hll3 hszA3 ?_; intro v1 w5 ho1 hg1 hat1; obtain ⟨Ax, nx, cx, hvx, _, _⟩ := ho1.form'; subst hvx; obtain ⟨hk1, hinv⟩ := Gs.push2 (r := r3) HGS3.out HB3.out HO3.out he0 hgz3 ho1 (grown_alloc hg1) (by simpa using hat1); have dd := hk1.cell2; have ff := hk1.free 2; have hgw : g ≤ (w5.setCell ⟨g, 2, none⟩ (.slice Ax nx cx)).heap.size := Nat.le_trans hgz3 (Nat.le_trans (grown_alloc hg1).size (by simp)); clear ho1 hg1 hat1 hk1))
          all_goals (try go_wp2_with fail)
          all_goals go_meet
          all_goals exact ⟨hinv, hgw⟩
        case rest =>
        obtain ⟨hgs4, hgz4⟩ := hcut
        rename World => w4
        have HGS4 := Lib.hid hgs4.out
        have e9 : (M ++ [y]).length = M.length + 1 := by simp
        rw [e9] at HGS4
        obtain ⟨r4, hr4⟩ : ∃ r4 : Trip, r4 = (r3.1, r3.2.1, r3.2.2 ++ [sgv]) := ⟨_, rfl⟩
        rw [← hr4] at HGS4
        have HR4 := Lib.hid hr4
        have hll4 : r4.1.length ≤ 1099511627776 := by rw [hr4]; simp; omega
        obtain ⟨⟨ub4, vb4, zb4, hb4, ho4⟩, _⟩ := HGS4.out.inv
        obtain ⟨A4, n4, c4, B4, m4, d4, C4, s4, t4, rfl, rfl, rfl⟩ := form3 ho4
        have HB4 := Lib.hid hb4
        have HO4 := Lib.hid ho4
        have pp4 := hb4.cell0
        clear hr4 hgs4 e9 hb4 ho4 nn3 aa3 pp3 pa3 pb3 hszA3 hll3
        go_wp2_with (at_builtin; refine push_int w4 rfl (.tmp 57) (.tmp 59) rfl g _ r4.1 (M.length : Int) rfl HO4.out.word rfl hll4 hgz4 ?_; intro v1 w5 ho1 hg1 hat1; obtain ⟨Ay, ny, cy, hvy, _, _⟩ := ho1.form'; subst hvy; obtain ⟨hk1, hinv⟩ := Gs.push0 (r := r4) HGS4.out HB4.out HO4.out he0 hgz4 ho1 hg1 hat1; have dd0 := hk1.cell0; have ff0 := hk1.free 0; clear ho1 hg1 hat1 hk1)
        go_roundg g2
        case rel =>
          have h9 := hinv
          rw [HR4.out, HR3.out] at h9
          exact ⟨k + 1, by omega, by go_num, by rw [HT.out.1, HT.out.2]; exact h9⟩
        case measure => omega
    · obtain rfl : k = N := by omega
      obtain ⟨⟨⟨ub, vb, zb, hb3, ho⟩, h0, hB, hw⟩, _, _⟩ := hgs.out
      have ht : (ofN X).take k = ofN X := List.take_of_length_le (by rw [ofN_length, HN.out]; exact Nat.le_refl _)
      have ho' : OwnG wr g ub vb zb (norm (ofN X)) ((met (ofN X)).map hd) ((met (ofN X)).map sg) := by
        have h9 := ho
        unfold gto at h9
        rwa [ht] at h9
      obtain ⟨A1, n1, c1, B1, m1, d1, C1, s1, t1, rfl, rfl, rfl⟩ := form3 ho'
      have y0 := hb3.cell0
      have y1 := hb3.cell1
      have y2 := hb3.cell2
      have q0 := h0.cell0
      have q1 := h0.cell1
      have q2 := h0.cell2
      have f0 := h0.free 0
      have f1 := h0.free 1
      have f2 := h0.free 2
      have H0 := Lib.hid h0
      have HO := Lib.hid (ho'.mono (by omega : b0 ≤ g))
      have HBZ := Lib.hid (HB12.out.trans ((HB1.out.mono (by omega : b0 ≤ g + 1)).trans (hw.mono (by omega : b0 ≤ g))))
      clear hb3 ho ho' h0 hB hw hgs ht
      go_wp2_with fail
      have e0 := H0.out.set0 (.slice A1 n1 c1)
      have e1 := e0.set1 (.slice B1 m1 d1)
      have e2 := e1.set2 (.slice C1 s1 t1)
      refine bodyPost_ret (v := .agg #[.slice A1 n1 c1, .slice B1 m1 d1, .slice C1 s1 t1]) ?_ ?_ ?_
      · exact results_cell_row Tryd.results36 _ _ b0 26 _ (0, 0) _ rfl e2 Tryd.underlying26 rfl size_gauss
      · rfl
      · exact ⟨_, _, _, rfl, ((HO.out.set_box H0.out).set_box e0).set_box e1, ((HBZ.out.setCell (p := ⟨b0, 0, none⟩) (Nat.le_refl _) _).setCell (p := ⟨b0, 1, none⟩) (Nat.le_refl _) _).setCell (p := ⟨b0, 2, none⟩) (Nat.le_refl _) _⟩
end Go.Proofs.YtiedekdghdgocaaDoor
