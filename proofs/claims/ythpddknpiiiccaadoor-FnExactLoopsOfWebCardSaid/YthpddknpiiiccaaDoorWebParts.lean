/- The model's parts of a web: leaders. -/
import Derived.Test.YthpddknpiiiccaaDoorWebSpec
import Derived.Deep.Cut
import Derived.Deep.CutRange
import Derived.Deep.LoopGhost
import Derived.Deep.RegionHeld3
namespace Go.Proofs.YthpddknpiiiccaaDoor
open Go.RowKit
set_option linter.unusedVariables false
set_option linter.unusedSimpArgs false
set_option maxRecDepth 100000

def ixs (k : Nat) : List Int := (List.range k).map fun i : Nat => (i : Int)
@[simp] theorem ixs_len (k : Nat) : (ixs k).length = k := by simp [ixs]
theorem ixs_snoc (k : Nat) : ixs (k + 1) = ixs k ++ [(k : Int)] := ixs_succ k
theorem own_form {w : World} {lo n : Nat} {e : TypeId} {v : Value} {xs : List Value} (h : w.ownsRow lo e 1 v n xs) : ∃ G cap, v = .slice G n cap ∧ (0 < n → ∃ g, G = some ⟨g, 0, none⟩ ∧ lo ≤ g ∧ g < w.heap.size) := by
  have hlt := World.ownsRow.lt h
  rcases h.2 with ⟨rfl, hn⟩ | ⟨g, cap, cur, rfl, hb, hg, hnc, hcm, hcs, htake⟩
  · exact ⟨none, 0, by rw [hn], fun h => by omega⟩
  · exact ⟨some ⟨g, 0, none⟩, cap, rfl, fun _ => ⟨g, rfl, hlt g rfl⟩⟩
theorem edges_len {xs : List Int} {rs : List (List Int)} (h : Slim rs) (i : Nat) : (edgesOf xs rs i).length ≤ 1048576 := by
  unfold edgesOf
  split
  · simp
  · exact h.at_ _
theorem ints_put (xs : List Int) (k : Nat) (x : Int) : (ints xs).set k (.int .i64 x) = ints (xs.set k x) := by simp [ints, List.map_set]
set_option maxHeartbeats 8000000 in
theorem parts_any (A : Option Addr) (n c : Nat) (B : Option Addr) (m d : Nat) (xs : List Int) (rs : List (List Int)) (w : World) (hr : RdWB w w.heap.size A n B m xs rs) (hnm : n + m ≤ 8) (hs : Slim rs) :
    Calls Tryd.prog 43 #[.agg #[.slice A n c, .slice B m d]] w fun e w' => ∃ v os, e = .returned v ∧ w'.ownsRow w.heap.size 3 1 v os.length (ints os) ∧ LeadsW xs rs os ∧ Same xs rs os ∧ Below w.heap.size w w' := by
  obtain ⟨N, hN⟩ : ∃ N, N = n + m := ⟨_, rfl⟩
  have HNI : Hid (items xs rs = N) := Lib.hid (by unfold items; rw [hr.1.1, hr.2.1, hN])
  have hNi : (n : Int) + (m : Int) = (N : Int) := by omega
  have hal := below_alloc w (.cells #[.slice A n c, .slice B m d] 29)
  have HR0 := Lib.hid hr
  have HSL := Lib.hid hs
  have HN := Lib.hid hN.symm
  obtain ⟨W, hW⟩ : ∃ W, W = w.alloc (.cells #[.slice A n c, .slice B m d] 29) := ⟨_, rfl⟩
  have HB0 : Hid (Below w.heap.size w W) := Lib.hid (by rw [hW]; exact hal)
  have HX0 : Hid (Box2 W w.heap.size 29 (.slice A n c) (.slice B m d)) := Lib.hid (by rw [hW]; exact box2_new _ _ _ _)
  have hsW : W.heap.size = w.heap.size + 1 := by rw [hW]; simp
  have HW := Lib.hid hW
  have hN8 : N ≤ 8 := by omega
  have hn1 : n ≤ 1048576 := by omega
  have hm1 : m ≤ 1048576 := by omega
  have HO0 : Hid ((W.alloc (.cells #[] 3)).ownsRow (w.heap.size + 1) 3 1 (.slice (some ⟨w.heap.size + 1, 0, none⟩) 0 0) (ixs 0).length (ints (ixs 0))) := Lib.hid (by
    have h := World.ownsRow_lit W #[] (e := 3) (size := 1) (base := w.heap.size + 1) 0 (by omega) (by decide) rfl
    rw [hsW] at h; exact h)
  have HBA : Hid (Below W.heap.size W (W.alloc (.cells #[] 3))) := Lib.hid (below_alloc _ _)
  clear hal hr hs hW hN
  go_enter Tryd.func43, Tryd.ntmps43
  go_wp2_with fail
  rw [← HW.out]
  go_loopw [4, 5] (fun v i wr => ∃ k : Nat, k ≤ N ∧ i = .int .i64 k ∧ Hid (wr.ownsRow (w.heap.size + 1) 3 1 v (ixs k).length (ints (ixs k))) ∧ Hid (Below W.heap.size W wr)) (fun _ i _ => N - (intOf i).toNat)
  case atStart => exact ⟨0, by omega, rfl, HO0, HBA⟩
  case round =>
    obtain ⟨k, hk, rfl, ho, hb⟩ := hrel
    clear HO0 HBA
    have hbx := HX0.out.below hb.out (by omega)
    have q1 := hbx.cell1
    have HBX := Lib.hid hbx
    have hszb := hb.out.size
    clear hbx
    by_cases hlt : k < N
    · have hkl : (ixs k).length ≤ 1099511627776 := by rw [ixs_len]; omega
      go_wp2_with (at_builtin; refine push_ix wr rfl (.tmp 23) (.tmp 25) rfl (w.heap.size + 1) u4 (ixs k) (k : Int) rfl ho.out rfl hkl (by omega) ?_; intro v1 w1 ho1 hg1 hat1; rw [← ixs_snoc] at ho1)
      go_roundw
      case rel => exact ⟨k + 1, by omega, by go_num, Lib.hid ho1, Lib.hid (hb.out.grown hg1 hszb (fun z hz => by have := (World.ownsRow.lt ho.out z hz).1; omega))⟩
      case measure => simp [intOf]; omega
    · obtain rfl : k = N := by omega
      obtain ⟨G, cap, hv, hG⟩ := own_form ho.out
      rw [ixs_len] at ho hG hv
      obtain ⟨ov, hov⟩ : ∃ ov, ov = u4 := ⟨_, rfl⟩
      subst hov
      subst hv
      have HG := Lib.hid hG
      have hL0 : LeadsW xs rs (ixs k) := by have h := leads_start xs rs; rw [HNI.out] at h; exact h
      obtain ⟨F, hF⟩ : ∃ F : Nat, totalW (ixs k) < F := ⟨(totalW (ixs k)).toNat + 1, by omega⟩
      have HL0 := Lib.hid hL0
      have HF := Lib.hid hF
      have HIX : Hid (ints (ixs k) = ints (ixs k)) := Lib.hid rfl
      obtain ⟨os0, hos0⟩ : ∃ os0, os0 = ixs k := ⟨_, rfl⟩
      rw [← hos0] at HL0 HF ho
      obtain ⟨W1, hW1⟩ : ∃ W1, W1 = wr := ⟨_, rfl⟩
      rw [← hW1] at ho hb
      have HO1 := ho
      have HB1 := hb
      have HBX1 := HBX
      clear hG hL0 hF hos0 HIX ho hb HBX
      go_wp2_with fail
      rw [← hW1]
      clear q1 hW1
      go_loopg [6] F (fun f t wx => ∃ os b, t = .bool b ∧ ((b = true ∧ Hid (LeadsW xs rs os) ∧ totalW os < f) ∨ (b = false ∧ Hid (LeadsW xs rs os ∧ Same xs rs os))) ∧ Hid (wx.ownsRow (w.heap.size + 1) 3 1 (.slice G k cap) k (ints os)) ∧ Hid (Below W.heap.size W wx))
      case atStart => exact ⟨os0, true, rfl, .inl ⟨rfl, HL0, HF.out⟩, HO1, HB1⟩
      case round =>
        obtain ⟨os1, b1, rfl, hst, how, hbw⟩ := hrel
        clear HL0 HF HO1 HB1
        rcases hst with ⟨rfl, hle, htot⟩ | ⟨rfl, hle⟩
        · have htn : 0 ≤ totalW os1 := totalW_nonneg (fun i hi => (hle.out.low i (by rw [← hle.out.len]; exact hi)).1)
          obtain ⟨f, rfl⟩ : ∃ f, gk = f + 1 := ⟨gk - 1, by omega⟩
          have HP0 : Hid (PassW xs rs os1 0 0 os1 false) := Lib.hid (PassW.start hle.out)
          have htf : totalW os1 < (f : Int) + 1 := by omega
          have HTF := Lib.hid htf
          clear hle htot htn htf
          go_wp2_with fail
          go_loopw [6, 7] (fun t i wx => ∃ os b a, t = .bool b ∧ i = .int .i64 (a : Nat) ∧ a ≤ k ∧ Hid (PassW xs rs os1 a 0 os b) ∧ Hid (wx.ownsRow (w.heap.size + 1) 3 1 (.slice G k cap) k (ints os)) ∧ Hid (Below W.heap.size W wx)) (fun _ i _ => k - (intOf i).toNat)
          case atStart => exact ⟨os1, false, 0, rfl, rfl, by omega, HP0, how, hbw⟩
          case round =>
            clear HP0 how hbw
            obtain ⟨os2, b2, a, rfl, rfl, hak, hp, how, hbw⟩ := hrel
            by_cases hal : a < k
            · go_wp2_with fail
              go_loopw [6, 8] (fun t i wx => ∃ os b q, t = .bool b ∧ i = .int .i64 (q : Nat) ∧ q ≤ a ∧ Hid (PassW xs rs os1 a q os b) ∧ Hid (wx.ownsRow (w.heap.size + 1) 3 1 (.slice G k cap) k (ints os)) ∧ Hid (Below W.heap.size W wx)) (fun _ i _ => a - (intOf i).toNat)
              case atStart => exact ⟨os2, b2, 0, rfl, rfl, by omega, hp, how, hbw⟩
              case round =>
                clear hp how hbw
                obtain ⟨os, b, q, rfl, rfl, hqa, hp, how, hbw⟩ := hrel
                by_cases hql : q < a
                · obtain ⟨g, rfl, hg1, hg2⟩ := HG.out (by omega)
                  obtain ⟨x, hx⟩ : ∃ x, x = os[a]?.getD 0 := ⟨_, rfl⟩
                  obtain ⟨y, hy⟩ : ∃ y, y = os[q]?.getD 0 := ⟨_, rfl⟩
                  have hlen := hp.out.leads.len
                  rw [HNI.out] at hlen
                  have hca : wr.cell? ⟨g, a, none⟩ = some (.int .i64 x) := by rw [how.out.cellAt a (by omega), ints_get?, hx, List.getElem?_eq_getElem (by omega)]; rfl
                  have hcq : wr.cell? ⟨g, q, none⟩ = some (.int .i64 y) := by rw [how.out.cellAt q (by omega), ints_get?, hy, List.getElem?_eq_getElem (by omega)]; rfl
                  have hgw : g < wr.heap.size := (World.ownsRow.lt how.out g rfl).2
                  have HXX := Lib.hid hx
                  have HYY := Lib.hid hy
                  have HLEN := Lib.hid hlen
                  clear hx hy hlen
                  by_cases hxy : x = y
                  · have e1 : (x == y) = true := by simpa using hxy
                    have HP1 : Hid (PassW xs rs os1 a (q + 1) os b) := Lib.hid (hp.out.next (fun _ => by rw [← HXX.out, ← HYY.out]; exact hxy))
                    clear hxy
                    go_wp2_with fail
                    go_quiet (fail)
                    go_wp2_with fail
                    go_roundw
                    case rel => exact ⟨os, b, q + 1, rfl, by go_num, by omega, HP1, Lib.hid how.out, Lib.hid (below_drewN hbw.out _)⟩
                    case measure => simp [intOf]; omega
                  · have e1 : (x == y) = false := by simpa using hxy
                    have HXY := Lib.hid hxy
                    clear hxy
                    have hBwr : Below w.heap.size w wr := HB0.out.trans (hbw.out.mono HB0.out.size)
                    have hszr := hBwr.size
                    have hbx := HX0.out.below hbw.out (by omega)
                    have HBXR := Lib.hid hbx
                    have hc0 := hbx.cell0
                    have hc1 := hbx.cell1
                    have HRW : Hid (RdWB wr w.heap.size A n B m xs rs) := Lib.hid (HR0.out.below hBwr)
                    have hwlt := hbx.lt
                    have ii1 : (0 : Int) ≤ (a : Int) := by omega
                    have ii2 : (a : Int) < (k : Int) := by omega
                    have ii3 : (0 : Int) ≤ (q : Int) := by omega
                    have ii4 : (q : Int) < (k : Int) := by omega
                    have hia : a < n + m := by rw [HN.out]; exact hal
                    have hiq : q < n + m := by rw [HN.out]; omega
                    have HEL : Hid (∀ i, (edgesOf xs rs i).length ≤ 1048576) := Lib.hid (fun i => edges_len HSL.out i)
                    have HK : Hid (∀ X, Fr 0 0 wr X → X.cell? ⟨g, a, none⟩ = some (.int .i64 x) ∧ X.cell? ⟨g, q, none⟩ = some (.int .i64 y) ∧ X.cell? ⟨w.heap.size, 0, none⟩ = some (.slice A n c) ∧ X.cell? ⟨w.heap.size, 1, none⟩ = some (.slice B m d) ∧ Hid (Fr 0 0 wr X)) := Lib.hid (fun X hX => ⟨by rw [(below_of_fr hX).cell (p := ⟨g, a, none⟩) hgw]; exact hca, by rw [(below_of_fr hX).cell (p := ⟨g, q, none⟩) hgw]; exact hcq, (HBXR.out.fr hX (by omega)).cell0, (HBXR.out.fr hX (by omega)).cell1, Lib.hid hX⟩)
                    clear hBwr hbx
                    rcases hmt : meets (edgesOf xs rs a) (edgesOf xs rs q) with _ | _
                    · have HM := Lib.hid hmt
                      clear hmt
                      go_upto_region 16 with fail
                      go_cut [57] from 351 (fun z wc => z = .bool true ∧ Hid (Fr 0 0 wr wc))
                      case first =>
                        go_region_held3 (fun X => X.cell? ⟨g, a, none⟩ = some (.int .i64 x) ∧ X.cell? ⟨g, q, none⟩ = some (.int .i64 y) ∧ X.cell? ⟨w.heap.size, 0, none⟩ = some (.slice A n c) ∧ X.cell? ⟨w.heap.size, 1, none⟩ = some (.slice B m d) ∧ Hid (Fr 0 0 wr X)) ((refine HK.out _ ?_; first | exact Hid.out (by assumption) | exact fr_drew _ | exact fr_trans (Hid.out (by assumption)) (fr_of_below (below_drewN (Below.refl _ _) _)))) (first | (go_at_call 60; obtain ⟨_, _, _, _, hbb⟩ := ‹_ ∧ _ ∧ _ ∧ _ ∧ Hid (Fr 0 0 wr _)›; with_reducible refine (edges_any A n c B m d xs rs a _ (RdWB.rd (RdWB.fr HRW.out hbb.out (by omega) (by omega)) (by have := hbb.out.size; omega)) hn1 hm1 hia).mono ?_; rintro e va ⟨Ca, la, fa, rfl, hre, hbe⟩; have hla : la ≤ 1048576 := (by have h1 := hre.len; have h2 := HEL.out a; omega); have HEa := Lib.hid hre; (first | (have HFq := Lib.hid (HEq.out.below hbe)) | skip); have HGa := Lib.hid (fr_trans hbb.out (fr_of_below hbe)); clear hre hbe hbb) | (go_at_call 60; obtain ⟨_, _, _, _, hbb⟩ := ‹_ ∧ _ ∧ _ ∧ _ ∧ Hid (Fr 0 0 wr _)›; with_reducible refine (edges_any A n c B m d xs rs q _ (RdWB.rd (RdWB.fr HRW.out hbb.out (by omega) (by omega)) (by have := hbb.out.size; omega)) hn1 hm1 hiq).mono ?_; rintro e vq ⟨Cq, lq, fq, rfl, hre, hbe⟩; have hlq : lq ≤ 1048576 := (by have h1 := hre.len; have h2 := HEL.out q; omega); have HEq := Lib.hid hre; (first | (have HFa := Lib.hid (HEa.out.below hbe)) | skip); have HGq := Lib.hid (fr_trans hbb.out (fr_of_below hbe)); clear hre hbe hbb) | (go_at_call 59; obtain ⟨_, _, _, _, hbb⟩ := ‹_ ∧ _ ∧ _ ∧ _ ∧ Hid (Fr 0 0 wr _)›; refine (joined_any _ _ _ _ _ _ (edgesOf xs rs a) (edgesOf xs rs q) _ (by first | exact HFa.out | exact HEa.out) (by first | exact HFq.out | exact HEq.out) hla hlq).mono ?_; rintro e vj ⟨rfl, jq, rfl⟩; rw [HM.out]; have HGJ := Lib.hid (fr_trans hbb.out (fr_of_below (below_drewN (Below.refl _ _) jq))); clear hbb))
                        all_goals (try go_wp2_with fail)
                        all_goals go_meet
                        all_goals exact ⟨rfl, HGJ⟩
                      case rest =>
                        obtain ⟨rfl, hfr⟩ := hcut
                        rename World => wc
                        have HFR := hfr
                        clear hfr hca hcq hc0 hc1
                        have HOW2 : Hid (wc.ownsRow (w.heap.size + 1) 3 1 (.slice (some ⟨g, 0, none⟩) k cap) k (ints os)) := Lib.hid (World.ownsRow.kept how.out (grown_of_below (below_of_fr HFR.out) none) (.inr (by simp [Value.ownBlock])))
                        have HBW2 : Hid (Below W.heap.size W wc) := Lib.hid (hbw.out.trans ((below_of_fr HFR.out).mono hbw.out.size))
                        have HP1 : Hid (PassW xs rs os1 a (q + 1) os b) := Lib.hid (hp.out.next (fun h => by rw [HM.out] at h; cases h))
                        go_wp2_with fail
                        go_roundw
                        case rel => exact ⟨os, b, q + 1, rfl, by go_num, by omega, HP1, HOW2, HBW2⟩
                        case measure => simp [intOf]; omega
                    · have HM := Lib.hid hmt
                      clear hmt
                      go_upto_region 16 with fail
                      go_cut [57] from 351 (fun z wc => z = .bool false ∧ Hid (Fr 0 0 wr wc))
                      case first =>
                        go_region_held3 (fun X => X.cell? ⟨g, a, none⟩ = some (.int .i64 x) ∧ X.cell? ⟨g, q, none⟩ = some (.int .i64 y) ∧ X.cell? ⟨w.heap.size, 0, none⟩ = some (.slice A n c) ∧ X.cell? ⟨w.heap.size, 1, none⟩ = some (.slice B m d) ∧ Hid (Fr 0 0 wr X)) ((refine HK.out _ ?_; first | exact Hid.out (by assumption) | exact fr_drew _ | exact fr_trans (Hid.out (by assumption)) (fr_of_below (below_drewN (Below.refl _ _) _)))) (first | (go_at_call 60; obtain ⟨_, _, _, _, hbb⟩ := ‹_ ∧ _ ∧ _ ∧ _ ∧ Hid (Fr 0 0 wr _)›; with_reducible refine (edges_any A n c B m d xs rs a _ (RdWB.rd (RdWB.fr HRW.out hbb.out (by omega) (by omega)) (by have := hbb.out.size; omega)) hn1 hm1 hia).mono ?_; rintro e va ⟨Ca, la, fa, rfl, hre, hbe⟩; have hla : la ≤ 1048576 := (by have h1 := hre.len; have h2 := HEL.out a; omega); have HEa := Lib.hid hre; (first | (have HFq := Lib.hid (HEq.out.below hbe)) | skip); have HGa := Lib.hid (fr_trans hbb.out (fr_of_below hbe)); clear hre hbe hbb) | (go_at_call 60; obtain ⟨_, _, _, _, hbb⟩ := ‹_ ∧ _ ∧ _ ∧ _ ∧ Hid (Fr 0 0 wr _)›; with_reducible refine (edges_any A n c B m d xs rs q _ (RdWB.rd (RdWB.fr HRW.out hbb.out (by omega) (by omega)) (by have := hbb.out.size; omega)) hn1 hm1 hiq).mono ?_; rintro e vq ⟨Cq, lq, fq, rfl, hre, hbe⟩; have hlq : lq ≤ 1048576 := (by have h1 := hre.len; have h2 := HEL.out q; omega); have HEq := Lib.hid hre; (first | (have HFa := Lib.hid (HEa.out.below hbe)) | skip); have HGq := Lib.hid (fr_trans hbb.out (fr_of_below hbe)); clear hre hbe hbb) | (go_at_call 59; obtain ⟨_, _, _, _, hbb⟩ := ‹_ ∧ _ ∧ _ ∧ _ ∧ Hid (Fr 0 0 wr _)›; refine (joined_any _ _ _ _ _ _ (edgesOf xs rs a) (edgesOf xs rs q) _ (by first | exact HFa.out | exact HEa.out) (by first | exact HFq.out | exact HEq.out) hla hlq).mono ?_; rintro e vj ⟨rfl, jq, rfl⟩; rw [HM.out]; have HGJ := Lib.hid (fr_trans hbb.out (fr_of_below (below_drewN (Below.refl _ _) jq))); clear hbb))
                        all_goals (try go_wp2_with fail)
                        all_goals go_meet
                        all_goals exact ⟨rfl, HGJ⟩
                      case rest =>
                        obtain ⟨rfl, hfr⟩ := hcut
                        rename World => wc
                        have HFR := hfr
                        clear hfr hca hcq hc0 hc1
                        have HOW2 : Hid (wc.ownsRow (w.heap.size + 1) 3 1 (.slice (some ⟨g, 0, none⟩) k cap) k (ints os)) := Lib.hid (World.ownsRow.kept how.out (grown_of_below (below_of_fr HFR.out) none) (.inr (by simp [Value.ownBlock])))
                        have HBW2 : Hid (Below W.heap.size W wc) := Lib.hid (hbw.out.trans ((below_of_fr HFR.out).mono hbw.out.size))
                        have hca : wc.cell? ⟨g, a, none⟩ = some (.int .i64 x) := by rw [HOW2.out.cellAt a (by omega), ints_get?, HXX.out, List.getElem?_eq_getElem (by rw [HLEN.out]; omega)]; rfl
                        have hcq : wc.cell? ⟨g, q, none⟩ = some (.int .i64 y) := by rw [HOW2.out.cellAt q (by omega), ints_get?, HYY.out, List.getElem?_eq_getElem (by rw [HLEN.out]; omega)]; rfl
                        obtain ⟨z, hz⟩ : ∃ z, z = min x y := ⟨_, rfl⟩
                        have HP2 : Hid (PassW xs rs os1 a (q + 1) ((os.set a z).set q z) true) := Lib.hid (hp.out.join (by rw [HNI.out]; exact hal) hql HM.out (by rw [← HXX.out, ← HYY.out]; exact HXY.out) (by rw [← HXX.out, ← HYY.out]; exact hz))
                        have hz1 : x < y → x = z := fun h => by omega
                        have hz2 : ¬ x < y → y = z := fun h => by omega
                        have HZ1 := Lib.hid hz1
                        have HZ2 := Lib.hid hz2
                        have hgle : W.heap.size ≤ g := by omega
                        have ii1 : (0 : Int) ≤ (a : Int) := by omega
                        have ii2 : (a : Int) < (k : Int) := by omega
                        have ii3 : (0 : Int) ≤ (q : Int) := by omega
                        have ii4 : (q : Int) < (k : Int) := by omega
                        clear hz hz1 hz2
                        go_upto_region 17 with fail
                        go_cut [9] from 351 (fun v wd => v = .int .i64 z ∧ Hid (Fr 0 0 wc wd))
                        case first =>
                          by_cases hxy : x < y
                          · have e9 := HZ1.out hxy
                            go_region
                            all_goals (try go_wp2_with fail)
                            all_goals go_meet
                            all_goals (first | exact ⟨by first | rfl | rw [e9] | exact congrArg _ (by omega), Lib.hid (fr_of_below (Below.refl _ _))⟩ | exact ⟨by first | rfl | rw [e9] | exact congrArg _ (by omega), Lib.hid (fr_drew _)⟩ | exact ⟨by first | rfl | rw [e9] | exact congrArg _ (by omega), Lib.hid (fr_of_below (below_drewN (Below.refl _ _) _))⟩)
                          · have e9 := HZ2.out hxy
                            go_region
                            all_goals (try go_wp2_with fail)
                            all_goals go_meet
                            all_goals (first | exact ⟨by first | rfl | rw [e9] | exact congrArg _ (by omega), Lib.hid (fr_of_below (Below.refl _ _))⟩ | exact ⟨by first | rfl | rw [e9] | exact congrArg _ (by omega), Lib.hid (fr_drew _)⟩ | exact ⟨by first | rfl | rw [e9] | exact congrArg _ (by omega), Lib.hid (fr_of_below (below_drewN (Below.refl _ _) _))⟩)
                        case rest =>
                          obtain ⟨rfl, hfr⟩ := hcut
                          rename World => wd
                          have HFR2 := hfr
                          clear hfr hca hcq
                          have how3 := World.ownsRow.kept HOW2.out (grown_of_below (below_of_fr HFR2.out) none) (.inr (by simp [Value.ownBlock]))
                          have hbw3 := HBW2.out.trans ((below_of_fr HFR2.out).mono HBW2.out.size)
                          have hst1 := how3.stored a (.int .i64 z)
                          rw [ints_put] at hst1
                          have hst2 := hst1.1.stored q (.int .i64 z)
                          rw [ints_put] at hst2
                          have hf1 := how3.frozenAt a
                          have hf2 := hst1.1.frozenAt q
                          obtain ⟨u1, hu1⟩ : ∃ u, wd.cell? ⟨g, a, none⟩ = some u := by
                            rw [how3.cellAt a (by omega), ints_get?, List.getElem?_eq_getElem (by rw [HLEN.out]; omega)]; exact ⟨_, rfl⟩
                          obtain ⟨u2, hu2⟩ : ∃ u, (wd.setCell ⟨g, a, none⟩ (.int .i64 z)).cell? ⟨g, q, none⟩ = some u := by
                            rw [hst1.1.cellAt q (by omega), ints_get?, List.getElem?_eq_getElem (by rw [List.length_set, HLEN.out]; omega)]; exact ⟨_, rfl⟩
                          have HST2 := Lib.hid hst2.1
                          have HBW4 : Hid (Below W.heap.size W ((wd.setCell ⟨g, a, none⟩ (.int .i64 z)).setCell ⟨g, q, none⟩ (.int .i64 z))) := Lib.hid ((hbw3.setCell (p := ⟨g, a, none⟩) hgle _).setCell (p := ⟨g, q, none⟩) hgle _)
                          clear hst1 hst2 how3 hbw3
                          go_wp2_with fail
                          go_roundw
                          case rel => exact ⟨_, true, q + 1, rfl, by go_num, by omega, HP2, HST2, HBW4⟩
                          case measure => simp [intOf]; omega
                · obtain rfl : q = a := by omega
                  have HP1 : Hid (PassW xs rs os1 (q + 1) 0 os b) := Lib.hid hp.out.row
                  go_wp2_with fail
                  go_roundw
                  case rel => exact ⟨os, b, q + 1, rfl, by go_num, by omega, HP1, how, hbw⟩
                  case measure => simp [intOf]; omega
            · obtain rfl : a = k := by omega
              have hd := (PassW.done (by rw [HNI.out]; exact hp.out) : _)
              have HD := Lib.hid hd
              have HLE : Hid (LeadsW xs rs os2) := Lib.hid hp.out.leads
              clear hd hp
              go_wp2_with fail
              go_roundg f
              case rel => exact ⟨os2, b2, rfl, by
                rcases HD.out with ⟨e, h3⟩ | ⟨e, h3⟩
                · exact .inr ⟨e, Lib.hid ⟨HLE.out, h3⟩⟩
                · exact .inl ⟨e, HLE, by have := HTF.out; omega⟩, how, hbw⟩
              case measure => omega
        · go_wp2_with fail
          go_ret
          have hl := hle.out.1.len
          rw [HNI.out] at hl
          exact ⟨_, os1, rfl, by rw [hl]; exact ownsRow_mono (lo := w.heap.size + 1) how.out (by omega), hle.out.1, hle.out.2, HB0.out.trans (hbw.out.mono HB0.out.size)⟩
end Go.Proofs.YthpddknpiiiccaaDoor
