/- LoopsOfWeb: the model's and the program's answer. -/
import Derived.Test.YthpddknpiiiccaaDoorWebNum
import Derived.Deep.RegionHeld3
namespace Go.Proofs.YthpddknpiiiccaaDoor
open Go.RowKit
set_option linter.unusedVariables false
set_option linter.unusedSimpArgs false
set_option maxRecDepth 100000

open Classical in
noncomputable def loopsOfWeb (xs : List Int) (rs : List (List Int)) : Int × Int := if webB xs rs then (((((places xs rs).length / 2 : Nat) : Int) - ((items xs rs : Nat) : Int) + (numParts xs rs : Int)), 0) else (0, 1)
theorem loops_yes {xs : List Int} {rs : List (List Int)} (h : webB xs rs = true) : loopsOfWeb xs rs = (((((places xs rs).length / 2 : Nat) : Int) - ((items xs rs : Nat) : Int) + (numParts xs rs : Int)), 0) := by unfold loopsOfWeb; rw [if_pos h]
theorem loops_no {xs : List Int} {rs : List (List Int)} (h : webB xs rs = false) : loopsOfWeb xs rs = (0, 1) := by unfold loopsOfWeb; rw [if_neg (by rw [h]; simp)]
theorem loop_val (n m q : Nat) (hnm : n + m ≤ 8) (hq : q ≤ 8) : IntKind.i64.wrap (IntKind.i64.wrap (((n : Int) + 3 * (m : Int)) / 2 - IntKind.i64.wrap ((n : Int) + (m : Int))) + (q : Int)) = (((n + 3 * m) / 2 : Nat) : Int) - ((n + m : Nat) : Int) + (q : Int) := by
  have a : IntKind.i64.wrap ((n : Int) + (m : Int)) = (n : Int) + (m : Int) := by rw [IntKind.wrap_i64]; omega
  rw [a]
  have b : IntKind.i64.wrap (((n : Int) + 3 * (m : Int)) / 2 - ((n : Int) + (m : Int))) = ((n : Int) + 3 * (m : Int)) / 2 - ((n : Int) + (m : Int)) := by rw [IntKind.wrap_i64]; omega
  rw [b]
  have c : IntKind.i64.wrap (((n : Int) + 3 * (m : Int)) / 2 - ((n : Int) + (m : Int)) + (q : Int)) = ((n : Int) + 3 * (m : Int)) / 2 - ((n : Int) + (m : Int)) + (q : Int) := by rw [IntKind.wrap_i64]; omega
  rw [c]; omega
theorem numParts_le (xs : List Int) (rs : List (List Int)) : numParts xs rs ≤ items xs rs := by
  unfold numParts leadsL
  rw [List.length_map]
  exact Nat.le_trans (List.length_filter_le _ _) (by rw [List.length_range, (minL_leads xs rs).len]; exact Nat.le_refl _)
theorem itemNum_any (A : Option Addr) (n c : Nat) (B : Option Addr) (m d : Nat) (w : World) (hn : n ≤ 1000000) (hm : m ≤ 1000000) :
    Calls Tryd.prog 49 #[.agg #[.slice A n c, .slice B m d]] w fun e w' => e = .returned (.int .i64 ((n + m : Nat) : Int)) ∧ Below w.heap.size w w' := by
  have hal := below_alloc w (.cells #[.slice A n c, .slice B m d] 49)
  obtain ⟨W, hW⟩ : ∃ W, W = w.alloc (.cells #[.slice A n c, .slice B m d] 49) := ⟨_, rfl⟩
  have hX : Box2 W w.heap.size 49 (.slice A n c) (.slice B m d) := by rw [hW]; exact box2_new _ _ _ _
  have HB : Hid (Below w.heap.size w W) := Lib.hid (by rw [hW]; exact hal)
  have HW := Lib.hid hW
  have q0 := hX.cell0
  have q1 := hX.cell1
  clear hal hW hX
  go_enter Tryd.func49, Tryd.ntmps49
  go_upto_region 1 with fail
  rw [← HW.out]
  go_wp2_with fail
  go_ret
  exact ⟨by first | rfl | (refine congrArg (fun z => Ending.returned (.int .i64 z)) ?_; omega), HB.out⟩

set_option maxHeartbeats 4000000 in
theorem clLoopsOfWeb_any (A : Option Addr) (n c : Nat) (B : Option Addr) (m d : Nat) (xs : List Int) (rs : List (List Int)) (w : World) (hx : Rd w A n xs) (hr : RdF w w.heap.size B m rs) (hn : n ≤ 8) (hm : m ≤ 8) (hw : webB xs rs = true) :
    Calls Tryd.prog 30 #[.agg #[.slice A n c, .slice B m d]] w fun e w' => e = .returned (.int .i64 ((((places xs rs).length / 2 : Nat) : Int) - ((items xs rs : Nat) : Int) + (numParts xs rs : Int))) ∧ Below w.heap.size w w' := by
  have hal := below_alloc w (.cells #[.slice A n c, .slice B m d] 49)
  obtain ⟨W, hW⟩ : ∃ W, W = w.alloc (.cells #[.slice A n c, .slice B m d] 49) := ⟨_, rfl⟩
  have hX : Box2 W w.heap.size 49 (.slice A n c) (.slice B m d) := by rw [hW]; exact box2_new _ _ _ _
  have hsW : w.heap.size < W.heap.size := by rw [hW]; simp
  have HB : Hid (Below w.heap.size w W) := Lib.hid (by rw [hW]; exact hal)
  have HRX : Hid (Rd W A n xs) := Lib.hid (hx.below HB.out)
  have HRF : Hid (RdF W W.heap.size B m rs) := Lib.hid ((hr.below HB.out).mono HB.out.size)
  have HLN := Lib.hid hx.len
  have HW := Lib.hid hW
  have hF := webB_facts2 hw
  have hpl : (places xs rs).length ≤ 40 := by rw [places_len hF.2.1, hx.len, hr.1]; omega
  have hit : items xs rs = n + m := by unfold items; rw [hx.len, hr.1]
  rw [hit]
  obtain ⟨L, hL⟩ : ∃ L, L = (places xs rs).length / 2 := ⟨_, rfl⟩
  have hL1 : L ≤ 20 := by omega
  rw [← hL]
  have HL := Lib.hid hL
  obtain ⟨q, hq⟩ : ∃ q, q = numParts xs rs := ⟨_, rfl⟩
  have hq8 : q ≤ 16 := by rw [hq]; exact Nat.le_trans (numParts_le xs rs) (by rw [hit]; omega)
  rw [← hq]
  have HQ := Lib.hid hq
  have HF := Lib.hid hF
  have HX := Lib.hid hX
  have HK : Hid (∀ X, Fr 0 0 W X → X.cell? ⟨w.heap.size, 0, none⟩ = some (.slice A n c) ∧ X.cell? ⟨w.heap.size, 1, none⟩ = some (.slice B m d) ∧ Hid (Fr 0 0 W X)) := Lib.hid (fun X hX => ⟨(HX.out.fr hX (by omega)).cell0, (HX.out.fr hX (by omega)).cell1, Lib.hid hX⟩)
  have HKR : Hid (∀ X, Fr 0 0 W X → Rd X A n xs ∧ RdF X X.heap.size B m rs) := Lib.hid (fun X hX => ⟨HRX.out.below (below_of_fr hX), (HRF.out.below (below_of_fr hX)).mono (below_of_fr hX).size⟩)
  have hn3 : n ≤ 1000 := by omega
  have hm3 : m ≤ 1000 := by omega
  have hn6 : n ≤ 1000000 := by omega
  have hm6 : m ≤ 1000000 := by omega
  clear hal hW hX hx hr hw hF hpl hit hL hq
  go_enter Tryd.func30, Tryd.ntmps30
  go_upto_region 1 with fail
  rw [← HW.out]
  go_region_held3 (fun X => X.cell? ⟨w.heap.size, 0, none⟩ = some (.slice A n c) ∧ X.cell? ⟨w.heap.size, 1, none⟩ = some (.slice B m d) ∧ Hid (Fr 0 0 W X)) ((refine HK.out _ ?_; first | exact Hid.out (by assumption) | exact fr_drew _ | exact fr_trans (Hid.out (by assumption)) (fr_of_below (below_drewN (Below.refl _ _) _)))) (first | (go_at_call 48; obtain ⟨_, _, hbb⟩ := ‹_ ∧ _ ∧ Hid (Fr 0 0 W _)›; with_reducible refine (edgeCount_any A n c B m d xs rs _ (HKR.out _ hbb.out).1 (HKR.out _ hbb.out).2 hn3 hm3).mono ?_; rintro e ve ⟨rfl, hbe⟩; rw [← HL.out]; have HGe := Lib.hid (fr_trans hbb.out (fr_of_below hbe)); clear hbe hbb) | (go_at_call 49; obtain ⟨_, _, hbb⟩ := ‹_ ∧ _ ∧ Hid (Fr 0 0 W _)›; with_reducible refine (itemNum_any A n c B m d _ hn6 hm6).mono ?_; rintro e vi ⟨rfl, hbe⟩; have HGi := Lib.hid (fr_trans hbb.out (fr_of_below hbe)); clear hbe hbb) | (go_at_call 27; obtain ⟨_, _, hbb⟩ := ‹_ ∧ _ ∧ Hid (Fr 0 0 W _)›; with_reducible refine (partsWithLegs_any A n c B m d xs rs _ (HKR.out _ hbb.out).1 (HKR.out _ hbb.out).2 hn3 hm3).mono ?_; rintro e va ⟨u9, vs9, ps, rfl, hov, hpo, hpn, hpm, hbe⟩; obtain ⟨G, cG, rfl, _⟩ := hov.form; have hnum : ps.length = q := ((num_parts HF.out.2.2.2 (by rw [HLN.out]; exact hpo)).trans HQ.out.symm); rw [hnum]; have HGa := Lib.hid (fr_trans hbb.out (fr_of_below hbe)); clear hnum hov hpo hpm hpn hbe hbb))
  all_goals (try go_wp2_with fail)
  all_goals go_ret
  all_goals exact ⟨by first | rfl | (refine congrArg (fun z => Ending.returned (.int .i64 z)) ?_; (try simp only [IntKind.wrap_i64]); omega), HB.out.trans ((below_of_fr (Hid.out (by assumption))).mono HB.out.size)⟩
set_option maxHeartbeats 1600000 in
theorem specLoopsOfWeb_any (A : Option Addr) (n c : Nat) (B : Option Addr) (m d : Nat) (xs : List Int) (rs : List (List Int)) (w : World) (hr : RdWB w w.heap.size A n B m xs rs) (hw : WfW xs rs) (hs : FewW xs rs) :
    Told 11 #[.agg #[.slice A n c, .slice B m d]] w (.tuple #[.int .i64 (loopsOfWeb xs rs).1, .int .i64 (loopsOfWeb xs rs).2]) := by
  have hal := below_alloc w (.cells #[.slice A n c, .slice B m d] 29)
  obtain ⟨W, hW⟩ : ∃ W, W = w.alloc (.cells #[.slice A n c, .slice B m d] 29) := ⟨_, rfl⟩
  have HX : Hid (Box2 W w.heap.size 29 (.slice A n c) (.slice B m d)) := Lib.hid (by rw [hW]; exact box2_new _ _ _ _)
  have HB : Hid (Below w.heap.size w W) := Lib.hid (by rw [hW]; exact hal)
  have HRW : Hid (RdWB W W.heap.size A n B m xs rs) := Lib.hid ((hr.below HB.out).rd HB.out.size)
  have HIT : Hid (items xs rs = n + m) := Lib.hid (by unfold items; rw [hr.1.1, hr.2.1])
  have hn1 : n ≤ 1048576 := by have := hs.1; have := hr.1.1; omega
  have hm1 : m ≤ 1048576 := by have := hs.2.1.1; have := hr.2.1; omega
  have HLX := Lib.hid hr.1.1
  have HLR := Lib.hid hr.2.1
  have HW := Lib.hid hW
  have hsz : W.heap.size = w.heap.size + 1 := by rw [hW]; simp
  have q0 := HX.out.cell0
  have q1 := HX.out.cell1
  clear hal hW hr
  unfold Told
  rcases hB : webB xs rs with _ | _
  · rw [loops_no hB]
    have HNO := Lib.hid hB
    clear hB
    go_enter Tryd.func11, Tryd.ntmps11
    go_upto_region 1 with fail
    rw [← HW.out]
    go_wp2_with fail
    refine (specWeb_any _ _ _ _ _ _ xs rs _ HRW.out hs).mono ?_
    rintro e w1 ⟨rfl, hb⟩
    rw [HNO.out]
    go_wp2_with fail
    go_ret2
    exact ⟨rfl, HB.out.trans (hb.mono HB.out.size)⟩
  · rw [loops_yes hB]
    have HYES := Lib.hid hB
    clear hB
    have HF := webB_facts2 HYES.out
    have hnm : n + m ≤ 8 := by rw [← HIT.out]; exact HF.1
    have hval : ((((places xs rs).length / 2 : Nat) : Int) - ((items xs rs : Nat) : Int)) = ((((n + 3 * m) / 2 : Nat) : Int) - ((n + m : Nat) : Int)) := by rw [places_len HF.2.1, HIT.out, HLX.out, HLR.out]
    rw [hval]
    obtain ⟨q, hq⟩ : ∃ q, q = numParts xs rs := ⟨_, rfl⟩
    have hq8 : q ≤ 8 := by rw [hq]; exact Nat.le_trans (numParts_le xs rs) (by rw [HIT.out]; exact hnm)
    have HQ := Lib.hid hq
    rw [← hq]
    clear hval hq HF
    go_enter Tryd.func11, Tryd.ntmps11
    go_upto_region 1 with fail
    rw [← HW.out]
    go_wp2_with fail
    refine (specWeb_any _ _ _ _ _ _ xs rs _ HRW.out hs).mono ?_
    rintro e w1 ⟨rfl, hb⟩
    rw [HYES.out]
    have hX1 := HX.out.below hb (by omega)
    have HX1 := Lib.hid hX1
    have HRW2 : Hid (RdWB w1 w1.heap.size A n B m xs rs) := Lib.hid ((HRW.out.below hb).rd hb.size)
    have HBZ := Lib.hid (HB.out.trans (hb.mono HB.out.size))
    have hsl := hs.2.1
    have hsz1 := hb.size
    have c0 := hX1.cell0
    have c1 := hX1.cell1
    have HK : Hid (∀ X, Fr 0 0 w1 X → X.cell? ⟨w.heap.size, 0, none⟩ = some (.slice A n c) ∧ X.cell? ⟨w.heap.size, 1, none⟩ = some (.slice B m d) ∧ Hid (Fr 0 0 w1 X)) := Lib.hid (fun X hX => ⟨(HX1.out.fr hX (by omega)).cell0, (HX1.out.fr hX (by omega)).cell1, Lib.hid hX⟩)
    clear q0 q1 hb hX1
    go_upto_region 4 with fail
    clear c0 c1
    go_region_held3 (fun X => X.cell? ⟨w.heap.size, 0, none⟩ = some (.slice A n c) ∧ X.cell? ⟨w.heap.size, 1, none⟩ = some (.slice B m d) ∧ Hid (Fr 0 0 w1 X)) ((refine HK.out _ ?_; first | exact Hid.out (by assumption) | exact fr_drew _)) (first | (go_at_call 22; obtain ⟨_, _, hbb⟩ := ‹_ ∧ _ ∧ Hid (Fr 0 0 w1 _)›; with_reducible refine (l06Count_any A n c B m d xs rs _ (RdWB.rd (RdWB.fr HRW2.out hbb.out (by omega) (by omega)) (by have := hbb.out.size; omega)) hsl hnm).mono ?_; rintro e v2 ⟨rfl, hfy⟩; rw [← HQ.out]; have HFZ := Lib.hid (fr_trans hbb.out (fr_of_below hfy)); clear hfy hbb))
    all_goals (try go_wp2_with fail)
    all_goals go_ret2
    all_goals exact ⟨congrArg (fun z => Ending.returned (.tuple #[.int .i64 z, .int .i64 0])) (loop_val n m q hnm hq8), HBZ.out.trans ((below_of_fr HFZ.out).mono HBZ.out.size)⟩
/-- a number of a web, by a counting function -/
theorem countNoLoopsOfWeb_any (F : FuncId) (num : Nat → Nat → Nat) (A : Option Addr) (n c : Nat) (B : Option Addr) (m d : Nat) (xs : List Int) (rs : List (List Int)) (ea : Option Addr) (w : World) (hr : RdWB w w.heap.size A n B m xs rs) (hw : WfW xs rs) (hs : FewW xs rs) (hg : w.cell? ⟨0, 0, none⟩ = some (.iface 87 (.pointer ea))) (hw0 : 0 < w.heap.size) :
    webB xs rs = false → Calls Tryd.prog 25 #[.agg #[.slice A n c, .slice B m d], .func (.func F) #[] #[]] w fun e w' => e = .returned (.tuple #[.int .i64 0, .int .i64 1]) ∧ Below w.heap.size w w' := by
  intro hB
  have hal := below_alloc w (.cells #[.slice A n c, .slice B m d] 29)
  obtain ⟨W, hW⟩ : ∃ W, W = w.alloc (.cells #[.slice A n c, .slice B m d] 29) := ⟨_, rfl⟩
  have HX : Hid (Box2 W w.heap.size 29 (.slice A n c) (.slice B m d)) := Lib.hid (by rw [hW]; exact box2_new _ _ _ _)
  have HB : Hid (Below w.heap.size w W) := Lib.hid (by rw [hW]; exact hal)
  have HRW : Hid (RdWB W W.heap.size A n B m xs rs) := Lib.hid ((hr.below HB.out).rd HB.out.size)
  have HG : Hid (W.cell? ⟨0, 0, none⟩ = some (.iface 87 (.pointer ea))) := Lib.hid ((HB.out.cell (p := ⟨0, 0, none⟩) hw0).trans hg)
  have HW := Lib.hid hW
  have hsz : W.heap.size = w.heap.size + 1 := by rw [hW]; simp
  have q0 := HX.out.cell0
  have q1 := HX.out.cell1
  have HNO := Lib.hid hB
  clear hal hW hr hg hB
  go_enter Tryd.func25, Tryd.ntmps25
  go_upto_region 1 with fail
  rw [← HW.out]
  go_wp2_with fail
  refine (openWeb_any _ _ _ _ _ _ xs rs ea _ HRW.out hs hw HG.out (by omega)).mono ?_
  rintro e w1 ⟨⟨_, hno⟩, hb⟩
  obtain rfl := hno HNO.out
  have HB1 : Hid (Below w.heap.size w (w1.alloc (.cells #[.slice none 0 0, .slice none 0 0] 49))) := Lib.hid ((HB.out.trans (hb.mono HB.out.size)).trans ((below_alloc _ _).mono (by have := hb.size; omega)))
  clear q0 q1 hb
  go_wp2_with fail
  go_ret2
  exact ⟨rfl, HB1.out⟩
set_option maxHeartbeats 1600000 in
theorem countLoopsOfWeb_any (A : Option Addr) (n c : Nat) (B : Option Addr) (m d : Nat) (xs : List Int) (rs : List (List Int)) (ea : Option Addr) (w : World) (hr : RdWB w w.heap.size A n B m xs rs) (hw : WfW xs rs) (hs : FewW xs rs) (hg : w.cell? ⟨0, 0, none⟩ = some (.iface 87 (.pointer ea))) (hw0 : 0 < w.heap.size) (hB : webB xs rs = true) :
    Calls Tryd.prog 25 #[.agg #[.slice A n c, .slice B m d], .func (.func 30) #[] #[]] w fun e w' => e = .returned (.tuple #[.int .i64 ((((places xs rs).length / 2 : Nat) : Int) - ((items xs rs : Nat) : Int) + (numParts xs rs : Int)), .int .i64 0]) ∧ Below w.heap.size w w' := by
  have hal := below_alloc w (.cells #[.slice A n c, .slice B m d] 29)
  obtain ⟨W, hW⟩ : ∃ W, W = w.alloc (.cells #[.slice A n c, .slice B m d] 29) := ⟨_, rfl⟩
  have HX : Hid (Box2 W w.heap.size 29 (.slice A n c) (.slice B m d)) := Lib.hid (by rw [hW]; exact box2_new _ _ _ _)
  have HB : Hid (Below w.heap.size w W) := Lib.hid (by rw [hW]; exact hal)
  have HRW : Hid (RdWB W W.heap.size A n B m xs rs) := Lib.hid ((hr.below HB.out).rd HB.out.size)
  have HG : Hid (W.cell? ⟨0, 0, none⟩ = some (.iface 87 (.pointer ea))) := Lib.hid ((HB.out.cell (p := ⟨0, 0, none⟩) hw0).trans hg)
  have hn1 : xs.length ≤ 8 := by
    have := hs.1
    by_cases h8 : 8 < items xs rs
    · rw [webB_big h8] at hB; cases hB
    · unfold items at h8; omega
  have hm1 : rs.length ≤ 8 := by
    by_cases h8 : 8 < items xs rs
    · rw [webB_big h8] at hB; cases hB
    · unfold items at h8; omega
  have HW := Lib.hid hW
  have hsz : W.heap.size = w.heap.size + 1 := by rw [hW]; simp
  have q0 := HX.out.cell0
  have q1 := HX.out.cell1
  have HYES := Lib.hid hB
  clear hal hW hr hg hB
  obtain ⟨k, hk⟩ : ∃ k : Int, k = ((((places xs rs).length / 2 : Nat) : Int) - ((items xs rs : Nat) : Int) + (numParts xs rs : Int)) := ⟨_, rfl⟩
  rw [← hk]
  have HK := Lib.hid hk
  clear hk
  go_enter Tryd.func25, Tryd.ntmps25
  go_upto_region 1 with fail
  rw [← HW.out]
  go_wp2_with fail
  refine (openWeb_any _ _ _ _ _ _ xs rs ea _ HRW.out hs hw HG.out (by omega)).mono ?_
  rintro e w1 ⟨⟨hyes, _⟩, hb⟩
  obtain ⟨u, v, rfl, hoi⟩ := hyes HYES.out
  obtain ⟨Au, cu, rfl, hru⟩ := hoi.legs.form
  obtain ⟨Av, cv, rfl, _⟩ := hoi.forks.form
  have hrf := hoi.forks.rdf
  obtain ⟨V, hV⟩ : ∃ V, V = w1.alloc (.cells #[.slice Au xs.length cu, .slice Av rs.length cv] 49) := ⟨_, rfl⟩
  have HB1 : Hid (Below w.heap.size w V) := Lib.hid (by rw [hV]; exact (HB.out.trans (hb.mono HB.out.size)).trans ((below_alloc _ _).mono (by have := hb.size; omega)))
  have hXV : Box2 V w1.heap.size 49 (.slice Au xs.length cu) (.slice Av rs.length cv) := by rw [hV]; exact box2_new _ _ _ _
  have HRU : Hid (Rd V Au xs.length xs) := Lib.hid (by rw [hV]; exact hru.below (below_alloc _ _))
  have HRF : Hid (RdF V V.heap.size Av rs.length rs) := Lib.hid (by rw [hV]; exact (hrf.below (below_alloc _ _)).mono (below_alloc _ _).size)
  have r0 := hXV.cell0
  have r1 := hXV.cell1
  have HV := Lib.hid hV
  clear q0 q1 hb hoi hV hXV hru hrf
  go_upto_region 2 with fail
  rw [← HV.out]
  go_wp2_with (go_at_call 30; refine (clLoopsOfWeb_any _ _ _ _ _ _ xs rs _ HRU.out HRF.out hn1 hm1 HYES.out).mono ?_; rintro e w3 ⟨rfl, hb3⟩; rw [← HK.out]; have HB3 := Lib.hid (HB1.out.trans (hb3.mono HB1.out.size)); clear hb3)
  go_ret2
  exact ⟨rfl, HB3.out⟩
set_option maxHeartbeats 1600000 in
theorem implLoopsOfWeb_any (A : Option Addr) (n c : Nat) (B : Option Addr) (m d : Nat) (xs : List Int) (rs : List (List Int)) (ea : Option Addr) (w : World) (hr : RdWB w w.heap.size A n B m xs rs) (hw : WfW xs rs) (hs : FewW xs rs) (hg : w.cell? ⟨0, 0, none⟩ = some (.iface 87 (.pointer ea))) (hw0 : 0 < w.heap.size) :
    Told 12 #[.agg #[.slice A n c, .slice B m d]] w (.tuple #[.int .i64 (loopsOfWeb xs rs).1, .int .i64 (loopsOfWeb xs rs).2]) := by
  have hal := below_alloc w (.cells #[.slice A n c, .slice B m d] 29)
  obtain ⟨W, hW⟩ : ∃ W, W = w.alloc (.cells #[.slice A n c, .slice B m d] 29) := ⟨_, rfl⟩
  have HX : Hid (Box2 W w.heap.size 29 (.slice A n c) (.slice B m d)) := Lib.hid (by rw [hW]; exact box2_new _ _ _ _)
  have HB : Hid (Below w.heap.size w W) := Lib.hid (by rw [hW]; exact hal)
  have HRW : Hid (RdWB W W.heap.size A n B m xs rs) := Lib.hid ((hr.below HB.out).rd HB.out.size)
  have HG : Hid (W.cell? ⟨0, 0, none⟩ = some (.iface 87 (.pointer ea))) := Lib.hid ((HB.out.cell (p := ⟨0, 0, none⟩) hw0).trans hg)
  have HW := Lib.hid hW
  have hsz : W.heap.size = w.heap.size + 1 := by rw [hW]; simp
  have q0 := HX.out.cell0
  have q1 := HX.out.cell1
  clear hal hW hr hg
  unfold Told
  rcases hB : webB xs rs with _ | _
  · rw [loops_no hB]
    have HNO := Lib.hid hB
    clear hB
    go_enter Tryd.func12, Tryd.ntmps12
    go_upto_region 1 with fail
    rw [← HW.out]
    go_wp2_with fail
    refine (countNoLoopsOfWeb_any 30 (fun _ _ => 0) _ _ _ _ _ _ xs rs ea _ HRW.out hw hs HG.out (by omega) HNO.out).mono ?_
    rintro e w1 ⟨rfl, hb⟩
    go_wp2_with fail
    go_ret2
    exact ⟨rfl, HB.out.trans (hb.mono HB.out.size)⟩
  · rw [loops_yes hB]
    have HYES := Lib.hid hB
    clear hB
    obtain ⟨k, hk⟩ : ∃ k : Int, k = ((((places xs rs).length / 2 : Nat) : Int) - ((items xs rs : Nat) : Int) + (numParts xs rs : Int)) := ⟨_, rfl⟩
    have HK := Lib.hid hk
    rw [← hk]
    clear hk
    go_enter Tryd.func12, Tryd.ntmps12
    go_upto_region 1 with fail
    rw [← HW.out]
    go_wp2_with fail
    refine (countLoopsOfWeb_any _ _ _ _ _ _ xs rs ea _ HRW.out hw hs HG.out (by omega) HYES.out).mono ?_
    rintro e w1 ⟨rfl, hb⟩
    rw [← HK.out]
    go_wp2_with fail
    go_ret2
    exact ⟨rfl, HB.out.trans (hb.mono HB.out.size)⟩
end Go.Proofs.YthpddknpiiiccaaDoor
