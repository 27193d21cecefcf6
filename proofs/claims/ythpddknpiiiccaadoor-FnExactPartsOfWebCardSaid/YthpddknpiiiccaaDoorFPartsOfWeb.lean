/- PartsOfWeb: the model's and the program's answer. -/
import Derived.Test.YthpddknpiiiccaaDoorOpenWeb
import Derived.Test.YthpddknpiiiccaaDoorWebCount
import Derived.Deep.RegionHeld3
import Derived.Test.YthpddknpiiiccaaDoorWebNum
namespace Go.Proofs.YthpddknpiiiccaaDoor
open Go.RowKit
set_option linter.unusedVariables false
set_option linter.unusedSimpArgs false
set_option maxRecDepth 100000

open Classical in
noncomputable def partsOfWeb (xs : List Int) (rs : List (List Int)) : Int × Int := if webB xs rs then ((numParts xs rs : Int), 0) else (0, 1)
theorem parts_yes {xs : List Int} {rs : List (List Int)} (h : webB xs rs = true) : partsOfWeb xs rs = ((numParts xs rs : Int), 0) := by unfold partsOfWeb; rw [if_pos h]
theorem parts_no {xs : List Int} {rs : List (List Int)} (h : webB xs rs = false) : partsOfWeb xs rs = (0, 1) := by unfold partsOfWeb; rw [if_neg (by rw [h]; simp)]
set_option maxHeartbeats 1600000 in
theorem clPartsOfWeb_any (A : Option Addr) (n c : Nat) (B : Option Addr) (m d : Nat) (xs : List Int) (rs : List (List Int)) (w : World) (hx : Rd w A n xs) (hr : RdF w w.heap.size B m rs) (hn : n ≤ 8) (hm : m ≤ 8) (hw : webB xs rs = true) :
    Calls Tryd.prog 26 #[.agg #[.slice A n c, .slice B m d]] w fun e w' => e = .returned (.int .i64 (numParts xs rs : Int)) ∧ Below w.heap.size w w' := by
  have hal := below_alloc w (.cells #[.slice A n c, .slice B m d] 49)
  obtain ⟨W, hW⟩ : ∃ W, W = w.alloc (.cells #[.slice A n c, .slice B m d] 49) := ⟨_, rfl⟩
  have hX : Box2 W w.heap.size 49 (.slice A n c) (.slice B m d) := by rw [hW]; exact box2_new _ _ _ _
  have HB : Hid (Below w.heap.size w W) := Lib.hid (by rw [hW]; exact hal)
  have HRX : Hid (Rd W A n xs) := Lib.hid (hx.below HB.out)
  have HRF : Hid (RdF W W.heap.size B m rs) := Lib.hid ((hr.below HB.out).mono HB.out.size)
  have HLN := Lib.hid hx.len
  have HW := Lib.hid hW
  have HF := Lib.hid (webB_facts2 hw)
  have q0 := hX.cell0
  have q1 := hX.cell1
  clear hal hW hX hx hr hw
  go_enter Tryd.func26, Tryd.ntmps26
  go_upto_region 1 with fail
  rw [← HW.out]
  go_wp2_with fail
  refine (partsWithLegs_any _ _ _ _ _ _ xs rs _ HRX.out HRF.out (by omega) (by omega)).mono ?_
  rintro e w1 ⟨v, vs, ps, rfl, hov, hpo, hpn, hpm, hb⟩
  obtain ⟨G, cG, rfl, _⟩ := hov.form
  have hnum : ps.length = numParts xs rs := num_parts HF.out.2.2.2 (by rw [HLN.out]; exact hpo)
  rw [hnum] at hpn ⊢
  have HBZ := Lib.hid (HB.out.trans (hb.mono HB.out.size))
  clear q0 q1 hov hpo hpm hb hnum
  go_wp2_with fail
  go_ret
  exact ⟨rfl, HBZ.out⟩
set_option maxHeartbeats 1600000 in
theorem specPartsOfWeb_any (A : Option Addr) (n c : Nat) (B : Option Addr) (m d : Nat) (xs : List Int) (rs : List (List Int)) (w : World) (hr : RdWB w w.heap.size A n B m xs rs) (hw : WfW xs rs) (hs : FewW xs rs) :
    Told 7 #[.agg #[.slice A n c, .slice B m d]] w (.tuple #[.int .i64 (partsOfWeb xs rs).1, .int .i64 (partsOfWeb xs rs).2]) := by
  have hal := below_alloc w (.cells #[.slice A n c, .slice B m d] 29)
  obtain ⟨W, hW⟩ : ∃ W, W = w.alloc (.cells #[.slice A n c, .slice B m d] 29) := ⟨_, rfl⟩
  have HX : Hid (Box2 W w.heap.size 29 (.slice A n c) (.slice B m d)) := Lib.hid (by rw [hW]; exact box2_new _ _ _ _)
  have HB : Hid (Below w.heap.size w W) := Lib.hid (by rw [hW]; exact hal)
  have HRW : Hid (RdWB W W.heap.size A n B m xs rs) := Lib.hid ((hr.below HB.out).rd HB.out.size)
  have HIT : Hid (items xs rs = n + m) := Lib.hid (by unfold items; rw [hr.1.1, hr.2.1])
  have hn1 : n ≤ 1048576 := by have := hs.1; have := hr.1.1; omega
  have hm1 : m ≤ 1048576 := by have := hs.2.1.1; have := hr.2.1; omega
  have HW := Lib.hid hW
  have hsz : W.heap.size = w.heap.size + 1 := by rw [hW]; simp
  have q0 := HX.out.cell0
  have q1 := HX.out.cell1
  clear hal hW hr
  unfold Told
  rcases hB : webB xs rs with _ | _
  · rw [parts_no hB]
    have HNO := Lib.hid hB
    clear hB
    go_enter Tryd.func7, Tryd.ntmps7
    go_upto_region 1 with fail
    rw [← HW.out]
    go_wp2_with fail
    refine (specWeb_any _ _ _ _ _ _ xs rs _ HRW.out hs).mono ?_
    rintro e w1 ⟨rfl, hb⟩
    rw [HNO.out]
    go_wp2_with fail
    go_ret2
    exact ⟨rfl, HB.out.trans (hb.mono HB.out.size)⟩
  · rw [parts_yes hB]
    have HYES := Lib.hid hB
    clear hB
    go_enter Tryd.func7, Tryd.ntmps7
    go_upto_region 1 with fail
    rw [← HW.out]
    go_wp2_with fail
    refine (specWeb_any _ _ _ _ _ _ xs rs _ HRW.out hs).mono ?_
    rintro e w1 ⟨rfl, hb⟩
    rw [HYES.out]
    have c0 := (HX.out.below hb (by omega)).cell0
    have c1 := (HX.out.below hb (by omega)).cell1
    have HRW2 : Hid (RdWB w1 w1.heap.size A n B m xs rs) := Lib.hid ((HRW.out.below hb).rd hb.size)
    have HBZ := Lib.hid (HB.out.trans (hb.mono HB.out.size))
    have hnm : n + m ≤ 8 := by rw [← HIT.out]; exact (webB_facts2 HYES.out).1
    clear q0 q1 hb
    go_wp2_with fail
    refine (l06Count_any _ _ _ _ _ _ xs rs _ HRW2.out hs.2.1 hnm).mono ?_
    rintro e w2 ⟨rfl, hb2⟩
    go_wp2_with fail
    go_ret2
    exact ⟨rfl, HBZ.out.trans (hb2.mono HBZ.out.size)⟩
/-- a number of a web, by a counting function -/
theorem countNoPartsOfWeb_any (F : FuncId) (num : Nat → Nat → Nat) (A : Option Addr) (n c : Nat) (B : Option Addr) (m d : Nat) (xs : List Int) (rs : List (List Int)) (ea : Option Addr) (w : World) (hr : RdWB w w.heap.size A n B m xs rs) (hw : WfW xs rs) (hs : FewW xs rs) (hg : w.cell? ⟨0, 0, none⟩ = some (.iface 87 (.pointer ea))) (hw0 : 0 < w.heap.size) :
    webB xs rs = false → Calls Tryd.prog 25 #[.agg #[.slice A n c, .slice B m d], .func (.func F) #[] #[]] w fun e w' => e = .returned (.tuple #[.int .i64 0, .int .i64 1]) ∧ Below w.heap.size w w' := by
  intro hB
  have hal := below_alloc w (.cells #[.slice A n c, .slice B m d] 29)
  obtain ⟨W, hW⟩ : ∃ W, W = w.alloc (.cells #[.slice A n c, .slice B m d] 29) := ⟨_, rfl⟩
  have HX : Hid (Box2 W w.heap.size 29 (.slice A n c) (.slice B m d)) := Lib.hid (by rw [hW]; exact box2_new _ _ _ _)
  have HB : Hid (Below w.heap.size w W) := Lib.hid (by rw [hW]; exact hal)
  have HRW : Hid (RdWB W W.heap.size A n B m xs rs) := Lib.hid ((hr.below HB.out).rd HB.out.size)
  have HG : Hid (W.cell? ⟨0, 0, none⟩ = some (.iface 87 (.pointer ea))) := Lib.hid ((HB.out.cell (p := ⟨0, 0, none⟩) hw0).trans hg)
  have HW := Lib.hid hW
  have hsz : W.heap.size = w.heap.size + 1 := by rw [hW]; simp
  have q0 := HX.out.cell0
  have q1 := HX.out.cell1
  have HNO := Lib.hid hB
  clear hal hW hr hg hB
  go_enter Tryd.func25, Tryd.ntmps25
  go_upto_region 1 with fail
  rw [← HW.out]
  go_wp2_with fail
  refine (openWeb_any _ _ _ _ _ _ xs rs ea _ HRW.out hs hw HG.out (by omega)).mono ?_
  rintro e w1 ⟨⟨_, hno⟩, hb⟩
  obtain rfl := hno HNO.out
  have HB1 : Hid (Below w.heap.size w (w1.alloc (.cells #[.slice none 0 0, .slice none 0 0] 49))) := Lib.hid ((HB.out.trans (hb.mono HB.out.size)).trans ((below_alloc _ _).mono (by have := hb.size; omega)))
  clear q0 q1 hb
  go_wp2_with fail
  go_ret2
  exact ⟨rfl, HB1.out⟩
set_option maxHeartbeats 1600000 in
theorem countPartsOfWeb_any (A : Option Addr) (n c : Nat) (B : Option Addr) (m d : Nat) (xs : List Int) (rs : List (List Int)) (ea : Option Addr) (w : World) (hr : RdWB w w.heap.size A n B m xs rs) (hw : WfW xs rs) (hs : FewW xs rs) (hg : w.cell? ⟨0, 0, none⟩ = some (.iface 87 (.pointer ea))) (hw0 : 0 < w.heap.size) (hB : webB xs rs = true) :
    Calls Tryd.prog 25 #[.agg #[.slice A n c, .slice B m d], .func (.func 26) #[] #[]] w fun e w' => e = .returned (.tuple #[.int .i64 (numParts xs rs : Int), .int .i64 0]) ∧ Below w.heap.size w w' := by
  have hal := below_alloc w (.cells #[.slice A n c, .slice B m d] 29)
  obtain ⟨W, hW⟩ : ∃ W, W = w.alloc (.cells #[.slice A n c, .slice B m d] 29) := ⟨_, rfl⟩
  have HX : Hid (Box2 W w.heap.size 29 (.slice A n c) (.slice B m d)) := Lib.hid (by rw [hW]; exact box2_new _ _ _ _)
  have HB : Hid (Below w.heap.size w W) := Lib.hid (by rw [hW]; exact hal)
  have HRW : Hid (RdWB W W.heap.size A n B m xs rs) := Lib.hid ((hr.below HB.out).rd HB.out.size)
  have HG : Hid (W.cell? ⟨0, 0, none⟩ = some (.iface 87 (.pointer ea))) := Lib.hid ((HB.out.cell (p := ⟨0, 0, none⟩) hw0).trans hg)
  have hn1 : xs.length ≤ 8 := by
    have := hs.1
    by_cases h8 : 8 < items xs rs
    · rw [webB_big h8] at hB; cases hB
    · unfold items at h8; omega
  have hm1 : rs.length ≤ 8 := by
    by_cases h8 : 8 < items xs rs
    · rw [webB_big h8] at hB; cases hB
    · unfold items at h8; omega
  have HW := Lib.hid hW
  have hsz : W.heap.size = w.heap.size + 1 := by rw [hW]; simp
  have q0 := HX.out.cell0
  have q1 := HX.out.cell1
  have HYES := Lib.hid hB
  clear hal hW hr hg hB
  obtain ⟨k, hk⟩ : ∃ k : Int, k = (numParts xs rs : Int) := ⟨_, rfl⟩
  rw [← hk]
  have HK := Lib.hid hk
  clear hk
  go_enter Tryd.func25, Tryd.ntmps25
  go_upto_region 1 with fail
  rw [← HW.out]
  go_wp2_with fail
  refine (openWeb_any _ _ _ _ _ _ xs rs ea _ HRW.out hs hw HG.out (by omega)).mono ?_
  rintro e w1 ⟨⟨hyes, _⟩, hb⟩
  obtain ⟨u, v, rfl, hoi⟩ := hyes HYES.out
  obtain ⟨Au, cu, rfl, hru⟩ := hoi.legs.form
  obtain ⟨Av, cv, rfl, _⟩ := hoi.forks.form
  have hrf := hoi.forks.rdf
  obtain ⟨V, hV⟩ : ∃ V, V = w1.alloc (.cells #[.slice Au xs.length cu, .slice Av rs.length cv] 49) := ⟨_, rfl⟩
  have HB1 : Hid (Below w.heap.size w V) := Lib.hid (by rw [hV]; exact (HB.out.trans (hb.mono HB.out.size)).trans ((below_alloc _ _).mono (by have := hb.size; omega)))
  have hXV : Box2 V w1.heap.size 49 (.slice Au xs.length cu) (.slice Av rs.length cv) := by rw [hV]; exact box2_new _ _ _ _
  have HRU : Hid (Rd V Au xs.length xs) := Lib.hid (by rw [hV]; exact hru.below (below_alloc _ _))
  have HRF : Hid (RdF V V.heap.size Av rs.length rs) := Lib.hid (by rw [hV]; exact (hrf.below (below_alloc _ _)).mono (below_alloc _ _).size)
  have r0 := hXV.cell0
  have r1 := hXV.cell1
  have HV := Lib.hid hV
  clear q0 q1 hb hoi hV hXV hru hrf
  go_upto_region 2 with fail
  rw [← HV.out]
  go_wp2_with (go_at_call 26; refine (clPartsOfWeb_any _ _ _ _ _ _ xs rs _ HRU.out HRF.out hn1 hm1 HYES.out).mono ?_; rintro e w3 ⟨rfl, hb3⟩; rw [← HK.out]; have HB3 := Lib.hid (HB1.out.trans (hb3.mono HB1.out.size)); clear hb3)
  go_ret2
  exact ⟨rfl, HB3.out⟩
set_option maxHeartbeats 1600000 in
theorem implPartsOfWeb_any (A : Option Addr) (n c : Nat) (B : Option Addr) (m d : Nat) (xs : List Int) (rs : List (List Int)) (ea : Option Addr) (w : World) (hr : RdWB w w.heap.size A n B m xs rs) (hw : WfW xs rs) (hs : FewW xs rs) (hg : w.cell? ⟨0, 0, none⟩ = some (.iface 87 (.pointer ea))) (hw0 : 0 < w.heap.size) :
    Told 9 #[.agg #[.slice A n c, .slice B m d]] w (.tuple #[.int .i64 (partsOfWeb xs rs).1, .int .i64 (partsOfWeb xs rs).2]) := by
  have hal := below_alloc w (.cells #[.slice A n c, .slice B m d] 29)
  obtain ⟨W, hW⟩ : ∃ W, W = w.alloc (.cells #[.slice A n c, .slice B m d] 29) := ⟨_, rfl⟩
  have HX : Hid (Box2 W w.heap.size 29 (.slice A n c) (.slice B m d)) := Lib.hid (by rw [hW]; exact box2_new _ _ _ _)
  have HB : Hid (Below w.heap.size w W) := Lib.hid (by rw [hW]; exact hal)
  have HRW : Hid (RdWB W W.heap.size A n B m xs rs) := Lib.hid ((hr.below HB.out).rd HB.out.size)
  have HG : Hid (W.cell? ⟨0, 0, none⟩ = some (.iface 87 (.pointer ea))) := Lib.hid ((HB.out.cell (p := ⟨0, 0, none⟩) hw0).trans hg)
  have HW := Lib.hid hW
  have hsz : W.heap.size = w.heap.size + 1 := by rw [hW]; simp
  have q0 := HX.out.cell0
  have q1 := HX.out.cell1
  clear hal hW hr hg
  unfold Told
  rcases hB : webB xs rs with _ | _
  · rw [parts_no hB]
    have HNO := Lib.hid hB
    clear hB
    go_enter Tryd.func9, Tryd.ntmps9
    go_upto_region 1 with fail
    rw [← HW.out]
    go_wp2_with fail
    refine (countNoPartsOfWeb_any 26 (fun _ _ => 0) _ _ _ _ _ _ xs rs ea _ HRW.out hw hs HG.out (by omega) HNO.out).mono ?_
    rintro e w1 ⟨rfl, hb⟩
    go_wp2_with fail
    go_ret2
    exact ⟨rfl, HB.out.trans (hb.mono HB.out.size)⟩
  · rw [parts_yes hB]
    have HYES := Lib.hid hB
    clear hB
    obtain ⟨k, hk⟩ : ∃ k : Int, k = (numParts xs rs : Int) := ⟨_, rfl⟩
    have HK := Lib.hid hk
    rw [← hk]
    clear hk
    go_enter Tryd.func9, Tryd.ntmps9
    go_upto_region 1 with fail
    rw [← HW.out]
    go_wp2_with fail
    refine (countPartsOfWeb_any _ _ _ _ _ _ xs rs ea _ HRW.out hw hs HG.out (by omega) HYES.out).mono ?_
    rintro e w1 ⟨rfl, hb⟩
    rw [← HK.out]
    go_wp2_with fail
    go_ret2
    exact ⟨rfl, HB.out.trans (hb.mono HB.out.size)⟩
end Go.Proofs.YthpddknpiiiccaaDoor
