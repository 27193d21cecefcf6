/- DegreeOfWeb: the model's and the program's answer. -/
import Derived.Test.YtdeefgmjlcdpfaaDoorOpenWeb
namespace Go.Proofs.YtdeefgmjlcdpfaaDoor
open Go.RowKit
set_option linter.unusedVariables false
set_option linter.unusedSimpArgs false
set_option maxRecDepth 100000

open Classical in
noncomputable def degreeOfWeb (xs : List Int) (rs : List (List Int)) : Int × Int := if webB xs rs then (((items xs rs / 2 : Nat) : Int), 0) else (0, 1)
theorem degree_yes {xs : List Int} {rs : List (List Int)} (h : webB xs rs = true) : degreeOfWeb xs rs = (((items xs rs / 2 : Nat) : Int), 0) := by unfold degreeOfWeb; rw [if_pos h]
theorem degree_no {xs : List Int} {rs : List (List Int)} (h : webB xs rs = false) : degreeOfWeb xs rs = (0, 1) := by unfold degreeOfWeb; rw [if_neg (by rw [h]; simp)]
theorem itemCount_any (A : Option Addr) (n c : Nat) (B : Option Addr) (m d : Nat) (w : World) (hn : n ≤ 1000000) (hm : m ≤ 1000000) :
    Calls Tryd.prog 33 #[.agg #[.slice A n c, .slice B m d]] w fun e w' => e = .returned (.int .i64 ((n + m : Nat) : Int)) ∧ Below w.heap.size w w' := by
  have hal := below_alloc w (.cells #[.slice A n c, .slice B m d] 44)
  obtain ⟨W, hW⟩ : ∃ W, W = w.alloc (.cells #[.slice A n c, .slice B m d] 44) := ⟨_, rfl⟩
  have hX : Box2 W w.heap.size 44 (.slice A n c) (.slice B m d) := by rw [hW]; exact box2_new _ _ _ _
  have HB : Hid (Below w.heap.size w W) := Lib.hid (by rw [hW]; exact hal)
  have HW := Lib.hid hW
  have q0 := hX.cell0
  have q1 := hX.cell1
  clear hal hW hX
  go_enter Tryd.func33, Tryd.ntmps33
  go_upto_region 1 with fail
  rw [← HW.out]
  go_wp2_with fail
  go_ret
  exact ⟨by first | rfl | (refine congrArg (fun z => Ending.returned (.int .i64 z)) ?_; omega), HB.out⟩
theorem half_any (A : Option Addr) (n c : Nat) (B : Option Addr) (m d : Nat) (w : World) (hn : n ≤ 1000000) (hm : m ≤ 1000000) :
    Calls Tryd.prog 32 #[.agg #[.slice A n c, .slice B m d]] w fun e w' => e = .returned (.int .i64 (((n + m) / 2 : Nat) : Int)) ∧ Below w.heap.size w w' := by
  have hal := below_alloc w (.cells #[.slice A n c, .slice B m d] 44)
  obtain ⟨W, hW⟩ : ∃ W, W = w.alloc (.cells #[.slice A n c, .slice B m d] 44) := ⟨_, rfl⟩
  have hX : Box2 W w.heap.size 44 (.slice A n c) (.slice B m d) := by rw [hW]; exact box2_new _ _ _ _
  have HB : Hid (Below w.heap.size w W) := Lib.hid (by rw [hW]; exact hal)
  have HW := Lib.hid hW
  have q0 := hX.cell0
  have q1 := hX.cell1
  clear hal hW hX
  obtain ⟨k, hk⟩ : ∃ k, k = n + m := ⟨_, rfl⟩
  have hk1 : k ≤ 2000000 := by omega
  have HK := Lib.hid hk
  clear hk
  go_enter Tryd.func32, Tryd.ntmps32
  go_upto_region 1 with fail
  rw [← HW.out]
  go_wp2_with fail
  refine (itemCount_any _ _ _ _ _ _ _ hn hm).mono ?_
  rintro e w1 ⟨rfl, hb⟩
  rw [← HK.out]
  go_wp2_with fail
  go_ret
  exact ⟨by first | rfl | (refine congrArg (fun z => Ending.returned (.int .i64 z)) ?_; have := HK.out; omega), HB.out.trans (hb.mono HB.out.size)⟩
set_option maxHeartbeats 1600000 in
theorem specDegreeOfWeb_any (A : Option Addr) (n c : Nat) (B : Option Addr) (m d : Nat) (xs : List Int) (rs : List (List Int)) (w : World) (hr : RdWB w w.heap.size A n B m xs rs) (hw : WfW xs rs) (hs : FewW xs rs) :
    Told 13 #[.agg #[.slice A n c, .slice B m d]] w (.tuple #[.int .i64 (degreeOfWeb xs rs).1, .int .i64 (degreeOfWeb xs rs).2]) := by
  have hal := below_alloc w (.cells #[.slice A n c, .slice B m d] 28)
  obtain ⟨W, hW⟩ : ∃ W, W = w.alloc (.cells #[.slice A n c, .slice B m d] 28) := ⟨_, rfl⟩
  have HX : Hid (Box2 W w.heap.size 28 (.slice A n c) (.slice B m d)) := Lib.hid (by rw [hW]; exact box2_new _ _ _ _)
  have HB : Hid (Below w.heap.size w W) := Lib.hid (by rw [hW]; exact hal)
  have HRW : Hid (RdWB W W.heap.size A n B m xs rs) := Lib.hid ((hr.below HB.out).rd HB.out.size)
  have HIT : Hid (items xs rs = n + m) := Lib.hid (by unfold items; rw [hr.1.1, hr.2.1])
  have hn1 : n ≤ 1048576 := by have := hs.1; have := hr.1.1; omega
  have hm1 : m ≤ 1048576 := by have := hs.2.1.1; have := hr.2.1; omega
  have HW := Lib.hid hW
  have hsz : W.heap.size = w.heap.size + 1 := by rw [hW]; simp
  have q0 := HX.out.cell0
  have q1 := HX.out.cell1
  clear hal hW hr
  unfold Told
  rcases hB : webB xs rs with _ | _
  · rw [degree_no hB]
    have HNO := Lib.hid hB
    clear hB
    go_enter Tryd.func13, Tryd.ntmps13
    go_upto_region 1 with fail
    rw [← HW.out]
    go_wp2_with fail
    refine (specWeb_any _ _ _ _ _ _ xs rs _ HRW.out hs).mono ?_
    rintro e w1 ⟨rfl, hb⟩
    rw [HNO.out]
    go_wp2_with fail
    go_ret2
    exact ⟨rfl, HB.out.trans (hb.mono HB.out.size)⟩
  · rw [degree_yes hB, HIT.out]
    have HYES := Lib.hid hB
    clear hB
    go_enter Tryd.func13, Tryd.ntmps13
    go_upto_region 1 with fail
    rw [← HW.out]
    go_wp2_with fail
    refine (specWeb_any _ _ _ _ _ _ xs rs _ HRW.out hs).mono ?_
    rintro e w1 ⟨rfl, hb⟩
    rw [HYES.out]
    have c0 := (HX.out.below hb (by omega)).cell0
    have c1 := (HX.out.below hb (by omega)).cell1
    have HBZ := Lib.hid (HB.out.trans (hb.mono HB.out.size))
    clear q0 q1 hb
    go_wp2_with fail
    go_ret2
    exact ⟨by first | rfl | (refine congrArg (fun z => Ending.returned (.tuple #[.int .i64 z, .int .i64 0])) ?_; omega), HBZ.out⟩
/-- a number of a web, by a counting function -/
theorem countOf_any (F : FuncId) (num : Nat → Nat → Nat) (A : Option Addr) (n c : Nat) (B : Option Addr) (m d : Nat) (xs : List Int) (rs : List (List Int)) (ea : Option Addr) (w : World) (hr : RdWB w w.heap.size A n B m xs rs) (hw : WfW xs rs) (hs : FewW xs rs) (hg : w.cell? ⟨0, 0, none⟩ = some (.iface 88 (.pointer ea))) (hw0 : 0 < w.heap.size) :
    webB xs rs = false → Calls Tryd.prog 31 #[.agg #[.slice A n c, .slice B m d], .func (.func F) #[] #[]] w fun e w' => e = .returned (.tuple #[.int .i64 0, .int .i64 1]) ∧ Below w.heap.size w w' := by
  intro hB
  have hal := below_alloc w (.cells #[.slice A n c, .slice B m d] 28)
  obtain ⟨W, hW⟩ : ∃ W, W = w.alloc (.cells #[.slice A n c, .slice B m d] 28) := ⟨_, rfl⟩
  have HX : Hid (Box2 W w.heap.size 28 (.slice A n c) (.slice B m d)) := Lib.hid (by rw [hW]; exact box2_new _ _ _ _)
  have HB : Hid (Below w.heap.size w W) := Lib.hid (by rw [hW]; exact hal)
  have HRW : Hid (RdWB W W.heap.size A n B m xs rs) := Lib.hid ((hr.below HB.out).rd HB.out.size)
  have HG : Hid (W.cell? ⟨0, 0, none⟩ = some (.iface 88 (.pointer ea))) := Lib.hid ((HB.out.cell (p := ⟨0, 0, none⟩) hw0).trans hg)
  have HW := Lib.hid hW
  have hsz : W.heap.size = w.heap.size + 1 := by rw [hW]; simp
  have q0 := HX.out.cell0
  have q1 := HX.out.cell1
  have HNO := Lib.hid hB
  clear hal hW hr hg hB
  go_enter Tryd.func31, Tryd.ntmps31
  go_upto_region 1 with fail
  rw [← HW.out]
  go_wp2_with fail
  refine (openWeb_any _ _ _ _ _ _ xs rs ea _ HRW.out hs hw HG.out (by omega)).mono ?_
  rintro e w1 ⟨⟨_, hno⟩, hb⟩
  obtain rfl := hno HNO.out
  have HB1 : Hid (Below w.heap.size w (w1.alloc (.cells #[.slice none 0 0, .slice none 0 0] 44))) := Lib.hid ((HB.out.trans (hb.mono HB.out.size)).trans ((below_alloc _ _).mono (by have := hb.size; omega)))
  clear q0 q1 hb
  go_wp2_with fail
  go_ret2
  exact ⟨rfl, HB1.out⟩
set_option maxHeartbeats 1600000 in
theorem countHalf_any (A : Option Addr) (n c : Nat) (B : Option Addr) (m d : Nat) (xs : List Int) (rs : List (List Int)) (ea : Option Addr) (w : World) (hr : RdWB w w.heap.size A n B m xs rs) (hw : WfW xs rs) (hs : FewW xs rs) (hg : w.cell? ⟨0, 0, none⟩ = some (.iface 88 (.pointer ea))) (hw0 : 0 < w.heap.size) (hB : webB xs rs = true) :
    Calls Tryd.prog 31 #[.agg #[.slice A n c, .slice B m d], .func (.func 32) #[] #[]] w fun e w' => e = .returned (.tuple #[.int .i64 ((items xs rs / 2 : Nat) : Int), .int .i64 0]) ∧ Below w.heap.size w w' := by
  have hal := below_alloc w (.cells #[.slice A n c, .slice B m d] 28)
  obtain ⟨W, hW⟩ : ∃ W, W = w.alloc (.cells #[.slice A n c, .slice B m d] 28) := ⟨_, rfl⟩
  have HX : Hid (Box2 W w.heap.size 28 (.slice A n c) (.slice B m d)) := Lib.hid (by rw [hW]; exact box2_new _ _ _ _)
  have HB : Hid (Below w.heap.size w W) := Lib.hid (by rw [hW]; exact hal)
  have HRW : Hid (RdWB W W.heap.size A n B m xs rs) := Lib.hid ((hr.below HB.out).rd HB.out.size)
  have HG : Hid (W.cell? ⟨0, 0, none⟩ = some (.iface 88 (.pointer ea))) := Lib.hid ((HB.out.cell (p := ⟨0, 0, none⟩) hw0).trans hg)
  have hn1 : xs.length ≤ 1000000 := by
    have := hs.1
    by_cases h8 : 8 < items xs rs
    · rw [webB_big h8] at hB; cases hB
    · unfold items at h8; omega
  have hm1 : rs.length ≤ 1000000 := by
    by_cases h8 : 8 < items xs rs
    · rw [webB_big h8] at hB; cases hB
    · unfold items at h8; omega
  have HW := Lib.hid hW
  have hsz : W.heap.size = w.heap.size + 1 := by rw [hW]; simp
  have q0 := HX.out.cell0
  have q1 := HX.out.cell1
  have HYES := Lib.hid hB
  clear hal hW hr hg hB
  unfold items
  obtain ⟨k, hk⟩ : ∃ k, k = (xs.length + rs.length) / 2 := ⟨_, rfl⟩
  have hk1 : k ≤ 2000000 := by omega
  rw [← hk]
  have HK := Lib.hid hk
  clear hk
  go_enter Tryd.func31, Tryd.ntmps31
  go_upto_region 1 with fail
  rw [← HW.out]
  go_wp2_with fail
  refine (openWeb_any _ _ _ _ _ _ xs rs ea _ HRW.out hs hw HG.out (by omega)).mono ?_
  rintro e w1 ⟨⟨hyes, _⟩, hb⟩
  obtain ⟨u, v, rfl, hoi⟩ := hyes HYES.out
  obtain ⟨Au, cu, rfl, _⟩ := hoi.legs.form
  obtain ⟨Av, cv, rfl, _⟩ := hoi.forks.form
  obtain ⟨V, hV⟩ : ∃ V, V = w1.alloc (.cells #[.slice Au xs.length cu, .slice Av rs.length cv] 44) := ⟨_, rfl⟩
  have HB1 : Hid (Below w.heap.size w V) := Lib.hid (by rw [hV]; exact (HB.out.trans (hb.mono HB.out.size)).trans ((below_alloc _ _).mono (by have := hb.size; omega)))
  have hXV : Box2 V w1.heap.size 44 (.slice Au xs.length cu) (.slice Av rs.length cv) := by rw [hV]; exact box2_new _ _ _ _
  have r0 := hXV.cell0
  have r1 := hXV.cell1
  have HV := Lib.hid hV
  clear q0 q1 hb hoi hV hXV
  go_upto_region 2 with fail
  rw [← HV.out]
  go_wp2_with (go_at_call 32; refine (half_any _ _ _ _ _ _ _ hn1 hm1).mono ?_; rintro e w3 ⟨rfl, hb3⟩; rw [← HK.out]; have HB3 := Lib.hid (HB1.out.trans (hb3.mono HB1.out.size)); clear hb3)
  go_ret2
  exact ⟨rfl, HB3.out⟩
set_option maxHeartbeats 1600000 in
theorem implDegreeOfWeb_any (A : Option Addr) (n c : Nat) (B : Option Addr) (m d : Nat) (xs : List Int) (rs : List (List Int)) (ea : Option Addr) (w : World) (hr : RdWB w w.heap.size A n B m xs rs) (hw : WfW xs rs) (hs : FewW xs rs) (hg : w.cell? ⟨0, 0, none⟩ = some (.iface 88 (.pointer ea))) (hw0 : 0 < w.heap.size) :
    Told 14 #[.agg #[.slice A n c, .slice B m d]] w (.tuple #[.int .i64 (degreeOfWeb xs rs).1, .int .i64 (degreeOfWeb xs rs).2]) := by
  have hal := below_alloc w (.cells #[.slice A n c, .slice B m d] 28)
  obtain ⟨W, hW⟩ : ∃ W, W = w.alloc (.cells #[.slice A n c, .slice B m d] 28) := ⟨_, rfl⟩
  have HX : Hid (Box2 W w.heap.size 28 (.slice A n c) (.slice B m d)) := Lib.hid (by rw [hW]; exact box2_new _ _ _ _)
  have HB : Hid (Below w.heap.size w W) := Lib.hid (by rw [hW]; exact hal)
  have HRW : Hid (RdWB W W.heap.size A n B m xs rs) := Lib.hid ((hr.below HB.out).rd HB.out.size)
  have HG : Hid (W.cell? ⟨0, 0, none⟩ = some (.iface 88 (.pointer ea))) := Lib.hid ((HB.out.cell (p := ⟨0, 0, none⟩) hw0).trans hg)
  have HW := Lib.hid hW
  have hsz : W.heap.size = w.heap.size + 1 := by rw [hW]; simp
  have q0 := HX.out.cell0
  have q1 := HX.out.cell1
  clear hal hW hr hg
  unfold Told
  rcases hB : webB xs rs with _ | _
  · rw [degree_no hB]
    have HNO := Lib.hid hB
    clear hB
    go_enter Tryd.func14, Tryd.ntmps14
    go_upto_region 1 with fail
    rw [← HW.out]
    go_wp2_with fail
    refine (countOf_any 32 (fun _ _ => 0) _ _ _ _ _ _ xs rs ea _ HRW.out hw hs HG.out (by omega) HNO.out).mono ?_
    rintro e w1 ⟨rfl, hb⟩
    go_wp2_with fail
    go_ret2
    exact ⟨rfl, HB.out.trans (hb.mono HB.out.size)⟩
  · rw [degree_yes hB]
    have HYES := Lib.hid hB
    clear hB
    obtain ⟨k, hk⟩ : ∃ k, k = items xs rs / 2 := ⟨_, rfl⟩
    have HK := Lib.hid hk
    rw [← hk]
    clear hk
    go_enter Tryd.func14, Tryd.ntmps14
    go_upto_region 1 with fail
    rw [← HW.out]
    go_wp2_with fail
    refine (countHalf_any _ _ _ _ _ _ xs rs ea _ HRW.out hw hs HG.out (by omega) HYES.out).mono ?_
    rintro e w1 ⟨rfl, hb⟩
    rw [← HK.out]
    go_wp2_with fail
    go_ret2
    exact ⟨rfl, HB.out.trans (hb.mono HB.out.size)⟩
end Go.Proofs.YtdeefgmjlcdpfaaDoor
