/- Two sums that go together: the program's checkSums, the model's l03Like. -/
/- The program's functions that build a sum. -/
import Derived.Test.YtofcldplgkejiaaSumFrame
import Derived.Test.YtofcldplgkejiaaFDeleteChord
namespace Go.Proofs.Ytofcldplgkejiaa
open Go.RowKit
set_option linter.unusedVariables false
set_option linter.unusedSimpArgs false
set_option maxRecDepth 100000

set_option maxHeartbeats 4000000 in
theorem checkSums_any (p q : Int) (A B : Option Addr) (n c m d : Nat) (ts us : Tms) (w : World) (hr : RdT w A n ts) (hwf : WfT ts) (hN : need ts ≤ 1048576) (hp : -9223372036854775808 ≤ p ∧ p ≤ 9223372036854775807) (hr2 : RdT w B m us) (hwf2 : WfT us) (hN2 : need us ≤ 1048576) (hq : -9223372036854775808 ≤ q ∧ q ≤ 9223372036854775807) :
    Calls Try.prog 73 #[.agg #[.int .i64 p, .slice A n c], .agg #[.int .i64 q, .slice B m d]] w fun e w' => e = .returned (.int .i64 (likeC p ts q us)) ∧ Below w.heap.size w w' := by
  obtain ⟨W, hW⟩ : ∃ W, W = (w.alloc (.cells #[.int .i64 p, .slice A n c] 25)).alloc (.cells #[.int .i64 q, .slice B m d] 25) := ⟨_, rfl⟩
  have hBW : Below w.heap.size w W := by rw [hW]; exact (below_alloc _ _).alloc (by simp) _
  have hsW : W.heap.size = w.heap.size + 2 := by rw [hW]; simp
  have g1 : Box2 W w.heap.size 25 (.int .i64 p) (.slice A n c) := by rw [hW]; exact (box2_new _ _ _ _).alloc _
  have g2 : Box2 W (w.heap.size + 1) 25 (.int .i64 q) (.slice B m d) := by
    have h := box2_new (w.alloc (.cells #[.int .i64 p, .slice A n c] 25)) 25 (.int .i64 q) (.slice B m d)
    rw [hW]; simpa using h
  have HWA := Lib.hid hwf
  have HNA := Lib.hid hN
  have HWB := Lib.hid hwf2
  have HNB := Lib.hid hN2
  have HRA : Hid (RdT W A n ts) := Lib.hid (hr.below hBW)
  have HRB : Hid (RdT W B m us) := Lib.hid (hr2.below hBW)
  have HG1 := Lib.hid g1
  have HG2 := Lib.hid g2
  have HB := Lib.hid hBW
  have HS := Lib.hid hsW
  have HW := Lib.hid hW
  have q0 := g1.cell0
  have q1 := g1.cell1
  have q2 := g2.cell0
  have q3 := g2.cell1
  clear hr hwf hN hr2 hwf2 hN2 g1 g2 hBW hsW hW
  rcases hsm : isSum p ts with _ | _
  · have H := Lib.hid hsm
    rw [show likeC p ts q us = 1 from by unfold likeC; rw [hsm]; rfl]
    clear hsm
    go_enter Try.func73, Try.ntmps73
    go_wp2_with fail
    rw [← HW.out]
    refine (isSumI_any _ _ _ _ ts _ HRA.out HWA.out HNA.out hp).mono ?_
    rintro e w1 ⟨rfl, hb1⟩
    rw [H.out]
    have HB1 := Lib.hid (HB.out.trans (hb1.mono HB.out.size))
    clear hb1 q0 q1 q2 q3
    go_wp2_with fail
    go_ret
    exact ⟨rfl, HB1.out⟩
  have HSA := Lib.hid hsm
  rcases hsu : isSum q us with _ | _
  · have H := Lib.hid hsu
    rw [show likeC p ts q us = 1 from by unfold likeC; rw [hsm, hsu]; rfl]
    clear hsm hsu
    go_enter Try.func73, Try.ntmps73
    go_wp2_with fail
    rw [← HW.out]
    refine (isSumI_any _ _ _ _ ts _ HRA.out HWA.out HNA.out hp).mono ?_
    rintro e w1 ⟨rfl, hb1⟩
    rw [HSA.out]
    have hs1 := hb1.size
    have HX1 := Lib.hid (HG1.out.below hb1 (by have := HS.out; omega))
    have HX2 := Lib.hid (HG2.out.below hb1 (by have := HS.out; omega))
    have HB1 := Lib.hid (HB.out.trans (hb1.mono HB.out.size))
    have HRB1 := Lib.hid (HRB.out.below hb1)
    clear hb1 q0 q1 q2 q3
    have q0 := HX1.out.cell0
    have q1 := HX1.out.cell1
    have q2 := HX2.out.cell0
    have q3 := HX2.out.cell1
    go_wp2_with fail
    refine (isSumI_any _ _ _ _ us _ HRB1.out HWB.out HNB.out hq).mono ?_
    rintro e w2 ⟨rfl, hb2⟩
    rw [H.out]
    have HB2 := Lib.hid (HB1.out.trans (hb2.mono HB1.out.size))
    clear hb2 q0 q1 q2 q3
    go_wp2_with fail
    go_ret
    exact ⟨rfl, HB2.out⟩
  have HSB := Lib.hid hsu
  by_cases hpq : p = q
  · rw [show likeC p ts q us = 0 from by unfold likeC; rw [hsm, hsu]; simp [hpq]]
    have t1 : (p == q) = true := by simpa using hpq
    have t2 : (p != q) = false := by simpa using hpq
    clear hsm hsu hpq
    go_enter Try.func73, Try.ntmps73
    go_wp2_with fail
    rw [← HW.out]
    refine (isSumI_any _ _ _ _ ts _ HRA.out HWA.out HNA.out hp).mono ?_
    rintro e w1 ⟨rfl, hb1⟩
    rw [HSA.out]
    have hs1 := hb1.size
    have HX1 := Lib.hid (HG1.out.below hb1 (by have := HS.out; omega))
    have HX2 := Lib.hid (HG2.out.below hb1 (by have := HS.out; omega))
    have HB1 := Lib.hid (HB.out.trans (hb1.mono HB.out.size))
    have HRB1 := Lib.hid (HRB.out.below hb1)
    clear hb1 q0 q1 q2 q3
    have q0 := HX1.out.cell0
    have q1 := HX1.out.cell1
    have q2 := HX2.out.cell0
    have q3 := HX2.out.cell1
    go_wp2_with fail
    refine (isSumI_any _ _ _ _ us _ HRB1.out HWB.out HNB.out hq).mono ?_
    rintro e w2 ⟨rfl, hb2⟩
    rw [HSB.out]
    have hs2 := hb2.size
    have HB2 := Lib.hid (HB1.out.trans (hb2.mono HB1.out.size))
    have r0 := (HX1.out.below hb2 (by have := HS.out; omega)).cell0
    have r2 := (HX2.out.below hb2 (by have := HS.out; omega)).cell0
    clear hb2 q0 q1 q2 q3
    go_wp2_with fail
    go_ret
    exact ⟨rfl, HB2.out⟩
  · rw [show likeC p ts q us = 2 from by unfold likeC; rw [hsm, hsu]; simp [hpq]]
    have t1 : (p == q) = false := by simpa using hpq
    have t2 : (p != q) = true := by simpa using hpq
    clear hsm hsu
    go_enter Try.func73, Try.ntmps73
    go_wp2_with fail
    rw [← HW.out]
    refine (isSumI_any _ _ _ _ ts _ HRA.out HWA.out HNA.out hp).mono ?_
    rintro e w1 ⟨rfl, hb1⟩
    rw [HSA.out]
    have hs1 := hb1.size
    have HX1 := Lib.hid (HG1.out.below hb1 (by have := HS.out; omega))
    have HX2 := Lib.hid (HG2.out.below hb1 (by have := HS.out; omega))
    have HB1 := Lib.hid (HB.out.trans (hb1.mono HB.out.size))
    have HRB1 := Lib.hid (HRB.out.below hb1)
    clear hb1 q0 q1 q2 q3
    have q0 := HX1.out.cell0
    have q1 := HX1.out.cell1
    have q2 := HX2.out.cell0
    have q3 := HX2.out.cell1
    go_wp2_with fail
    refine (isSumI_any _ _ _ _ us _ HRB1.out HWB.out HNB.out hq).mono ?_
    rintro e w2 ⟨rfl, hb2⟩
    rw [HSB.out]
    have hs2 := hb2.size
    have HB2 := Lib.hid (HB1.out.trans (hb2.mono HB1.out.size))
    have r0 := (HX1.out.below hb2 (by have := HS.out; omega)).cell0
    have r2 := (HX2.out.below hb2 (by have := HS.out; omega)).cell0
    clear hb2 q0 q1 q2 q3
    go_wp2_with fail
    go_ret
    exact ⟨rfl, HB2.out⟩

set_option maxHeartbeats 4000000 in
theorem l03Like_any (p q : Int) (A B : Option Addr) (n c m d : Nat) (ts us : Tms) (w : World) (hr : RdT w A n ts) (hwf : WfT ts) (hN : need ts ≤ 1048576) (hp : -9223372036854775808 ≤ p ∧ p ≤ 9223372036854775807) (hr2 : RdT w B m us) (hwf2 : WfT us) (hN2 : need us ≤ 1048576) (hq : -9223372036854775808 ≤ q ∧ q ≤ 9223372036854775807) :
    Calls Try.prog 69 #[.agg #[.int .i64 p, .slice A n c], .agg #[.int .i64 q, .slice B m d]] w fun e w' => e = .returned (.int .i64 (likeC p ts q us)) ∧ Below w.heap.size w w' := by
  obtain ⟨W, hW⟩ : ∃ W, W = (w.alloc (.cells #[.int .i64 p, .slice A n c] 25)).alloc (.cells #[.int .i64 q, .slice B m d] 25) := ⟨_, rfl⟩
  have hBW : Below w.heap.size w W := by rw [hW]; exact (below_alloc _ _).alloc (by simp) _
  have hsW : W.heap.size = w.heap.size + 2 := by rw [hW]; simp
  have g1 : Box2 W w.heap.size 25 (.int .i64 p) (.slice A n c) := by rw [hW]; exact (box2_new _ _ _ _).alloc _
  have g2 : Box2 W (w.heap.size + 1) 25 (.int .i64 q) (.slice B m d) := by
    have h := box2_new (w.alloc (.cells #[.int .i64 p, .slice A n c] 25)) 25 (.int .i64 q) (.slice B m d)
    rw [hW]; simpa using h
  have HWA := Lib.hid hwf
  have HNA := Lib.hid hN
  have HWB := Lib.hid hwf2
  have HNB := Lib.hid hN2
  have HRA : Hid (RdT W A n ts) := Lib.hid (hr.below hBW)
  have HRB : Hid (RdT W B m us) := Lib.hid (hr2.below hBW)
  have HG1 := Lib.hid g1
  have HG2 := Lib.hid g2
  have HB := Lib.hid hBW
  have HS := Lib.hid hsW
  have HW := Lib.hid hW
  have q0 := g1.cell0
  have q1 := g1.cell1
  have q2 := g2.cell0
  have q3 := g2.cell1
  clear hr hwf hN hr2 hwf2 hN2 g1 g2 hBW hsW hW
  rcases hsm : isSum p ts with _ | _
  · have H := Lib.hid hsm
    rw [show likeC p ts q us = 1 from by unfold likeC; rw [hsm]; rfl]
    clear hsm
    go_enter Try.func69, Try.ntmps69
    go_wp2_with fail
    rw [← HW.out]
    refine (l03Is_any _ _ _ _ ts _ HRA.out HWA.out HNA.out hp).mono ?_
    rintro e w1 ⟨rfl, hb1⟩
    rw [H.out]
    have HB1 := Lib.hid (HB.out.trans (hb1.mono HB.out.size))
    clear hb1 q0 q1 q2 q3
    go_wp2_with fail
    go_ret
    exact ⟨rfl, HB1.out⟩
  have HSA := Lib.hid hsm
  rcases hsu : isSum q us with _ | _
  · have H := Lib.hid hsu
    rw [show likeC p ts q us = 1 from by unfold likeC; rw [hsm, hsu]; rfl]
    clear hsm hsu
    go_enter Try.func69, Try.ntmps69
    go_wp2_with fail
    rw [← HW.out]
    refine (l03Is_any _ _ _ _ ts _ HRA.out HWA.out HNA.out hp).mono ?_
    rintro e w1 ⟨rfl, hb1⟩
    rw [HSA.out]
    have hs1 := hb1.size
    have HX1 := Lib.hid (HG1.out.below hb1 (by have := HS.out; omega))
    have HX2 := Lib.hid (HG2.out.below hb1 (by have := HS.out; omega))
    have HB1 := Lib.hid (HB.out.trans (hb1.mono HB.out.size))
    have HRB1 := Lib.hid (HRB.out.below hb1)
    clear hb1 q0 q1 q2 q3
    have q0 := HX1.out.cell0
    have q1 := HX1.out.cell1
    have q2 := HX2.out.cell0
    have q3 := HX2.out.cell1
    go_wp2_with fail
    refine (l03Is_any _ _ _ _ us _ HRB1.out HWB.out HNB.out hq).mono ?_
    rintro e w2 ⟨rfl, hb2⟩
    rw [H.out]
    have HB2 := Lib.hid (HB1.out.trans (hb2.mono HB1.out.size))
    clear hb2 q0 q1 q2 q3
    go_wp2_with fail
    go_ret
    exact ⟨rfl, HB2.out⟩
  have HSB := Lib.hid hsu
  by_cases hpq : p = q
  · rw [show likeC p ts q us = 0 from by unfold likeC; rw [hsm, hsu]; simp [hpq]]
    have t1 : (p == q) = true := by simpa using hpq
    have t2 : (p != q) = false := by simpa using hpq
    clear hsm hsu hpq
    go_enter Try.func69, Try.ntmps69
    go_wp2_with fail
    rw [← HW.out]
    refine (l03Is_any _ _ _ _ ts _ HRA.out HWA.out HNA.out hp).mono ?_
    rintro e w1 ⟨rfl, hb1⟩
    rw [HSA.out]
    have hs1 := hb1.size
    have HX1 := Lib.hid (HG1.out.below hb1 (by have := HS.out; omega))
    have HX2 := Lib.hid (HG2.out.below hb1 (by have := HS.out; omega))
    have HB1 := Lib.hid (HB.out.trans (hb1.mono HB.out.size))
    have HRB1 := Lib.hid (HRB.out.below hb1)
    clear hb1 q0 q1 q2 q3
    have q0 := HX1.out.cell0
    have q1 := HX1.out.cell1
    have q2 := HX2.out.cell0
    have q3 := HX2.out.cell1
    go_wp2_with fail
    refine (l03Is_any _ _ _ _ us _ HRB1.out HWB.out HNB.out hq).mono ?_
    rintro e w2 ⟨rfl, hb2⟩
    rw [HSB.out]
    have hs2 := hb2.size
    have HB2 := Lib.hid (HB1.out.trans (hb2.mono HB1.out.size))
    have r0 := (HX1.out.below hb2 (by have := HS.out; omega)).cell0
    have r2 := (HX2.out.below hb2 (by have := HS.out; omega)).cell0
    clear hb2 q0 q1 q2 q3
    go_wp2_with fail
    go_ret
    exact ⟨rfl, HB2.out⟩
  · rw [show likeC p ts q us = 2 from by unfold likeC; rw [hsm, hsu]; simp [hpq]]
    have t1 : (p == q) = false := by simpa using hpq
    have t2 : (p != q) = true := by simpa using hpq
    clear hsm hsu
    go_enter Try.func69, Try.ntmps69
    go_wp2_with fail
    rw [← HW.out]
    refine (l03Is_any _ _ _ _ ts _ HRA.out HWA.out HNA.out hp).mono ?_
    rintro e w1 ⟨rfl, hb1⟩
    rw [HSA.out]
    have hs1 := hb1.size
    have HX1 := Lib.hid (HG1.out.below hb1 (by have := HS.out; omega))
    have HX2 := Lib.hid (HG2.out.below hb1 (by have := HS.out; omega))
    have HB1 := Lib.hid (HB.out.trans (hb1.mono HB.out.size))
    have HRB1 := Lib.hid (HRB.out.below hb1)
    clear hb1 q0 q1 q2 q3
    have q0 := HX1.out.cell0
    have q1 := HX1.out.cell1
    have q2 := HX2.out.cell0
    have q3 := HX2.out.cell1
    go_wp2_with fail
    refine (l03Is_any _ _ _ _ us _ HRB1.out HWB.out HNB.out hq).mono ?_
    rintro e w2 ⟨rfl, hb2⟩
    rw [HSB.out]
    have hs2 := hb2.size
    have HB2 := Lib.hid (HB1.out.trans (hb2.mono HB1.out.size))
    have r0 := (HX1.out.below hb2 (by have := HS.out; omega)).cell0
    have r2 := (HX2.out.below hb2 (by have := HS.out; omega)).cell0
    clear hb2 q0 q1 q2 q3
    go_wp2_with fail
    go_ret
    exact ⟨rfl, HB2.out⟩

end Go.Proofs.Ytofcldplgkejiaa

namespace Go.Proofs.Ytofcldplgkejiaa
open Go.RowKit
set_option linter.unusedVariables false
set_option linter.unusedSimpArgs false
set_option maxRecDepth 100000

/-- a term, its word below the block B -/
theorem RdTB.atB {w : World} {B : Nat} {A : Option Addr} {n : Nat} {ts : Tms} (h : RdTB w B A n ts) {k : Nat} (hk : k < n) :
    ∃ b o C m d, A = some ⟨b, o, none⟩ ∧ b < B ∧ w.cell? ⟨b, o + k * 2, none⟩ = some (.slice C m d) ∧ w.cell? ⟨b, o + k * 2 + 1, none⟩ = some (.int .i64 (vl ts k)) ∧ RdB w B C m (wd ts k) ∧ m ≤ d ∧ d ≤ 9223372036854775807 := by
  obtain ⟨b, o, e, hl, hc⟩ := h.2 (by omega)
  obtain ⟨h1, u, h2, C, m, d, rfl, h3, h4, h5⟩ := hc k hk
  exact ⟨b, o, C, m, d, e, hl, h2, h1, h3, h4, h5⟩
theorem RdB.frg {w w' : World} {B b : Nat} {A : Option Addr} {n : Nat} {xs : List Int} (h : RdB w B A n xs) (hf : Fr b (b + 1) w w') (hB : B ≤ w.heap.size) (hd : B ≤ b) : RdB w' B A n xs := h.fr hf hB (.inl hd)
theorem told_few (p : Int) (U : Option Addr) (n c : Nat) (w : World) (h : n ≤ 200) :
    Calls Try.prog 70 #[.agg #[.int .i64 p, .slice U n c]] w fun e w' => e = .returned (.tuple #[.agg #[.int .i64 p, .slice U n c], .int .i64 0]) ∧ Below w.heap.size w w' := by
  obtain ⟨W, hW⟩ : ∃ W, W = (w.alloc (.cells #[.int .i64 p, .slice U n c] 25)).alloc (.cells #[.int .i64 0, .slice none 0 0] 25) := ⟨_, rfl⟩
  have hBW : Below w.heap.size w W := by rw [hW]; exact (below_alloc _ _).alloc (by simp) _
  have g1 : Box2 W w.heap.size 25 (.int .i64 p) (.slice U n c) := by rw [hW]; exact (box2_new _ _ _ _).alloc _
  have g2 : Box2 W (w.heap.size + 1) 25 (.int .i64 0) (.slice none 0 0) := by
    have h := box2_new (w.alloc (.cells #[.int .i64 p, .slice U n c] 25)) 25 (.int .i64 0) (.slice none 0 0)
    rw [hW]; simpa using h
  have HG := Lib.hid g2
  have HB := Lib.hid hBW
  have HW := Lib.hid hW
  have q0 := g1.cell0
  have q1 := g1.cell1
  have d0 := g2.cell0
  have d1 := g2.cell1
  have f0 := g2.free 0
  have f1 := g2.free 1
  have hng : ¬ ((n : Int) > 200) := by omega
  have hng2 : ¬ (200 < (n : Int)) := by omega
  clear hW g1 g2 hBW
  go_enter Try.func70, Try.ntmps70
  go_upto_region 1 with fail
  rw [← HW.out]
  go_wp2_with fail
  have e2 := (HG.out.set0 (.int .i64 p)).set1 (.slice U n c)
  refine bodyPost_ret (v := .tuple #[.agg #[.int .i64 p, .slice U n c], .int .i64 0]) ?_ ?_ ?_
  · exact results_row_tmp Try.results70 _ _ (w.heap.size + 1) _ _ rfl rfl (run_loadVar_row _ _ _ _ _ _ _ e2 Try.underlying25 rfl size_sum)
  · rfl
  · exact ⟨rfl, (HB.out.setCell (by show w.heap.size ≤ w.heap.size + 1; omega) _).setCell (by show w.heap.size ≤ w.heap.size + 1; omega) _⟩
theorem told_many (p : Int) (U : Option Addr) (n c : Nat) (w : World) (h : 200 < n) (h2 : n ≤ 1048576) :
    Calls Try.prog 70 #[.agg #[.int .i64 p, .slice U n c]] w fun e w' => e = .returned (.tuple #[.agg #[.int .i64 0, .slice none 0 0], .int .i64 3]) ∧ Below w.heap.size w w' := by
  obtain ⟨W, hW⟩ : ∃ W, W = (w.alloc (.cells #[.int .i64 p, .slice U n c] 25)).alloc (.cells #[.int .i64 0, .slice none 0 0] 25) := ⟨_, rfl⟩
  have hBW : Below w.heap.size w W := by rw [hW]; exact (below_alloc _ _).alloc (by simp) _
  have g1 : Box2 W w.heap.size 25 (.int .i64 p) (.slice U n c) := by rw [hW]; exact (box2_new _ _ _ _).alloc _
  have g2 : Box2 W (w.heap.size + 1) 25 (.int .i64 0) (.slice none 0 0) := by
    have h := box2_new (w.alloc (.cells #[.int .i64 p, .slice U n c] 25)) 25 (.int .i64 0) (.slice none 0 0)
    rw [hW]; simpa using h
  have HG := Lib.hid g2
  have HB := Lib.hid hBW
  have HW := Lib.hid hW
  have q1 := g1.cell1
  have d0 := g2.cell0
  have d1 := g2.cell1
  have f0 := g2.free 0
  have f1 := g2.free 1
  have hng : (n : Int) > 200 := by omega
  clear hW g1 g2 hBW
  go_enter Try.func70, Try.ntmps70
  go_upto_region 1 with fail
  rw [← HW.out]
  go_wp2_with fail
  have e2 := (HG.out.set0 (.int .i64 0)).set1 (.slice none 0 0)
  refine bodyPost_ret (v := .tuple #[.agg #[.int .i64 0, .slice none 0 0], .int .i64 3]) ?_ ?_ ?_
  · exact results_row_tmp Try.results70 _ _ (w.heap.size + 1) _ _ rfl rfl (run_loadVar_row _ _ _ _ _ _ _ e2 Try.underlying25 rfl size_sum)
  · rfl
  · exact ⟨rfl, (HB.out.setCell (by show w.heap.size ≤ w.heap.size + 1; omega) _).setCell (by show w.heap.size ≤ w.heap.size + 1; omega) _⟩
end Go.Proofs.Ytofcldplgkejiaa

namespace Go.Proofs.Ytofcldplgkejiaa
open Go.RowKit
set_option linter.unusedVariables false
set_option linter.unusedSimpArgs false
set_option maxRecDepth 100000

theorem addAll_app (p : Int) (f : List Int → Int) (l l' : Tms) : addAll p f (l ++ l') = addAll p (addAll p f l) l' := by unfold addAll; rw [List.foldl_append]
theorem timesL_one (ts : Tms) : timesL 1 ts = ts := by
  unfold timesL
  have h : (fun t : List Int × Int => (t.1, 1 * t.2)) = id := by funext t; simp
  rw [h, List.map_id]
theorem likeC_cases (p : Int) (ts : Tms) (q : Int) (us : Tms) : likeC p ts q us = 0 ∨ likeC p ts q us = 1 ∨ likeC p ts q us = 2 := by
  unfold likeC
  split
  · split
    · exact .inl rfl
    · exact .inr (.inr rfl)
  · exact .inr (.inl rfl)
theorem likeC_zero {p : Int} {ts : Tms} {q : Int} {us : Tms} (h : likeC p ts q us = 0) : isSum p ts = true ∧ isSum q us = true ∧ p = q := by
  unfold likeC at h
  rcases h1 : isSum p ts with _ | _ <;> rcases h2 : isSum q us with _ | _ <;> rw [h1, h2] at h <;> simp at h
  exact ⟨rfl, rfl, h⟩
theorem plain_times {p : Int} {us : Tms} {k : Int} (h : isSum p us = true) (hk : 0 ≤ k ∧ k ≤ p - 1) : Plain (timesL k us) := by
  have hb := prime_bd (isSum_prime h)
  refine plain_timesL (isSum_plain h) fun t ht => ?_
  have h1 := (isSum_mem h ht).2
  have h2 : 0 ≤ k * t.2 := Int.mul_nonneg hk.1 (by omega)
  have h3 : k * t.2 ≤ 12 * 12 := Int.mul_le_mul (by omega) (by omega) (by omega) (by omega)
  omega

set_option maxHeartbeats 8000000 in
theorem implAddSums_any (p : Int) (A : Option Addr) (n c : Nat) (ts : Tms) (q : Int) (B : Option Addr) (m d : Nat) (us : Tms) (kk : Int) (w : World) (hr : RdT w A n ts) (hwf : WfT ts) (hN : need ts ≤ 1048576) (hp : -9223372036854775808 ≤ p ∧ p ≤ 9223372036854775807) (hr2 : RdT w B m us) (hwf2 : WfT us) (hN2 : need us ≤ 1048576) (hq : -9223372036854775808 ≤ q ∧ q ≤ 9223372036854775807) (hik : -9223372036854775808 ≤ kk ∧ kk ≤ 9223372036854775807) :
    GaveS 26 #[.agg #[.int .i64 p, .slice A n c], .agg #[.int .i64 q, .slice B m d], .int .i64 kk] w (addSums p ts q us kk) := by
  obtain ⟨W, hW⟩ : ∃ W, W = ((w.alloc (.cells #[.int .i64 p, .slice A n c] 25)).alloc (.cells #[.int .i64 q, .slice B m d] 25)).alloc (.cells #[.int .i64 0, .slice none 0 0] 25) := ⟨_, rfl⟩
  have hBW : Below w.heap.size w W := by rw [hW]; exact ((below_alloc _ _).alloc (by simp) _).alloc (by simp; omega) _
  have hsW : W.heap.size = w.heap.size + 3 := by rw [hW]; simp
  have g1 : Box2 W w.heap.size 25 (.int .i64 p) (.slice A n c) := by rw [hW]; exact ((box2_new _ _ _ _).alloc _).alloc _
  have g2 : Box2 W (w.heap.size + 1) 25 (.int .i64 q) (.slice B m d) := by
    have h := (box2_new (w.alloc (.cells #[.int .i64 p, .slice A n c] 25)) 25 (.int .i64 q) (.slice B m d)).alloc (.cells #[.int .i64 0, .slice none 0 0] 25)
    rw [hW]; simpa using h
  have g3 : Box2 W (w.heap.size + 2) 25 (.int .i64 0) (.slice none 0 0) := by
    have h := box2_new ((w.alloc (.cells #[.int .i64 p, .slice A n c] 25)).alloc (.cells #[.int .i64 q, .slice B m d] 25)) 25 (.int .i64 0) (.slice none 0 0)
    rw [hW]; simpa using h
  have HWA := Lib.hid hwf
  have HNA := Lib.hid hN
  have HWB := Lib.hid hwf2
  have HNB := Lib.hid hN2
  have HRA : Hid (RdT W A n ts) := Lib.hid (hr.below hBW)
  have HRB : Hid (RdT W B m us) := Lib.hid (hr2.below hBW)
  have HBA : Hid (RdTB W w.heap.size A n ts) := Lib.hid (RdTB.below hr hBW)
  have HBB : Hid (RdTB W w.heap.size B m us) := Lib.hid (RdTB.below hr2 hBW)
  have HLA := Lib.hid hr.len
  have HLB := Lib.hid hr2.len
  have HG1 := Lib.hid g1
  have HG2 := Lib.hid g2
  have HG3 := Lib.hid g3
  have HB := Lib.hid hBW
  have HS := Lib.hid hsW
  have HW := Lib.hid hW
  have q0 := g1.cell0
  have q1 := g1.cell1
  have q2 := g2.cell0
  have q3 := g2.cell1
  clear hr hwf hN hr2 hwf2 hN2 g1 g2 g3 hBW hsW hW
  rcases likeC_cases p ts q us with hlc | hlc | hlc
  case inr.inl =>
    have HLC := Lib.hid hlc
    rw [show addSums p ts q us kk = ((0, []), 1) from by unfold addSums; rw [hlc]; rfl]
    clear hlc
    unfold GaveS
    go_enter Try.func26, Try.ntmps26
    go_wp2_with fail
    rw [← HW.out]
    refine (checkSums_any p q A B n c m d ts us _ HRA.out HWA.out HNA.out hp HRB.out HWB.out HNB.out hq).mono ?_
    rintro e w1 ⟨rfl, hb1⟩
    rw [HLC.out]
    have HG4 := Lib.hid (HG3.out.below hb1 (by have := HS.out; omega))
    have HB4 := Lib.hid (HB.out.trans (hb1.mono HB.out.size))
    clear hb1 q0 q1 q2 q3
    have d0 := HG4.out.cell0
    have d1 := HG4.out.cell1
    have f0 := HG4.out.free 0
    have f1 := HG4.out.free 1
    go_wp2_with fail
    have e2 := (HG4.out.set0 (.int .i64 0)).set1 (.slice none 0 0)
    refine bodyPost_ret (v := .tuple #[.agg #[.int .i64 0, .slice none 0 0], .int .i64 1]) ?_ ?_ ?_
    · exact results_row_tmp Try.results26 _ _ (w.heap.size + 2) _ _ rfl rfl (run_loadVar_row _ _ _ _ _ _ _ e2 Try.underlying25 rfl size_sum)
    · rfl
    · exact ⟨_, _, rfl, OwnT.nil_ _ _, ((HB4.out.setCell (by show w.heap.size ≤ w.heap.size + 2; omega) _).setCell (by show w.heap.size ≤ w.heap.size + 2; omega) _)⟩
  case inr.inr =>
    have HLC := Lib.hid hlc
    rw [show addSums p ts q us kk = ((0, []), 2) from by unfold addSums; rw [hlc]; rfl]
    clear hlc
    unfold GaveS
    go_enter Try.func26, Try.ntmps26
    go_wp2_with fail
    rw [← HW.out]
    refine (checkSums_any p q A B n c m d ts us _ HRA.out HWA.out HNA.out hp HRB.out HWB.out HNB.out hq).mono ?_
    rintro e w1 ⟨rfl, hb1⟩
    rw [HLC.out]
    have HG4 := Lib.hid (HG3.out.below hb1 (by have := HS.out; omega))
    have HB4 := Lib.hid (HB.out.trans (hb1.mono HB.out.size))
    clear hb1 q0 q1 q2 q3
    have d0 := HG4.out.cell0
    have d1 := HG4.out.cell1
    have f0 := HG4.out.free 0
    have f1 := HG4.out.free 1
    go_wp2_with fail
    have e2 := (HG4.out.set0 (.int .i64 0)).set1 (.slice none 0 0)
    refine bodyPost_ret (v := .tuple #[.agg #[.int .i64 0, .slice none 0 0], .int .i64 2]) ?_ ?_ ?_
    · exact results_row_tmp Try.results26 _ _ (w.heap.size + 2) _ _ rfl rfl (run_loadVar_row _ _ _ _ _ _ _ e2 Try.underlying25 rfl size_sum)
    · rfl
    · exact ⟨_, _, rfl, OwnT.nil_ _ _, ((HB4.out.setCell (by show w.heap.size ≤ w.heap.size + 2; omega) _).setCell (by show w.heap.size ≤ w.heap.size + 2; omega) _)⟩
  obtain ⟨hsa, hsb, hpq⟩ := likeC_zero hlc
  have HLC := Lib.hid hlc
  have HPQ := Lib.hid hpq
  rcases hin : inB kk 0 (p - 1) with _ | _
  · have HIN := Lib.hid hin
    rw [show addSums p ts q us kk = ((0, []), 2) from by unfold addSums; rw [hlc, hin]; rfl]
    clear hlc hin hsa hsb hpq
    unfold GaveS
    go_enter Try.func26, Try.ntmps26
    go_wp2_with fail
    rw [← HW.out]
    refine (checkSums_any p q A B n c m d ts us _ HRA.out HWA.out HNA.out hp HRB.out HWB.out HNB.out hq).mono ?_
    rintro e w1 ⟨rfl, hb1⟩
    rw [HLC.out]
    have HX1 := Lib.hid (HG1.out.below hb1 (by have := HS.out; omega))
    have HG4 := Lib.hid (HG3.out.below hb1 (by have := HS.out; omega))
    have HB4 := Lib.hid (HB.out.trans (hb1.mono HB.out.size))
    clear hb1 q0 q1 q2 q3
    have q0 := HX1.out.cell0
    have d0 := HG4.out.cell0
    have d1 := HG4.out.cell1
    have f0 := HG4.out.free 0
    have f1 := HG4.out.free 1
    go_wp2_with fail
    refine (residue_any kk p _).mono ?_
    rintro e w2 ⟨rfl, rfl⟩
    rw [HIN.out]
    go_wp2_with fail
    have e2 := (HG4.out.set0 (.int .i64 0)).set1 (.slice none 0 0)
    refine bodyPost_ret (v := .tuple #[.agg #[.int .i64 0, .slice none 0 0], .int .i64 2]) ?_ ?_ ?_
    · exact results_row_tmp Try.results26 _ _ (w.heap.size + 2) _ _ rfl rfl (run_loadVar_row _ _ _ _ _ _ _ e2 Try.underlying25 rfl size_sum)
    · rfl
    · exact ⟨_, _, rfl, OwnT.nil_ _ _, ((HB4.out.setCell (by show w.heap.size ≤ w.heap.size + 2; omega) _).setCell (by show w.heap.size ≤ w.heap.size + 2; omega) _)⟩
  have HIN := Lib.hid hin
  have hkb : 0 ≤ kk ∧ kk ≤ p - 1 := by unfold inB at hin; simpa using hin
  have hpb := prime_bd (isSum_prime hsa)
  have HPA : Hid (Plain (timesL 1 ts)) := Lib.hid (by rw [timesL_one]; exact isSum_plain hsa)
  have HPB : Hid (Plain (timesL kk us)) := Lib.hid (plain_times hsb (by omega))
  have hpl : Plain (ts ++ timesL kk us) := (isSum_plain hsa).app HPB.out
  have hfc := putAll_facts (p := p) (by omega) hpl
  have hl1 := isSum_len hsa
  have hl2 := isSum_len hsb
  have hn2 : n ≤ 200 := by have := HLA.out; omega
  have hm2 : m ≤ 200 := by have := HLB.out; omega
  obtain ⟨rp, rts, rz, hR⟩ : ∃ rp rts rz, addSums p ts q us kk = ((rp, rts), rz) := ⟨_, _, _, rfl⟩
  have HR9 : Hid (toldT p (putAll p [] (ts ++ timesL kk us)) = ((rp, rts), rz)) := Lib.hid (by rw [← hR]; unfold addSums; rw [hlc, hin]; rfl)
  have HFC := Lib.hid hfc
  rw [hR]
  clear hR hlc hin hsa hsb hpq hpl hfc hl1 hl2
  unfold GaveS
  go_enter Try.func26, Try.ntmps26
  go_wp2_with fail
  rw [← HW.out]
  refine (checkSums_any p q A B n c m d ts us _ HRA.out HWA.out HNA.out hp HRB.out HWB.out HNB.out hq).mono ?_
  rintro e w1 ⟨rfl, hb1⟩
  rw [HLC.out]
  obtain ⟨W0, hW0⟩ : ∃ W0, W0 = w1 := ⟨_, rfl⟩
  rw [← hW0] at hb1 ⊢
  clear hW0
  have hs1 := hb1.size
  have HX1 := Lib.hid (HG1.out.below hb1 (by have := HS.out; omega))
  have HX2 := Lib.hid (HG2.out.below hb1 (by have := HS.out; omega))
  have HGV := Lib.hid (HG3.out.below hb1 (by have := HS.out; omega))
  have HBV := Lib.hid (HB.out.trans (hb1.mono HB.out.size))
  have HAV := Lib.hid (HBA.out.below (hb1.mono HB.out.size))
  have HBV2 := Lib.hid (HBB.out.below (hb1.mono HB.out.size))
  have HS0 : Hid (w.heap.size + 3 ≤ W0.heap.size) := Lib.hid (by have := HS.out; omega)
  clear q0 q1 q2 q3 hb1
  have q0 := HX1.out.cell0
  have q1 := HX1.out.cell1
  go_wp2_with fail
  refine (residue_any kk p _).mono ?_
  rintro e w2 ⟨rfl, rfl⟩
  rw [HIN.out]
  go_wp2_with fail
  refine (newSumOf_any p _).mono ?_
  rintro e w3 ⟨b, rfl, hbl, hc3, hb3⟩
  obtain ⟨V, hV⟩ : ∃ V, V = w3.alloc (.cells #[.int .i64 p, .map (some b)] 74) := ⟨_, rfl⟩
  have hv3 : Below w3.heap.size w3 V := by rw [hV]; exact below_alloc _ _
  have hsV : V.heap.size = w3.heap.size + 1 := by rw [hV]; simp
  have hbx : Box2 V w3.heap.size 74 (.int .i64 p) (.map (some b)) := by rw [hV]; exact box2_new _ _ _ _
  have hs3 := hb3.size
  have hbV : Below W0.heap.size W0 V := hb3.trans (hv3.mono hb3.size)
  have hblt := hc3.lt
  have HV := Lib.hid hV
  have HBX := Lib.hid hbx
  have hsw2 := HS0.out
  have HX1 := Lib.hid (HX1.out.below hbV (by omega))
  have HX2 := Lib.hid (HX2.out.below hbV (by omega))
  have HGV := Lib.hid (HGV.out.below hbV (by omega))
  have HAV := Lib.hid (HAV.out.below (hbV.mono (by omega)))
  have HBV2 := Lib.hid (HBV2.out.below (hbV.mono (by omega)))
  have HBV := Lib.hid (HBV.out.trans (hbV.mono HBV.out.size))
  have HCV : Hid (Coefs V b 0 (fun _ => 0)) := Lib.hid (hc3.kept (grown_of_below hv3 none) (by simp))
  have HSV := Lib.hid hsV
  clear hV hv3 hbx hb3 hbV hc3 q0 q1
  have q0 := HX1.out.cell0
  have q1 := HX1.out.cell1
  have x0 := HBX.out.cell0
  have x1 := HBX.out.cell1
  go_upto_region 7 with fail
  rw [← HV.out]
  go_wp2_with fail
  refine (addTerms_any p p 1 b 0 w.heap.size (fun _ => 0) A n c ts _ HCV.out (by omega) (by omega) (resid_zero (by omega)) HAV.out (by omega) (by omega) HPA.out).mono ?_
  rintro e w4 ⟨rfl, hc4, hf4⟩
  have hs4 := hf4.size
  have HC4 := Lib.hid hc4
  have HF4 := Lib.hid hf4
  have HX2 := Lib.hid (HX2.out.frg hf4 (by omega))
  have HBX4 := Lib.hid (HBX.out.frg hf4 (by omega))
  have HBV4 := Lib.hid (HBV2.out.frg hf4 (by omega) (by omega))
  have HRS : Hid (Resid p (addAll p (fun _ => 0) (timesL 1 ts))) := Lib.hid (resid_addAll (by omega) _ _ (resid_zero (by omega)))
  clear hc4 hf4 q0 q1 x0 x1
  have q0 := HX2.out.cell0
  have q1 := HX2.out.cell1
  have x0 := HBX4.out.cell0
  have x1 := HBX4.out.cell1
  go_wp2_with fail
  refine (addTerms_any p q kk b (0 + n) w.heap.size (addAll p (fun _ => 0) (timesL 1 ts)) B m d us _ HC4.out (by omega) (by omega) HRS.out HBV4.out (by omega) (by omega) HPB.out).mono ?_
  rintro e wr ⟨rfl, hc5, hf5⟩
  have hs5 := hf5.size
  have hc6 := hc5
  rw [← addAll_app, timesL_one] at hc6
  have HC6 := Lib.hid hc6
  have HFR : Hid (Fr b (b + 1) V wr) := Lib.hid (frg_trans HF4.out hf5)
  clear hc5 hc6 hf5 q0 q1 x0 x1
  have HB6 : Hid (Below w.heap.size w wr) := Lib.hid (HBV.out.trans (below_frg HFR.out (by omega) (by have := HBV.out.size; omega)))
  have HG6 := Lib.hid (HGV.out.frg HFR.out (by omega))
  have HX6 := Lib.hid (HBX.out.frg HFR.out (by omega))
  have hs7 := HSV.out
  have hs8 := HS0.out
  have x0 := HX6.out.cell0
  have x1 := HX6.out.cell1
  go_wp2_with fail
  have hE := endSum_any p b (0 + n + m) (addAll p (fun _ => 0) (ts ++ timesL kk us)) (putAll p [] (ts ++ timesL kk us)) _ HC6.out (by omega) HFC.out.1 (fun ys _ => HFC.out.2.1 ys)
  rw [HR9.out] at hE
  refine Calls.mono hE ?_
  rintro e w9 ⟨v9, vs9, rfl, ho9, hb9⟩
  obtain ⟨A9, c9, rfl, _⟩ := ho9.form
  have hs9 := hb9.size
  have HG9 := Lib.hid (HG6.out.below hb9 (by omega))
  have HB9 := Lib.hid (HB6.out.trans (hb9.mono HB6.out.size))
  have HO9 := Lib.hid ho9
  have hls := HB6.out.size
  clear hE ho9 hb9
  have d0 := HG9.out.cell0
  have d1 := HG9.out.cell1
  have f0 := HG9.out.free 0
  have f1 := HG9.out.free 1
  go_wp2_with fail
  have e2 := (HG9.out.set0 (.int .i64 rp)).set1 (.slice A9 rts.length c9)
  refine bodyPost_ret (v := .tuple #[.agg #[.int .i64 rp, .slice A9 rts.length c9], .int .i64 rz]) ?_ ?_ ?_
  · exact results_row_tmp Try.results26 _ _ (w.heap.size + 2) _ _ rfl rfl (run_loadVar_row _ _ _ _ _ _ _ e2 Try.underlying25 rfl size_sum)
  · rfl
  · have ho7 := ((HO9.out.set_other ⟨w.heap.size + 2, 0, none⟩ (.int .i64 rp) (by show w.heap.size + 2 < _; omega)).set_other ⟨w.heap.size + 2, 1, none⟩ (.slice A9 rts.length c9) (by show w.heap.size + 2 < _; omega)).mono (lo' := w.heap.size) (by omega)
    exact ⟨_, vs9, rfl, ho7, ((HB9.out.setCell (by show w.heap.size ≤ w.heap.size + 2; omega) _).setCell (by show w.heap.size ≤ w.heap.size + 2; omega) _)⟩
end Go.Proofs.Ytofcldplgkejiaa

namespace Go.Proofs.Ytofcldplgkejiaa
open Go.RowKit
set_option linter.unusedVariables false
set_option linter.unusedSimpArgs false
set_option maxRecDepth 100000

theorem resid0_at {p : Int} (hp : 0 < p) (l : Tms) (xs : List Int) : 0 ≤ addAll p (fun _ => 0) l xs ∧ addAll p (fun _ => 0) l xs < p := resid_addAll hp l _ (resid_zero hp) xs
theorem gaveS_of {F : FuncId} {args : Array Value} {w : World} {r : (Int × Tms) × Int} (h : ∀ p ts z, r = ((p, ts), z) → GaveS F args w ((p, ts), z)) : GaveS F args w r := h _ _ _ rfl

set_option maxHeartbeats 4000000 in
theorem implSumOfWord_any (p : Int) (A : Option Addr) (n c : Nat) (xs : List Int) (v : Int) (w : World) (hip : -9223372036854775808 ≤ p ∧ p ≤ 9223372036854775807) (hr : Rd w A n xs) (hwf : Wf xs) (hn : n ≤ 1048576) (hc : n ≤ c) (hiv : -9223372036854775808 ≤ v ∧ v ≤ 9223372036854775807) :
    GaveS 17 #[.int .i64 p, .slice A n c, .int .i64 v] w (sumOfWord p xs v) := by
  obtain ⟨W, hW⟩ : ∃ W, W = w.alloc (.cells #[.int .i64 0, .slice none 0 0] 25) := ⟨_, rfl⟩
  have hBW : Below w.heap.size w W := by rw [hW]; exact below_alloc _ _
  have hsW : W.heap.size = w.heap.size + 1 := by rw [hW]; simp
  have g1 : Box2 W w.heap.size 25 (.int .i64 0) (.slice none 0 0) := by rw [hW]; exact box2_new _ _ _ _
  have HR := Lib.hid (hr.below hBW)
  have HWF := Lib.hid hwf
  have HG := Lib.hid g1
  have HB := Lib.hid hBW
  have HS := Lib.hid hsW
  have HW := Lib.hid hW
  have HL := Lib.hid hr.len
  clear hr hwf hBW hsW g1 hW
  rcases hwd : isWord xs with _ | _
  · have H := Lib.hid hwd
    rw [show sumOfWord p xs v = ((0, []), 1) from by unfold sumOfWord; rw [hwd]; rfl]
    clear hwd
    unfold GaveS
    go_enter Try.func17, Try.ntmps17
    go_wp2_with fail
    rw [← HW.out]
    refine (implIs_any _ _ _ xs _ HR.out HWF.out hn).mono ?_
    rintro e w1 ⟨rfl, hb1⟩
    rw [H.out]
    have HG1 := Lib.hid (HG.out.below hb1 (by rw [HS.out]; omega))
    have HB1 := Lib.hid (HB.out.trans (hb1.mono HB.out.size))
    clear hb1
    have d0 := HG1.out.cell0
    have d1 := HG1.out.cell1
    have f0 := HG1.out.free 0
    have f1 := HG1.out.free 1
    go_wp2_with fail
    have e2 := (HG1.out.set0 (.int .i64 0)).set1 (.slice none 0 0)
    refine bodyPost_ret (v := .tuple #[.agg #[.int .i64 0, .slice none 0 0], .int .i64 1]) ?_ ?_ ?_
    · exact results_row_tmp Try.results17 _ _ (w.heap.size) _ _ rfl rfl (run_loadVar_row _ _ _ _ _ _ _ e2 Try.underlying25 rfl size_sum)
    · rfl
    · exact ⟨_, _, rfl, OwnT.nil_ _ _, ((HB1.out.setCell (by show w.heap.size ≤ w.heap.size; omega) _).setCell (by show w.heap.size ≤ w.heap.size; omega) _)⟩
  have H := Lib.hid hwd
  rcases hpp : (prime p && inB v 0 (p - 1)) with _ | _
  · rw [show sumOfWord p xs v = ((0, []), 2) from by unfold sumOfWord; rw [hwd, hpp]; rfl]
    clear hwd
    unfold GaveS
    go_enter Try.func17, Try.ntmps17
    go_wp2_with fail
    rw [← HW.out]
    refine (implIs_any _ _ _ xs _ HR.out HWF.out hn).mono ?_
    rintro e w1 ⟨rfl, hb1⟩
    rw [H.out]
    have HG1 := Lib.hid (HG.out.below hb1 (by rw [HS.out]; omega))
    have HB1 := Lib.hid (HB.out.trans (hb1.mono HB.out.size))
    clear hb1
    have d0 := HG1.out.cell0
    have d1 := HG1.out.cell1
    have f0 := HG1.out.free 0
    have f1 := HG1.out.free 1
    rcases hpr : prime p with _ | _
    · have HP := Lib.hid hpr
      clear hpr hpp
      go_wp2_with fail
      refine (implPrime_any p _).mono ?_
      rintro e w2 ⟨rfl, rfl⟩
      rw [HP.out]
      go_wp2_with fail
      have e2 := (HG1.out.set0 (.int .i64 0)).set1 (.slice none 0 0)
      refine bodyPost_ret (v := .tuple #[.agg #[.int .i64 0, .slice none 0 0], .int .i64 2]) ?_ ?_ ?_
      · exact results_row_tmp Try.results17 _ _ (w.heap.size) _ _ rfl rfl (run_loadVar_row _ _ _ _ _ _ _ e2 Try.underlying25 rfl size_sum)
      · rfl
      · exact ⟨_, _, rfl, OwnT.nil_ _ _, ((HB1.out.setCell (by show w.heap.size ≤ w.heap.size; omega) _).setCell (by show w.heap.size ≤ w.heap.size; omega) _)⟩
    · have HP := Lib.hid hpr
      have HIN : Hid (inB v 0 (p - 1) = false) := Lib.hid (by rw [hpr] at hpp; simpa using hpp)
      clear hpr hpp
      go_wp2_with fail
      refine (implPrime_any p _).mono ?_
      rintro e w2 ⟨rfl, rfl⟩
      rw [HP.out]
      go_wp2_with fail
      refine (residue_any v p _).mono ?_
      rintro e w2 ⟨rfl, rfl⟩
      rw [HIN.out]
      go_wp2_with fail
      have e2 := (HG1.out.set0 (.int .i64 0)).set1 (.slice none 0 0)
      refine bodyPost_ret (v := .tuple #[.agg #[.int .i64 0, .slice none 0 0], .int .i64 2]) ?_ ?_ ?_
      · exact results_row_tmp Try.results17 _ _ (w.heap.size) _ _ rfl rfl (run_loadVar_row _ _ _ _ _ _ _ e2 Try.underlying25 rfl size_sum)
      · rfl
      · exact ⟨_, _, rfl, OwnT.nil_ _ _, ((HB1.out.setCell (by show w.heap.size ≤ w.heap.size; omega) _).setCell (by show w.heap.size ≤ w.heap.size; omega) _)⟩
  have hpr : prime p = true := by rcases e : prime p with _ | _ <;> simp_all
  have hin : inB v 0 (p - 1) = true := by rcases e : inB v 0 (p - 1) with _ | _ <;> simp_all
  have hpb := prime_bd hpr
  have hvb : 0 ≤ v ∧ v ≤ p - 1 := by unfold inB at hin; simpa using hin
  have hpl : Plain [(xs, v)] := fun t ht => by rw [List.mem_singleton] at ht; subst ht; exact ⟨hwd, by show 0 ≤ v; omega, by show v ≤ 1024; omega⟩
  have hfc := putAll_facts (p := p) (by omega) hpl
  rw [show sumOfWord p xs v = toldT p (putAll p [] [(xs, v)]) from by unfold sumOfWord; rw [hwd, hpp]; rfl]
  obtain ⟨rp, rts, rz, hR⟩ : ∃ rp rts rz, toldT p (putAll p [] [(xs, v)]) = ((rp, rts), rz) := ⟨_, _, _, rfl⟩
  have HFC := Lib.hid hfc
  have HRR := Lib.hid hR
  have HP := Lib.hid hpr
  have HIN := Lib.hid hin
  rw [hR]
  clear hwd hpp hpr hin hpl hfc hR
  unfold GaveS
  go_enter Try.func17, Try.ntmps17
  go_wp2_with fail
  rw [← HW.out]
  refine (implIs_any _ _ _ xs _ HR.out HWF.out hn).mono ?_
  rintro e w1 ⟨rfl, hb1⟩
  rw [H.out]
  have HG1 := Lib.hid (HG.out.below hb1 (by rw [HS.out]; omega))
  have HB1 := Lib.hid (HB.out.trans (hb1.mono HB.out.size))
  have HR1 := Lib.hid (HR.out.below hb1)
  have hs1 := hb1.size
  clear hb1
  go_wp2_with fail
  refine (implPrime_any p _).mono ?_
  rintro e w2 ⟨rfl, rfl⟩
  rw [HP.out]
  go_wp2_with fail
  refine (residue_any v p _).mono ?_
  rintro e w2 ⟨rfl, rfl⟩
  rw [HIN.out]
  go_wp2_with fail
  refine (newSumOf_any p _).mono ?_
  rintro e w3 ⟨b, rfl, hbl, hc3, hb3⟩
  obtain ⟨V, hV⟩ : ∃ V, V = w3.alloc (.cells #[.int .i64 p, .map (some b)] 74) := ⟨_, rfl⟩
  have hv3 : Below w3.heap.size w3 V := by rw [hV]; exact below_alloc _ _
  have hsV : V.heap.size = w3.heap.size + 1 := by rw [hV]; simp
  have hbx : Box2 V w3.heap.size 74 (.int .i64 p) (.map (some b)) := by rw [hV]; exact box2_new _ _ _ _
  have hs3 := hb3.size
  have hbV : Below w1.heap.size w1 V := hb3.trans (hv3.mono hb3.size)
  have hblt := hc3.lt
  have HV := Lib.hid hV
  have HBX := Lib.hid hbx
  have HGV := Lib.hid (HG1.out.below hbV (by have := HS.out; omega))
  have HBV := Lib.hid (HB1.out.trans (hbV.mono HB1.out.size))
  have HCV : Hid (Coefs V.drew b 0 (fun _ => 0)) := Lib.hid (hc3.kept (grown_of_below hv3.drew none) (by simp))
  have HRV : Hid (Rd V.drew A n xs) := Lib.hid (HR1.out.below hbV.drew)
  have HSV := Lib.hid hsV
  have hm12 : n ≤ 12 := by have h1 := HL.out; have h2 := isWord_len H.out; omega
  have HK : Hid (∀ X, Fr b (b + 1) V X → X.cell? ⟨w3.heap.size, 0, none⟩ = some (.int .i64 p) ∧ X.cell? ⟨w3.heap.size, 1, none⟩ = some (.map (some b)) ∧ Hid (Fr b (b + 1) V X)) :=
    Lib.hid (fun X hX => ⟨(HBX.out.frg hX (by omega)).cell0, (HBX.out.frg hX (by omega)).cell1, Lib.hid hX⟩)
  clear hV hv3 hsV hbx hb3 hbV hc3
  go_upto_region 6 with fail
  rw [← HV.out]
  go_region_held3 (fun X => X.cell? ⟨w3.heap.size, 0, none⟩ = some (.int .i64 p) ∧ X.cell? ⟨w3.heap.size, 1, none⟩ = some (.map (some b)) ∧ Hid (Fr b (b + 1) V X))
    ((refine HK.out _ ?_; first | exact Hid.out (by assumption) | exact frg_drew _ _))
    ((first
      | (go_at_call 63; refine (termKeyOf_any A n c xs _ HRV.out hm12).mono ?_; rintro e w4 ⟨rfl, hb4⟩; have HF4 : Hid (Fr b (b + 1) V w4) := Lib.hid (frg_trans (frg_drew b V) (frg_below hb4)); have HC4 := Lib.hid (HCV.out.below hb4); clear hb4)
      | (go_at_call 62; refine (add_any p v b 0 (fun _ => 0) xs _ HC4.out (by omega) H.out (word_wf H.out) (by omega) (by omega) (by omega)).mono ?_; rintro e w5 ⟨rfl, hc5, hg5⟩; have HF5 : Hid (Fr b (b + 1) V w5) := Lib.hid (frg_trans HF4.out (frg_grown hg5)); have HC5 := Lib.hid hc5; clear hc5 hg5)))
  have HC6 : Hid (Coefs w5 b 1 (addAll p (fun _ => 0) [(xs, v)])) := Lib.hid HC5.out
  have HB6 : Hid (Below w.heap.size w w5) := Lib.hid (HBV.out.trans (below_frg HF5.out (by have := HB1.out.size; omega) HBV.out.size))
  have HG6 : Hid (Box2 w5 w.heap.size 25 (.int .i64 0) (.slice none 0 0)) := Lib.hid (HGV.out.frg HF5.out (by have := HS.out; omega))
  have HX6 := Lib.hid (HBX.out.frg HF5.out (by omega))
  have hs6 := HF5.out.size
  have hs7 := HSV.out
  have hs8 := HS.out
  clear HC5
  have x0 := HX6.out.cell0
  have x1 := HX6.out.cell1
  go_wp2_with fail
  have hE := endSum_any p b (1) (addAll p (fun _ => 0) [(xs, v)]) (putAll p [] [(xs, v)]) _ HC6.out (by omega) HFC.out.1 (fun ys _ => HFC.out.2.1 ys)
  rw [HRR.out] at hE
  refine Calls.mono hE ?_
  rintro e w9 ⟨v9, vs9, rfl, ho9, hb9⟩
  obtain ⟨A9, c9, rfl, _⟩ := ho9.form
  have hs9 := hb9.size
  have HG9 := Lib.hid (HG6.out.below hb9 (by omega))
  have HB9 := Lib.hid (HB6.out.trans (hb9.mono HB6.out.size))
  have HO9 := Lib.hid ho9
  have hls := HB6.out.size
  clear hE ho9 hb9
  have d0 := HG9.out.cell0
  have d1 := HG9.out.cell1
  have f0 := HG9.out.free 0
  have f1 := HG9.out.free 1
  go_wp2_with fail
  have e2 := (HG9.out.set0 (.int .i64 rp)).set1 (.slice A9 rts.length c9)
  refine bodyPost_ret (v := .tuple #[.agg #[.int .i64 rp, .slice A9 rts.length c9], .int .i64 rz]) ?_ ?_ ?_
  · exact results_row_tmp Try.results17 _ _ (w.heap.size) _ _ rfl rfl (run_loadVar_row _ _ _ _ _ _ _ e2 Try.underlying25 rfl size_sum)
  · rfl
  · have ho7 := ((HO9.out.set_other ⟨w.heap.size, 0, none⟩ (.int .i64 rp) (by show w.heap.size < _; omega)).set_other ⟨w.heap.size, 1, none⟩ (.slice A9 rts.length c9) (by show w.heap.size < _; omega)).mono (lo' := w.heap.size) (by omega)
    exact ⟨_, vs9, rfl, ho7, ((HB9.out.setCell (by show w.heap.size ≤ w.heap.size; omega) _).setCell (by show w.heap.size ≤ w.heap.size; omega) _)⟩

/-- terms that a function of the words puts in: a slice that reads as the turned word, in new memory or the word's own -/
def GivesR (F : FuncId) (args : Array Value) (w : World) (ys : List Int) : Prop := Calls Try.prog F args w fun e w' => ∃ B m d, e = .returned (.slice B m d) ∧ Rd w' B m ys ∧ Below w.heap.size w w'
theorem givesR_of {F : FuncId} {args : Array Value} {w : World} {ys : List Int} (h : Calls Try.prog F args w fun e w' => ∃ v, e = .returned v ∧ Own w' w.heap.size v ys ∧ Below w.heap.size w w') : GivesR F args w ys :=
  Calls.mono h fun e w' ⟨v, he, ho, hb⟩ => by
    obtain ⟨B, m, d, rfl, _, hr⟩ := ho.form'
    exact ⟨B, m, d, he, hr, hb⟩
theorem plain_at {f : List Int → List Int} {ts : Tms} (h : Plain ts) (hf : ∀ w, isWord w = true → isWord (f w) = true) : Plain (mapL f ts) := plain_mapL h hf

set_option maxHeartbeats 4000000 in
theorem replaceLeast_any (p : Int) (A : Option Addr) (n c : Nat) (ts : Tms) (w : World) (hr : RdT w A n ts) (hs : isSum p ts = true)
    (hcl : ∀ (X : World) (C : Option Addr) (m0 d : Nat) (xs : List Int), Below w.heap.size w X → isWord xs = true → Rd X C m0 xs → m0 ≤ d → GivesR 86 #[.slice C m0 d] X (least xs)) :
    GaveS 85 #[.agg #[.int .i64 p, .slice A n c], .func (.func 86) #[] #[]] w (toldT p (putAll p [] (mapL (least) ts))) := by
  obtain ⟨W, hW⟩ : ∃ W, W = (w.alloc (.cells #[.int .i64 p, .slice A n c] 25)).alloc (.cells #[.int .i64 0, .slice none 0 0] 25) := ⟨_, rfl⟩
  have hBW : Below w.heap.size w W := by rw [hW]; exact (below_alloc _ _).alloc (by simp) _
  have hsW : W.heap.size = w.heap.size + 2 := by rw [hW]; simp
  have g1 : Box2 W w.heap.size 25 (.int .i64 p) (.slice A n c) := by rw [hW]; exact (box2_new _ _ _ _).alloc _
  have g2 : Box2 W (w.heap.size + 1) 25 (.int .i64 0) (.slice none 0 0) := by
    have h := box2_new (w.alloc (.cells #[.int .i64 p, .slice A n c] 25)) 25 (.int .i64 0) (.slice none 0 0)
    rw [hW]; simpa using h
  have hpb := prime_bd (isSum_prime hs)
  have hpl := plain_mapL (f := (least)) (isSum_plain hs) (fun w h => least_word h)
  have hfc := putAll_facts (p := p) (by omega) hpl
  have hl2 := isSum_len hs
  have hn2 : n ≤ 200 := by have := hr.len; omega
  obtain ⟨rp, rts, rz, hR⟩ : ∃ rp rts rz, toldT p (putAll p [] (mapL (least) ts)) = ((rp, rts), rz) := ⟨_, _, _, rfl⟩
  have HRR := Lib.hid hR
  have HFC := Lib.hid hfc
  have HSUM := Lib.hid hs
  have HL := Lib.hid hr.len
  have HR := Lib.hid (RdTB.below hr hBW)
  have HG1 := Lib.hid g1
  have HG2 := Lib.hid g2
  have HB := Lib.hid hBW
  have HS := Lib.hid hsW
  have HW := Lib.hid hW
  have HCL := Lib.hid hcl
  have q0 := g1.cell0
  have q1 := g1.cell1
  rw [hR]
  clear hr hs hpl hfc hl2 hR g1 g2 hBW hsW hW hcl
  unfold GaveS
  go_enter Try.func85, Try.ntmps85
  go_wp2_with fail
  rw [← HW.out]
  go_wp2_with fail
  refine (newSumOf_any p _).mono ?_
  rintro e w3 ⟨b, rfl, hbl, hc3, hb3⟩
  obtain ⟨V, hV⟩ : ∃ V, V = w3.alloc (.cells #[.int .i64 p, .map (some b)] 74) := ⟨_, rfl⟩
  have hv3 : Below w3.heap.size w3 V := by rw [hV]; exact below_alloc _ _
  have hsV : V.heap.size = w3.heap.size + 1 := by rw [hV]; simp
  have hbx : Box2 V w3.heap.size 74 (.int .i64 p) (.map (some b)) := by rw [hV]; exact box2_new _ _ _ _
  have hs3 := hb3.size
  have hbV : Below W.heap.size W V := hb3.trans (hv3.mono hb3.size)
  have hblt := hc3.lt
  have HV := Lib.hid hV
  have HBX := Lib.hid hbx
  have hsw2 := HS.out
  have HX1 := Lib.hid (HG1.out.below hbV (by omega))
  have HGV := Lib.hid (HG2.out.below hbV (by omega))
  have HBV := Lib.hid (HB.out.trans (hbV.mono HB.out.size))
  have HCV : Hid (Coefs V b 0 (fun _ => 0)) := Lib.hid (hc3.kept (grown_of_below hv3 none) (by simp))
  have HRV : Hid (RdTB V w.heap.size A n ts) := Lib.hid (HR.out.below ((hbV.mono HB.out.size)))
  have HSV := Lib.hid hsV
  clear hV hv3 hbx hb3 hbV hc3 q0 q1
  have q1 := HX1.out.cell1
  go_upto_region 2 with fail
  rw [← HV.out]
  go_wp2_with fail
  clear q1
  go_loopw [15] (fun i wr => ∃ k : Nat, k ≤ n ∧ i = .int .i64 k ∧ Hid (Coefs wr b k (addAll p (fun _ => 0) (mapL (least) (ts.take k)))) ∧ Hid (Fr b (b + 1) V wr)) (fun i _ => n - (intOf i).toNat)
  case atStart => exact ⟨0, by omega, rfl, HCV, Lib.hid (frg_refl _ _)⟩
  case round =>
    obtain ⟨k, hk, rfl, hcr, hfr⟩ := hrel
    have hszr := hfr.out.size
    by_cases hlt : k < n
    · obtain ⟨b0, o, C, m0, d, rfl, ha, hc0, hc1, hrk, hmd, hd⟩ := ((HRV.out.frg hfr.out (by omega) (by omega)).rd (by omega)).at_ hlt
      have hkl : k < ts.length := by have := HL.out; omega
      obtain ⟨z, hz⟩ : ∃ z, z = vl ts k := ⟨_, rfl⟩
      obtain ⟨xs, hxs⟩ : ∃ xs, xs = wd ts k := ⟨_, rfl⟩
      have hmem := isSum_mem HSUM.out (wd_mem hkl)
      have hstep := mapL_take (least) ts k hkl
      rw [← hz, ← hxs] at hmem hstep
      rw [← hz] at hc1
      rw [← hxs] at hrk
      have HX : Hid (isWord xs = true) := Lib.hid hmem.1
      have HXF : Hid (isWord ((least) xs) = true) := Lib.hid ((fun w h => least_word h) xs hmem.1)
      have HZ : Hid (1 ≤ z ∧ z ≤ p - 1) := Lib.hid hmem.2
      have hm12 : m0 ≤ 12 := by have h1 := hrk.len; have h2 := isWord_len HX.out; omega
      obtain ⟨g, hg⟩ : ∃ g, g = addAll p (fun _ => 0) (mapL (least) (ts.take k)) := ⟨_, rfl⟩
      have hgr : Resid p g := by rw [hg]; exact resid_addAll (by omega) _ _ (resid_zero (by omega))
      have hgn : addAll p (fun _ => 0) (mapL (least) (ts.take (k + 1))) = upd g ((least) xs) ((g ((least) xs) + z) % p) := by rw [hstep, addAll_snoc, ← hg]
      rw [← hg] at hcr
      obtain ⟨V2, hV2⟩ : ∃ V2, V2 = wr.alloc (.cells #[.slice C m0 d, .int .i64 z] 93) := ⟨_, rfl⟩
      have hvw : Below wr.heap.size wr V2 := by rw [hV2]; exact below_alloc _ _
      have hbx2 : Box2 V2 wr.heap.size 93 (.slice C m0 d) (.int .i64 z) := by rw [hV2]; exact box2_new _ _ _ _
      have hb1 : Box2 V2 w3.heap.size 74 (.int .i64 p) (.map (some b)) := (HBX.out.frg hfr.out (by omega)).below hvw (by have := HSV.out; omega)
      have HK : Hid (∀ X, Fr b (b + 1) V2 X → X.cell? ⟨w3.heap.size, 0, none⟩ = some (.int .i64 p) ∧ X.cell? ⟨w3.heap.size, 1, none⟩ = some (.map (some b)) ∧ X.cell? ⟨wr.heap.size, 0, none⟩ = some (.slice C m0 d) ∧ X.cell? ⟨wr.heap.size, 1, none⟩ = some (.int .i64 z) ∧ Hid (Fr b (b + 1) V2 X)) :=
        Lib.hid (fun X hX => ⟨(hb1.frg hX (by omega)).cell0, (hb1.frg hX (by omega)).cell1, (hbx2.frg hX (by have := HSV.out; omega)).cell0, (hbx2.frg hX (by have := HSV.out; omega)).cell1, Lib.hid hX⟩)
      have HV2 := Lib.hid hV2
      have HCD : Hid (Coefs V2.drew b k g) := Lib.hid (hcr.out.kept (grown_of_below hvw.drew none) (by simp))
      have HRK : Hid (Rd V2.drew C m0 xs) := Lib.hid (hrk.below hvw.drew)
      have HFV : Hid (Fr b (b + 1) V V2) := Lib.hid (frg_trans hfr.out (frg_below hvw))
      have HBD : Hid (Below w.heap.size w V2.drew) := Lib.hid (HBV.out.trans (below_frg (frg_trans HFV.out (frg_drew b V2)) (by omega) (by have := HBV.out.size; omega)))
      have HGR := Lib.hid hgr
      have HGN := Lib.hid hgn
      have hkb : k < 1099511627776 := by omega
      have HCX := Lib.hid (HCL.out V2.drew C m0 d xs HBD.out HX.out HRK.out hmd)
      clear hz hxs hmem hstep hg hgr hgn hV2 hvw hbx2 hb1 hrk hmd hd hfr hcr
      unfold GivesR at HCX
      go_upto_region 5 with fail
      rw [← HV2.out]
      clear hc0 hc1
      go_region_held3 (fun X => X.cell? ⟨w3.heap.size, 0, none⟩ = some (.int .i64 p) ∧ X.cell? ⟨w3.heap.size, 1, none⟩ = some (.map (some b)) ∧ X.cell? ⟨wr.heap.size, 0, none⟩ = some (.slice C m0 d) ∧ X.cell? ⟨wr.heap.size, 1, none⟩ = some (.int .i64 z) ∧ Hid (Fr b (b + 1) V2 X))
        ((refine HK.out _ ?_; first | exact Hid.out (by assumption) | exact frg_drew _ _))
        ((first
          | (go_at_call 86; refine Calls.mono HCX.out ?_; rintro e w4 ⟨B4, m4, d4, rfl, hr4, hb4⟩; have HF4 : Hid (Fr b (b + 1) V2 w4) := Lib.hid (frg_trans (frg_drew b V2) (frg_below hb4)); have HC4 := Lib.hid (HCD.out.below hb4); have HR4 := Lib.hid hr4; have hm4 : m4 ≤ 12 := (by have h1 := hr4.len; have h2 := isWord_len HXF.out; omega); clear hb4 hr4)
          | (go_at_call 63; refine (termKeyOf_any B4 m4 d4 ((least) xs) _ HR4.out hm4).mono ?_; rintro e w5 ⟨rfl, hb5⟩; have HF5 : Hid (Fr b (b + 1) V2 w5) := Lib.hid (frg_trans HF4.out (frg_below hb5)); have HC5 := Lib.hid (HC4.out.below hb5); clear hb5)
          | (go_at_call 62; refine (add_any p z b k g ((least) xs) _ HC5.out hkb HXF.out (word_wf HXF.out) (by omega) (by have := HGR.out ((least) xs); omega) (by have := HZ.out; omega)).mono ?_; rintro e w6 ⟨rfl, hc6, hg6⟩; have HF6 : Hid (Fr b (b + 1) V2 w6) := Lib.hid (frg_trans HF5.out (frg_grown hg6)); have HC6 := Lib.hid hc6; clear hc6 hg6)))
      all_goals go_wp2_with fail
      all_goals go_roundw
      case rel => exact ⟨k + 1, by omega, by go_num, Lib.hid (by rw [HGN.out]; exact HC6.out), Lib.hid (frg_trans HFV.out HF6.out)⟩
      case measure => simp [intOf]; omega
    · obtain rfl : k = n := by omega
      have HT : Hid (ts.take k = ts) := Lib.hid (List.take_of_length_le (by rw [HL.out]; exact Nat.le_refl _))
      have hc6 := hcr.out
      rw [HT.out] at hc6
      have HC6 := Lib.hid hc6
      have HB6 : Hid (Below w.heap.size w wr) := Lib.hid (HBV.out.trans (below_frg hfr.out (by omega) (by have := HBV.out.size; omega)))
      have HG6 := Lib.hid (HGV.out.frg hfr.out (by omega))
      have HX6 := Lib.hid (HBX.out.frg hfr.out (by omega))
      have hs7 := HSV.out
      have hs8 := HS.out
      clear hcr hc6
      have x0 := HX6.out.cell0
      have x1 := HX6.out.cell1
      go_wp2_with fail
      have hE := endSum_any p b (k) (addAll p (fun _ => 0) (mapL (least) ts)) (putAll p [] (mapL (least) ts)) _ HC6.out (by omega) HFC.out.1 (fun ys _ => HFC.out.2.1 ys)
      rw [HRR.out] at hE
      refine Calls.mono hE ?_
      rintro e w9 ⟨v9, vs9, rfl, ho9, hb9⟩
      obtain ⟨A9, c9, rfl, _⟩ := ho9.form
      have hs9 := hb9.size
      have HG9 := Lib.hid (HG6.out.below hb9 (by omega))
      have HB9 := Lib.hid (HB6.out.trans (hb9.mono HB6.out.size))
      have HO9 := Lib.hid ho9
      have hls := HB6.out.size
      clear hE ho9 hb9
      have d0 := HG9.out.cell0
      have d1 := HG9.out.cell1
      have f0 := HG9.out.free 0
      have f1 := HG9.out.free 1
      go_wp2_with fail
      have e2 := (HG9.out.set0 (.int .i64 rp)).set1 (.slice A9 rts.length c9)
      refine bodyPost_ret (v := .tuple #[.agg #[.int .i64 rp, .slice A9 rts.length c9], .int .i64 rz]) ?_ ?_ ?_
      · exact results_row_tmp Try.results85 _ _ (w.heap.size + 1) _ _ rfl rfl (run_loadVar_row _ _ _ _ _ _ _ e2 Try.underlying25 rfl size_sum)
      · rfl
      · have ho7 := ((HO9.out.set_other ⟨w.heap.size + 1, 0, none⟩ (.int .i64 rp) (by show w.heap.size + 1 < _; omega)).set_other ⟨w.heap.size + 1, 1, none⟩ (.slice A9 rts.length c9) (by show w.heap.size + 1 < _; omega)).mono (lo' := w.heap.size) (by omega)
        exact ⟨_, vs9, rfl, ho7, ((HB9.out.setCell (by show w.heap.size ≤ w.heap.size + 1; omega) _).setCell (by show w.heap.size ≤ w.heap.size + 1; omega) _)⟩
set_option maxHeartbeats 4000000 in
theorem replaceRefl_any (p : Int) (A : Option Addr) (n c : Nat) (ts : Tms) (w : World) (hr : RdT w A n ts) (hs : isSum p ts = true)
    (hcl : ∀ (X : World) (C : Option Addr) (m0 d : Nat) (xs : List Int), Below w.heap.size w X → isWord xs = true → Rd X C m0 xs → m0 ≤ d → GivesR 88 #[.slice C m0 d] X (refl xs)) :
    GaveS 85 #[.agg #[.int .i64 p, .slice A n c], .func (.func 88) #[] #[]] w (toldT p (putAll p [] (mapL (refl) ts))) := by
  obtain ⟨W, hW⟩ : ∃ W, W = (w.alloc (.cells #[.int .i64 p, .slice A n c] 25)).alloc (.cells #[.int .i64 0, .slice none 0 0] 25) := ⟨_, rfl⟩
  have hBW : Below w.heap.size w W := by rw [hW]; exact (below_alloc _ _).alloc (by simp) _
  have hsW : W.heap.size = w.heap.size + 2 := by rw [hW]; simp
  have g1 : Box2 W w.heap.size 25 (.int .i64 p) (.slice A n c) := by rw [hW]; exact (box2_new _ _ _ _).alloc _
  have g2 : Box2 W (w.heap.size + 1) 25 (.int .i64 0) (.slice none 0 0) := by
    have h := box2_new (w.alloc (.cells #[.int .i64 p, .slice A n c] 25)) 25 (.int .i64 0) (.slice none 0 0)
    rw [hW]; simpa using h
  have hpb := prime_bd (isSum_prime hs)
  have hpl := plain_mapL (f := (refl)) (isSum_plain hs) (fun w h => refl_word h)
  have hfc := putAll_facts (p := p) (by omega) hpl
  have hl2 := isSum_len hs
  have hn2 : n ≤ 200 := by have := hr.len; omega
  obtain ⟨rp, rts, rz, hR⟩ : ∃ rp rts rz, toldT p (putAll p [] (mapL (refl) ts)) = ((rp, rts), rz) := ⟨_, _, _, rfl⟩
  have HRR := Lib.hid hR
  have HFC := Lib.hid hfc
  have HSUM := Lib.hid hs
  have HL := Lib.hid hr.len
  have HR := Lib.hid (RdTB.below hr hBW)
  have HG1 := Lib.hid g1
  have HG2 := Lib.hid g2
  have HB := Lib.hid hBW
  have HS := Lib.hid hsW
  have HW := Lib.hid hW
  have HCL := Lib.hid hcl
  have q0 := g1.cell0
  have q1 := g1.cell1
  rw [hR]
  clear hr hs hpl hfc hl2 hR g1 g2 hBW hsW hW hcl
  unfold GaveS
  go_enter Try.func85, Try.ntmps85
  go_wp2_with fail
  rw [← HW.out]
  go_wp2_with fail
  refine (newSumOf_any p _).mono ?_
  rintro e w3 ⟨b, rfl, hbl, hc3, hb3⟩
  obtain ⟨V, hV⟩ : ∃ V, V = w3.alloc (.cells #[.int .i64 p, .map (some b)] 74) := ⟨_, rfl⟩
  have hv3 : Below w3.heap.size w3 V := by rw [hV]; exact below_alloc _ _
  have hsV : V.heap.size = w3.heap.size + 1 := by rw [hV]; simp
  have hbx : Box2 V w3.heap.size 74 (.int .i64 p) (.map (some b)) := by rw [hV]; exact box2_new _ _ _ _
  have hs3 := hb3.size
  have hbV : Below W.heap.size W V := hb3.trans (hv3.mono hb3.size)
  have hblt := hc3.lt
  have HV := Lib.hid hV
  have HBX := Lib.hid hbx
  have hsw2 := HS.out
  have HX1 := Lib.hid (HG1.out.below hbV (by omega))
  have HGV := Lib.hid (HG2.out.below hbV (by omega))
  have HBV := Lib.hid (HB.out.trans (hbV.mono HB.out.size))
  have HCV : Hid (Coefs V b 0 (fun _ => 0)) := Lib.hid (hc3.kept (grown_of_below hv3 none) (by simp))
  have HRV : Hid (RdTB V w.heap.size A n ts) := Lib.hid (HR.out.below ((hbV.mono HB.out.size)))
  have HSV := Lib.hid hsV
  clear hV hv3 hbx hb3 hbV hc3 q0 q1
  have q1 := HX1.out.cell1
  go_upto_region 2 with fail
  rw [← HV.out]
  go_wp2_with fail
  clear q1
  go_loopw [15] (fun i wr => ∃ k : Nat, k ≤ n ∧ i = .int .i64 k ∧ Hid (Coefs wr b k (addAll p (fun _ => 0) (mapL (refl) (ts.take k)))) ∧ Hid (Fr b (b + 1) V wr)) (fun i _ => n - (intOf i).toNat)
  case atStart => exact ⟨0, by omega, rfl, HCV, Lib.hid (frg_refl _ _)⟩
  case round =>
    obtain ⟨k, hk, rfl, hcr, hfr⟩ := hrel
    have hszr := hfr.out.size
    by_cases hlt : k < n
    · obtain ⟨b0, o, C, m0, d, rfl, ha, hc0, hc1, hrk, hmd, hd⟩ := ((HRV.out.frg hfr.out (by omega) (by omega)).rd (by omega)).at_ hlt
      have hkl : k < ts.length := by have := HL.out; omega
      obtain ⟨z, hz⟩ : ∃ z, z = vl ts k := ⟨_, rfl⟩
      obtain ⟨xs, hxs⟩ : ∃ xs, xs = wd ts k := ⟨_, rfl⟩
      have hmem := isSum_mem HSUM.out (wd_mem hkl)
      have hstep := mapL_take (refl) ts k hkl
      rw [← hz, ← hxs] at hmem hstep
      rw [← hz] at hc1
      rw [← hxs] at hrk
      have HX : Hid (isWord xs = true) := Lib.hid hmem.1
      have HXF : Hid (isWord ((refl) xs) = true) := Lib.hid ((fun w h => refl_word h) xs hmem.1)
      have HZ : Hid (1 ≤ z ∧ z ≤ p - 1) := Lib.hid hmem.2
      have hm12 : m0 ≤ 12 := by have h1 := hrk.len; have h2 := isWord_len HX.out; omega
      obtain ⟨g, hg⟩ : ∃ g, g = addAll p (fun _ => 0) (mapL (refl) (ts.take k)) := ⟨_, rfl⟩
      have hgr : Resid p g := by rw [hg]; exact resid_addAll (by omega) _ _ (resid_zero (by omega))
      have hgn : addAll p (fun _ => 0) (mapL (refl) (ts.take (k + 1))) = upd g ((refl) xs) ((g ((refl) xs) + z) % p) := by rw [hstep, addAll_snoc, ← hg]
      rw [← hg] at hcr
      obtain ⟨V2, hV2⟩ : ∃ V2, V2 = wr.alloc (.cells #[.slice C m0 d, .int .i64 z] 93) := ⟨_, rfl⟩
      have hvw : Below wr.heap.size wr V2 := by rw [hV2]; exact below_alloc _ _
      have hbx2 : Box2 V2 wr.heap.size 93 (.slice C m0 d) (.int .i64 z) := by rw [hV2]; exact box2_new _ _ _ _
      have hb1 : Box2 V2 w3.heap.size 74 (.int .i64 p) (.map (some b)) := (HBX.out.frg hfr.out (by omega)).below hvw (by have := HSV.out; omega)
      have HK : Hid (∀ X, Fr b (b + 1) V2 X → X.cell? ⟨w3.heap.size, 0, none⟩ = some (.int .i64 p) ∧ X.cell? ⟨w3.heap.size, 1, none⟩ = some (.map (some b)) ∧ X.cell? ⟨wr.heap.size, 0, none⟩ = some (.slice C m0 d) ∧ X.cell? ⟨wr.heap.size, 1, none⟩ = some (.int .i64 z) ∧ Hid (Fr b (b + 1) V2 X)) :=
        Lib.hid (fun X hX => ⟨(hb1.frg hX (by omega)).cell0, (hb1.frg hX (by omega)).cell1, (hbx2.frg hX (by have := HSV.out; omega)).cell0, (hbx2.frg hX (by have := HSV.out; omega)).cell1, Lib.hid hX⟩)
      have HV2 := Lib.hid hV2
      have HCD : Hid (Coefs V2.drew b k g) := Lib.hid (hcr.out.kept (grown_of_below hvw.drew none) (by simp))
      have HRK : Hid (Rd V2.drew C m0 xs) := Lib.hid (hrk.below hvw.drew)
      have HFV : Hid (Fr b (b + 1) V V2) := Lib.hid (frg_trans hfr.out (frg_below hvw))
      have HBD : Hid (Below w.heap.size w V2.drew) := Lib.hid (HBV.out.trans (below_frg (frg_trans HFV.out (frg_drew b V2)) (by omega) (by have := HBV.out.size; omega)))
      have HGR := Lib.hid hgr
      have HGN := Lib.hid hgn
      have hkb : k < 1099511627776 := by omega
      have HCX := Lib.hid (HCL.out V2.drew C m0 d xs HBD.out HX.out HRK.out hmd)
      clear hz hxs hmem hstep hg hgr hgn hV2 hvw hbx2 hb1 hrk hmd hd hfr hcr
      unfold GivesR at HCX
      go_upto_region 5 with fail
      rw [← HV2.out]
      clear hc0 hc1
      go_region_held3 (fun X => X.cell? ⟨w3.heap.size, 0, none⟩ = some (.int .i64 p) ∧ X.cell? ⟨w3.heap.size, 1, none⟩ = some (.map (some b)) ∧ X.cell? ⟨wr.heap.size, 0, none⟩ = some (.slice C m0 d) ∧ X.cell? ⟨wr.heap.size, 1, none⟩ = some (.int .i64 z) ∧ Hid (Fr b (b + 1) V2 X))
        ((refine HK.out _ ?_; first | exact Hid.out (by assumption) | exact frg_drew _ _))
        ((first
          | (go_at_call 88; refine Calls.mono HCX.out ?_; rintro e w4 ⟨B4, m4, d4, rfl, hr4, hb4⟩; have HF4 : Hid (Fr b (b + 1) V2 w4) := Lib.hid (frg_trans (frg_drew b V2) (frg_below hb4)); have HC4 := Lib.hid (HCD.out.below hb4); have HR4 := Lib.hid hr4; have hm4 : m4 ≤ 12 := (by have h1 := hr4.len; have h2 := isWord_len HXF.out; omega); clear hb4 hr4)
          | (go_at_call 63; refine (termKeyOf_any B4 m4 d4 ((refl) xs) _ HR4.out hm4).mono ?_; rintro e w5 ⟨rfl, hb5⟩; have HF5 : Hid (Fr b (b + 1) V2 w5) := Lib.hid (frg_trans HF4.out (frg_below hb5)); have HC5 := Lib.hid (HC4.out.below hb5); clear hb5)
          | (go_at_call 62; refine (add_any p z b k g ((refl) xs) _ HC5.out hkb HXF.out (word_wf HXF.out) (by omega) (by have := HGR.out ((refl) xs); omega) (by have := HZ.out; omega)).mono ?_; rintro e w6 ⟨rfl, hc6, hg6⟩; have HF6 : Hid (Fr b (b + 1) V2 w6) := Lib.hid (frg_trans HF5.out (frg_grown hg6)); have HC6 := Lib.hid hc6; clear hc6 hg6)))
      all_goals go_wp2_with fail
      all_goals go_roundw
      case rel => exact ⟨k + 1, by omega, by go_num, Lib.hid (by rw [HGN.out]; exact HC6.out), Lib.hid (frg_trans HFV.out HF6.out)⟩
      case measure => simp [intOf]; omega
    · obtain rfl : k = n := by omega
      have HT : Hid (ts.take k = ts) := Lib.hid (List.take_of_length_le (by rw [HL.out]; exact Nat.le_refl _))
      have hc6 := hcr.out
      rw [HT.out] at hc6
      have HC6 := Lib.hid hc6
      have HB6 : Hid (Below w.heap.size w wr) := Lib.hid (HBV.out.trans (below_frg hfr.out (by omega) (by have := HBV.out.size; omega)))
      have HG6 := Lib.hid (HGV.out.frg hfr.out (by omega))
      have HX6 := Lib.hid (HBX.out.frg hfr.out (by omega))
      have hs7 := HSV.out
      have hs8 := HS.out
      clear hcr hc6
      have x0 := HX6.out.cell0
      have x1 := HX6.out.cell1
      go_wp2_with fail
      have hE := endSum_any p b (k) (addAll p (fun _ => 0) (mapL (refl) ts)) (putAll p [] (mapL (refl) ts)) _ HC6.out (by omega) HFC.out.1 (fun ys _ => HFC.out.2.1 ys)
      rw [HRR.out] at hE
      refine Calls.mono hE ?_
      rintro e w9 ⟨v9, vs9, rfl, ho9, hb9⟩
      obtain ⟨A9, c9, rfl, _⟩ := ho9.form
      have hs9 := hb9.size
      have HG9 := Lib.hid (HG6.out.below hb9 (by omega))
      have HB9 := Lib.hid (HB6.out.trans (hb9.mono HB6.out.size))
      have HO9 := Lib.hid ho9
      have hls := HB6.out.size
      clear hE ho9 hb9
      have d0 := HG9.out.cell0
      have d1 := HG9.out.cell1
      have f0 := HG9.out.free 0
      have f1 := HG9.out.free 1
      go_wp2_with fail
      have e2 := (HG9.out.set0 (.int .i64 rp)).set1 (.slice A9 rts.length c9)
      refine bodyPost_ret (v := .tuple #[.agg #[.int .i64 rp, .slice A9 rts.length c9], .int .i64 rz]) ?_ ?_ ?_
      · exact results_row_tmp Try.results85 _ _ (w.heap.size + 1) _ _ rfl rfl (run_loadVar_row _ _ _ _ _ _ _ e2 Try.underlying25 rfl size_sum)
      · rfl
      · have ho7 := ((HO9.out.set_other ⟨w.heap.size + 1, 0, none⟩ (.int .i64 rp) (by show w.heap.size + 1 < _; omega)).set_other ⟨w.heap.size + 1, 1, none⟩ (.slice A9 rts.length c9) (by show w.heap.size + 1 < _; omega)).mono (lo' := w.heap.size) (by omega)
        exact ⟨_, vs9, rfl, ho7, ((HB9.out.setCell (by show w.heap.size ≤ w.heap.size + 1; omega) _).setCell (by show w.heap.size ≤ w.heap.size + 1; omega) _)⟩
set_option maxHeartbeats 4000000 in
theorem replaceRot_any (p : Int) (A : Option Addr) (n c : Nat) (ts : Tms) (j : Int) (bk : Nat) (w : World) (hr : RdT w A n ts) (hs : isSum p ts = true)
    (hcl : ∀ (X : World) (C : Option Addr) (m0 d : Nat) (xs : List Int), Below w.heap.size w X → isWord xs = true → Rd X C m0 xs → m0 ≤ d → GivesR 90 #[.slice C m0 d, .pointer (some ⟨bk, 0, none⟩)] X (rotW j xs)) :
    GaveS 85 #[.agg #[.int .i64 p, .slice A n c], .func (.func 90) #[] #[.pointer (some ⟨bk, 0, none⟩)]] w (toldT p (putAll p [] (mapL (rotW j) ts))) := by
  obtain ⟨W, hW⟩ : ∃ W, W = (w.alloc (.cells #[.int .i64 p, .slice A n c] 25)).alloc (.cells #[.int .i64 0, .slice none 0 0] 25) := ⟨_, rfl⟩
  have hBW : Below w.heap.size w W := by rw [hW]; exact (below_alloc _ _).alloc (by simp) _
  have hsW : W.heap.size = w.heap.size + 2 := by rw [hW]; simp
  have g1 : Box2 W w.heap.size 25 (.int .i64 p) (.slice A n c) := by rw [hW]; exact (box2_new _ _ _ _).alloc _
  have g2 : Box2 W (w.heap.size + 1) 25 (.int .i64 0) (.slice none 0 0) := by
    have h := box2_new (w.alloc (.cells #[.int .i64 p, .slice A n c] 25)) 25 (.int .i64 0) (.slice none 0 0)
    rw [hW]; simpa using h
  have hpb := prime_bd (isSum_prime hs)
  have hpl := plain_mapL (f := (rotW j)) (isSum_plain hs) (fun w h => rotW_word h)
  have hfc := putAll_facts (p := p) (by omega) hpl
  have hl2 := isSum_len hs
  have hn2 : n ≤ 200 := by have := hr.len; omega
  obtain ⟨rp, rts, rz, hR⟩ : ∃ rp rts rz, toldT p (putAll p [] (mapL (rotW j) ts)) = ((rp, rts), rz) := ⟨_, _, _, rfl⟩
  have HRR := Lib.hid hR
  have HFC := Lib.hid hfc
  have HSUM := Lib.hid hs
  have HL := Lib.hid hr.len
  have HR := Lib.hid (RdTB.below hr hBW)
  have HG1 := Lib.hid g1
  have HG2 := Lib.hid g2
  have HB := Lib.hid hBW
  have HS := Lib.hid hsW
  have HW := Lib.hid hW
  have HCL := Lib.hid hcl
  have q0 := g1.cell0
  have q1 := g1.cell1
  rw [hR]
  clear hr hs hpl hfc hl2 hR g1 g2 hBW hsW hW hcl
  unfold GaveS
  go_enter Try.func85, Try.ntmps85
  go_wp2_with fail
  rw [← HW.out]
  go_wp2_with fail
  refine (newSumOf_any p _).mono ?_
  rintro e w3 ⟨b, rfl, hbl, hc3, hb3⟩
  obtain ⟨V, hV⟩ : ∃ V, V = w3.alloc (.cells #[.int .i64 p, .map (some b)] 74) := ⟨_, rfl⟩
  have hv3 : Below w3.heap.size w3 V := by rw [hV]; exact below_alloc _ _
  have hsV : V.heap.size = w3.heap.size + 1 := by rw [hV]; simp
  have hbx : Box2 V w3.heap.size 74 (.int .i64 p) (.map (some b)) := by rw [hV]; exact box2_new _ _ _ _
  have hs3 := hb3.size
  have hbV : Below W.heap.size W V := hb3.trans (hv3.mono hb3.size)
  have hblt := hc3.lt
  have HV := Lib.hid hV
  have HBX := Lib.hid hbx
  have hsw2 := HS.out
  have HX1 := Lib.hid (HG1.out.below hbV (by omega))
  have HGV := Lib.hid (HG2.out.below hbV (by omega))
  have HBV := Lib.hid (HB.out.trans (hbV.mono HB.out.size))
  have HCV : Hid (Coefs V b 0 (fun _ => 0)) := Lib.hid (hc3.kept (grown_of_below hv3 none) (by simp))
  have HRV : Hid (RdTB V w.heap.size A n ts) := Lib.hid (HR.out.below ((hbV.mono HB.out.size)))
  have HSV := Lib.hid hsV
  clear hV hv3 hbx hb3 hbV hc3 q0 q1
  have q1 := HX1.out.cell1
  go_upto_region 2 with fail
  rw [← HV.out]
  go_wp2_with fail
  clear q1
  go_loopw [15] (fun i wr => ∃ k : Nat, k ≤ n ∧ i = .int .i64 k ∧ Hid (Coefs wr b k (addAll p (fun _ => 0) (mapL (rotW j) (ts.take k)))) ∧ Hid (Fr b (b + 1) V wr)) (fun i _ => n - (intOf i).toNat)
  case atStart => exact ⟨0, by omega, rfl, HCV, Lib.hid (frg_refl _ _)⟩
  case round =>
    obtain ⟨k, hk, rfl, hcr, hfr⟩ := hrel
    have hszr := hfr.out.size
    by_cases hlt : k < n
    · obtain ⟨b0, o, C, m0, d, rfl, ha, hc0, hc1, hrk, hmd, hd⟩ := ((HRV.out.frg hfr.out (by omega) (by omega)).rd (by omega)).at_ hlt
      have hkl : k < ts.length := by have := HL.out; omega
      obtain ⟨z, hz⟩ : ∃ z, z = vl ts k := ⟨_, rfl⟩
      obtain ⟨xs, hxs⟩ : ∃ xs, xs = wd ts k := ⟨_, rfl⟩
      have hmem := isSum_mem HSUM.out (wd_mem hkl)
      have hstep := mapL_take (rotW j) ts k hkl
      rw [← hz, ← hxs] at hmem hstep
      rw [← hz] at hc1
      rw [← hxs] at hrk
      have HX : Hid (isWord xs = true) := Lib.hid hmem.1
      have HXF : Hid (isWord ((rotW j) xs) = true) := Lib.hid ((fun w h => rotW_word h) xs hmem.1)
      have HZ : Hid (1 ≤ z ∧ z ≤ p - 1) := Lib.hid hmem.2
      have hm12 : m0 ≤ 12 := by have h1 := hrk.len; have h2 := isWord_len HX.out; omega
      obtain ⟨g, hg⟩ : ∃ g, g = addAll p (fun _ => 0) (mapL (rotW j) (ts.take k)) := ⟨_, rfl⟩
      have hgr : Resid p g := by rw [hg]; exact resid_addAll (by omega) _ _ (resid_zero (by omega))
      have hgn : addAll p (fun _ => 0) (mapL (rotW j) (ts.take (k + 1))) = upd g ((rotW j) xs) ((g ((rotW j) xs) + z) % p) := by rw [hstep, addAll_snoc, ← hg]
      rw [← hg] at hcr
      obtain ⟨V2, hV2⟩ : ∃ V2, V2 = wr.alloc (.cells #[.slice C m0 d, .int .i64 z] 93) := ⟨_, rfl⟩
      have hvw : Below wr.heap.size wr V2 := by rw [hV2]; exact below_alloc _ _
      have hbx2 : Box2 V2 wr.heap.size 93 (.slice C m0 d) (.int .i64 z) := by rw [hV2]; exact box2_new _ _ _ _
      have hb1 : Box2 V2 w3.heap.size 74 (.int .i64 p) (.map (some b)) := (HBX.out.frg hfr.out (by omega)).below hvw (by have := HSV.out; omega)
      have HK : Hid (∀ X, Fr b (b + 1) V2 X → X.cell? ⟨w3.heap.size, 0, none⟩ = some (.int .i64 p) ∧ X.cell? ⟨w3.heap.size, 1, none⟩ = some (.map (some b)) ∧ X.cell? ⟨wr.heap.size, 0, none⟩ = some (.slice C m0 d) ∧ X.cell? ⟨wr.heap.size, 1, none⟩ = some (.int .i64 z) ∧ Hid (Fr b (b + 1) V2 X)) :=
        Lib.hid (fun X hX => ⟨(hb1.frg hX (by omega)).cell0, (hb1.frg hX (by omega)).cell1, (hbx2.frg hX (by have := HSV.out; omega)).cell0, (hbx2.frg hX (by have := HSV.out; omega)).cell1, Lib.hid hX⟩)
      have HV2 := Lib.hid hV2
      have HCD : Hid (Coefs V2.drew b k g) := Lib.hid (hcr.out.kept (grown_of_below hvw.drew none) (by simp))
      have HRK : Hid (Rd V2.drew C m0 xs) := Lib.hid (hrk.below hvw.drew)
      have HFV : Hid (Fr b (b + 1) V V2) := Lib.hid (frg_trans hfr.out (frg_below hvw))
      have HBD : Hid (Below w.heap.size w V2.drew) := Lib.hid (HBV.out.trans (below_frg (frg_trans HFV.out (frg_drew b V2)) (by omega) (by have := HBV.out.size; omega)))
      have HGR := Lib.hid hgr
      have HGN := Lib.hid hgn
      have hkb : k < 1099511627776 := by omega
      have HCX := Lib.hid (HCL.out V2.drew C m0 d xs HBD.out HX.out HRK.out hmd)
      clear hz hxs hmem hstep hg hgr hgn hV2 hvw hbx2 hb1 hrk hmd hd hfr hcr
      unfold GivesR at HCX
      go_upto_region 5 with fail
      rw [← HV2.out]
      clear hc0 hc1
      go_region_held3 (fun X => X.cell? ⟨w3.heap.size, 0, none⟩ = some (.int .i64 p) ∧ X.cell? ⟨w3.heap.size, 1, none⟩ = some (.map (some b)) ∧ X.cell? ⟨wr.heap.size, 0, none⟩ = some (.slice C m0 d) ∧ X.cell? ⟨wr.heap.size, 1, none⟩ = some (.int .i64 z) ∧ Hid (Fr b (b + 1) V2 X))
        ((refine HK.out _ ?_; first | exact Hid.out (by assumption) | exact frg_drew _ _))
        ((first
          | (go_at_call 90; refine Calls.mono HCX.out ?_; rintro e w4 ⟨B4, m4, d4, rfl, hr4, hb4⟩; have HF4 : Hid (Fr b (b + 1) V2 w4) := Lib.hid (frg_trans (frg_drew b V2) (frg_below hb4)); have HC4 := Lib.hid (HCD.out.below hb4); have HR4 := Lib.hid hr4; have hm4 : m4 ≤ 12 := (by have h1 := hr4.len; have h2 := isWord_len HXF.out; omega); clear hb4 hr4)
          | (go_at_call 63; refine (termKeyOf_any B4 m4 d4 ((rotW j) xs) _ HR4.out hm4).mono ?_; rintro e w5 ⟨rfl, hb5⟩; have HF5 : Hid (Fr b (b + 1) V2 w5) := Lib.hid (frg_trans HF4.out (frg_below hb5)); have HC5 := Lib.hid (HC4.out.below hb5); clear hb5)
          | (go_at_call 62; refine (add_any p z b k g ((rotW j) xs) _ HC5.out hkb HXF.out (word_wf HXF.out) (by omega) (by have := HGR.out ((rotW j) xs); omega) (by have := HZ.out; omega)).mono ?_; rintro e w6 ⟨rfl, hc6, hg6⟩; have HF6 : Hid (Fr b (b + 1) V2 w6) := Lib.hid (frg_trans HF5.out (frg_grown hg6)); have HC6 := Lib.hid hc6; clear hc6 hg6)))
      all_goals go_wp2_with fail
      all_goals go_roundw
      case rel => exact ⟨k + 1, by omega, by go_num, Lib.hid (by rw [HGN.out]; exact HC6.out), Lib.hid (frg_trans HFV.out HF6.out)⟩
      case measure => simp [intOf]; omega
    · obtain rfl : k = n := by omega
      have HT : Hid (ts.take k = ts) := Lib.hid (List.take_of_length_le (by rw [HL.out]; exact Nat.le_refl _))
      have hc6 := hcr.out
      rw [HT.out] at hc6
      have HC6 := Lib.hid hc6
      have HB6 : Hid (Below w.heap.size w wr) := Lib.hid (HBV.out.trans (below_frg hfr.out (by omega) (by have := HBV.out.size; omega)))
      have HG6 := Lib.hid (HGV.out.frg hfr.out (by omega))
      have HX6 := Lib.hid (HBX.out.frg hfr.out (by omega))
      have hs7 := HSV.out
      have hs8 := HS.out
      clear hcr hc6
      have x0 := HX6.out.cell0
      have x1 := HX6.out.cell1
      go_wp2_with fail
      have hE := endSum_any p b (k) (addAll p (fun _ => 0) (mapL (rotW j) ts)) (putAll p [] (mapL (rotW j) ts)) _ HC6.out (by omega) HFC.out.1 (fun ys _ => HFC.out.2.1 ys)
      rw [HRR.out] at hE
      refine Calls.mono hE ?_
      rintro e w9 ⟨v9, vs9, rfl, ho9, hb9⟩
      obtain ⟨A9, c9, rfl, _⟩ := ho9.form
      have hs9 := hb9.size
      have HG9 := Lib.hid (HG6.out.below hb9 (by omega))
      have HB9 := Lib.hid (HB6.out.trans (hb9.mono HB6.out.size))
      have HO9 := Lib.hid ho9
      have hls := HB6.out.size
      clear hE ho9 hb9
      have d0 := HG9.out.cell0
      have d1 := HG9.out.cell1
      have f0 := HG9.out.free 0
      have f1 := HG9.out.free 1
      go_wp2_with fail
      have e2 := (HG9.out.set0 (.int .i64 rp)).set1 (.slice A9 rts.length c9)
      refine bodyPost_ret (v := .tuple #[.agg #[.int .i64 rp, .slice A9 rts.length c9], .int .i64 rz]) ?_ ?_ ?_
      · exact results_row_tmp Try.results85 _ _ (w.heap.size + 1) _ _ rfl rfl (run_loadVar_row _ _ _ _ _ _ _ e2 Try.underlying25 rfl size_sum)
      · rfl
      · have ho7 := ((HO9.out.set_other ⟨w.heap.size + 1, 0, none⟩ (.int .i64 rp) (by show w.heap.size + 1 < _; omega)).set_other ⟨w.heap.size + 1, 1, none⟩ (.slice A9 rts.length c9) (by show w.heap.size + 1 < _; omega)).mono (lo' := w.heap.size) (by omega)
        exact ⟨_, vs9, rfl, ho7, ((HB9.out.setCell (by show w.heap.size ≤ w.heap.size + 1; omega) _).setCell (by show w.heap.size ≤ w.heap.size + 1; omega) _)⟩
end Go.Proofs.Ytofcldplgkejiaa

namespace Go.Proofs.Ytofcldplgkejiaa
open Go.RowKit
set_option linter.unusedVariables false
set_option linter.unusedSimpArgs false
set_option maxRecDepth 100000


set_option maxHeartbeats 8000000 in
theorem implDerivativeOf_any (p : Int) (A : Option Addr) (n c : Nat) (ts : Tms) (w : World) (hr : RdT w A n ts) (hwf : WfT ts) (hN : need ts ≤ 1048576) (hp : -9223372036854775808 ≤ p ∧ p ≤ 9223372036854775807) :
    GaveS 32 #[.agg #[.int .i64 p, .slice A n c]] w (sumRes p ts (derL ts)) := by
  obtain ⟨W, hW⟩ : ∃ W, W = (w.alloc (.cells #[.int .i64 p, .slice A n c] 25)).alloc (.cells #[.int .i64 0, .slice none 0 0] 25) := ⟨_, rfl⟩
  have hBW : Below w.heap.size w W := by rw [hW]; exact (below_alloc _ _).alloc (by simp) _
  have hsW : W.heap.size = w.heap.size + 2 := by rw [hW]; simp
  have g1 : Box2 W w.heap.size 25 (.int .i64 p) (.slice A n c) := by rw [hW]; exact (box2_new _ _ _ _).alloc _
  have g2 : Box2 W (w.heap.size + 1) 25 (.int .i64 0) (.slice none 0 0) := by
    have h := box2_new (w.alloc (.cells #[.int .i64 p, .slice A n c] 25)) 25 (.int .i64 0) (.slice none 0 0)
    rw [hW]; simpa using h
  have HWT := Lib.hid hwf
  have HN := Lib.hid hN
  have HL := Lib.hid hr.len
  have HRR : Hid (RdT W A n ts) := Lib.hid (hr.below hBW)
  have HRB : Hid (RdTB W w.heap.size A n ts) := Lib.hid (RdTB.below hr hBW)
  have HG1 := Lib.hid g1
  have HG2 := Lib.hid g2
  have HB := Lib.hid hBW
  have HS := Lib.hid hsW
  have HW := Lib.hid hW
  have q0 := g1.cell0
  have q1 := g1.cell1
  clear hr hwf hN g1 g2 hBW hsW hW
  rcases hsm : isSum p ts with _ | _
  · have H := Lib.hid hsm
    rw [show sumRes p ts (derL ts) = ((0, []), 1) from by exact sumRes_no _ hsm]
    clear hsm
    unfold GaveS
    go_enter Try.func32, Try.ntmps32
    go_wp2_with fail
    rw [← HW.out]
    refine (isSumI_any _ _ _ _ ts _ HRR.out HWT.out HN.out hp).mono ?_
    rintro e w1 ⟨rfl, hb1⟩
    rw [H.out]
    have HG3 := Lib.hid (HG2.out.below hb1 (by rw [HS.out]; omega))
    have HB3 := Lib.hid (HB.out.trans (hb1.mono HB.out.size))
    clear hb1 q0 q1
    have d0 := HG3.out.cell0
    have d1 := HG3.out.cell1
    have f0 := HG3.out.free 0
    have f1 := HG3.out.free 1
    go_wp2_with fail
    have e2 := (HG3.out.set0 (.int .i64 0)).set1 (.slice none 0 0)
    refine bodyPost_ret (v := .tuple #[.agg #[.int .i64 0, .slice none 0 0], .int .i64 1]) ?_ ?_ ?_
    · exact results_row_tmp Try.results32 _ _ (w.heap.size + 1) _ _ rfl rfl (run_loadVar_row _ _ _ _ _ _ _ e2 Try.underlying25 rfl size_sum)
    · rfl
    · exact ⟨_, _, rfl, OwnT.nil_ _ _, ((HB3.out.setCell (by show w.heap.size ≤ w.heap.size + 1; omega) _).setCell (by show w.heap.size ≤ w.heap.size + 1; omega) _)⟩
  have HSUM := Lib.hid hsm
  have hpb := prime_bd (isSum_prime hsm)
  have hpl := plain_derL (isSum_plain hsm)
  have hfc := putAll_facts (p := p) (by omega) hpl
  have hl2 := isSum_len hsm
  have hn2 : n ≤ 200 := by have := HL.out; omega
  obtain ⟨rp, rts, rz, hR⟩ : ∃ rp rts rz, sumRes p ts (derL ts) = ((rp, rts), rz) := ⟨_, _, _, rfl⟩
  have HR9 : Hid (toldT p (putAll p [] (derL ts)) = ((rp, rts), rz)) := Lib.hid (by rw [← hR]; exact (sumRes_yes _ hsm).symm)
  have HFC := Lib.hid hfc
  rw [hR]
  clear hR hsm hpl hfc hl2
  unfold GaveS
  go_enter Try.func32, Try.ntmps32
  go_wp2_with fail
  rw [← HW.out]
  refine (isSumI_any _ _ _ _ ts _ HRR.out HWT.out HN.out hp).mono ?_
  rintro e w1 ⟨rfl, hb1⟩
  rw [HSUM.out]
  obtain ⟨W0, hW0⟩ : ∃ W0, W0 = w1 := ⟨_, rfl⟩
  rw [← hW0] at hb1 ⊢
  clear hW0
  have hs1 := hb1.size
  have HX1 := Lib.hid (HG1.out.below hb1 (by rw [HS.out]; omega))
  have HGV := Lib.hid (HG2.out.below hb1 (by rw [HS.out]; omega))
  have HRV := Lib.hid (HRB.out.below (hb1.mono (by rw [HS.out]; omega)))
  have HBV := Lib.hid (HB.out.trans (hb1.mono HB.out.size))
  have HS0 : Hid (w.heap.size + 2 ≤ W0.heap.size) := Lib.hid (by have := HS.out; omega)
  clear q0 q1 hb1
  have q0 := HX1.out.cell0
  have q1 := HX1.out.cell1
  go_wp2_with fail
  refine (newSumOf_any p _).mono ?_
  rintro e w3 ⟨b, rfl, hbl, hc3, hb3⟩
  obtain ⟨V, hV⟩ : ∃ V, V = w3.alloc (.cells #[.int .i64 p, .map (some b)] 74) := ⟨_, rfl⟩
  have hv3 : Below w3.heap.size w3 V := by rw [hV]; exact below_alloc _ _
  have hsV : V.heap.size = w3.heap.size + 1 := by rw [hV]; simp
  have hbx : Box2 V w3.heap.size 74 (.int .i64 p) (.map (some b)) := by rw [hV]; exact box2_new _ _ _ _
  have hs3 := hb3.size
  have hbV : Below W0.heap.size W0 V := hb3.trans (hv3.mono hb3.size)
  have hblt := hc3.lt
  have HV := Lib.hid hV
  have HBX := Lib.hid hbx
  have hsw2 := HS0.out
  have HX1 := Lib.hid (HX1.out.below hbV (by omega))
  have HGV := Lib.hid (HGV.out.below hbV (by omega))
  have HRV := Lib.hid (HRV.out.below (hbV.mono (by omega)))
  have HBV := Lib.hid (HBV.out.trans (hbV.mono HBV.out.size))
  have HCV : Hid (Coefs V b 0 (fun _ => 0)) := Lib.hid (hc3.kept (grown_of_below hv3 none) (by simp))
  have HSV := Lib.hid hsV
  clear hV hv3 hbx hb3 hbV hc3 q0 q1
  have q1 := HX1.out.cell1
  go_upto_region 4 with fail
  rw [← HV.out]
  go_wp2_with fail
  clear q1
  go_loopw [18] (fun i wr => ∃ k : Nat, ∃ mm : Nat, k ≤ n ∧ mm ≤ 6 * k ∧ i = .int .i64 k ∧ Hid (Coefs wr b mm (addAll p (fun _ => 0) (derL (ts.take k)))) ∧ Hid (Fr b (b + 1) V wr)) (fun i _ => n - (intOf i).toNat)
  case atStart => exact ⟨0, 0, by omega, by omega, rfl, HCV, Lib.hid (frg_refl _ _)⟩
  case round =>
    rename World => wo
    obtain ⟨k, mm, hk, hmk, rfl, hcr, hfr⟩ := hrel
    have hszr := hfr.out.size
    by_cases hlt : k < n
    · obtain ⟨b0, o, C, m0, d, rfl, ha, hc0, hc1, hrk, hmd, hd⟩ := (HRV.out.frg hfr.out (by omega) (by omega)).atB hlt
      have hkl : k < ts.length := by have := HL.out; omega
      obtain ⟨z, hz⟩ : ∃ z, z = vl ts k := ⟨_, rfl⟩
      obtain ⟨xs, hxs⟩ : ∃ xs, xs = wd ts k := ⟨_, rfl⟩
      have hmem := isSum_mem HSUM.out (wd_mem hkl)
      have hstep := derL_take ts k hkl
      rw [← hz, ← hxs] at hmem hstep
      rw [← hz] at hc1
      rw [← hxs] at hrk
      have HX : Hid (isWord xs = true) := Lib.hid hmem.1
      have HZ : Hid (1 ≤ z ∧ z ≤ p - 1) := Lib.hid hmem.2
      obtain ⟨hh, hev⟩ := word_even HX.out
      have hlx : xs.length = m0 := hrk.1
      have hm12 : m0 ≤ 12 := by have h2 := isWord_len HX.out; omega
      have hhe : (m0 : Int) / 2 = (hh : Int) := by omega
      have hh6 : hh ≤ 6 := by omega
      obtain ⟨L0, hL0⟩ : ∃ L0, L0 = derL (ts.take k) := ⟨_, rfl⟩
      have hgn : derL (ts.take (k + 1)) = L0 ++ derW xs z hh := by rw [hstep, ← hL0, show xs.length / 2 = hh from by omega]
      rw [← hL0] at hcr
      obtain ⟨V2, hV2⟩ : ∃ V2, V2 = wo.alloc (.cells #[.slice C m0 d, .int .i64 z] 93) := ⟨_, rfl⟩
      have hvw : Below wo.heap.size wo V2 := by rw [hV2]; exact below_alloc _ _
      have hbx2 : Box2 V2 wo.heap.size 93 (.slice C m0 d) (.int .i64 z) := by rw [hV2]; exact box2_new _ _ _ _
      have hb1 : Box2 V2 w3.heap.size 74 (.int .i64 p) (.map (some b)) := (HBX.out.frg hfr.out (by omega)).below hvw (by have := HSV.out; omega)
      have y0 := hbx2.cell0
      have HBX2 := Lib.hid hbx2
      have HB1 := Lib.hid hb1
      have HV2 := Lib.hid hV2
      have HC2 : Hid (Coefs V2 b mm (addAll p (fun _ => 0) (L0 ++ derW xs z 0))) := Lib.hid (by rw [show L0 ++ derW xs z 0 = L0 from by unfold derW; simp]; exact hcr.out.kept (grown_of_below hvw none) (by simp))
      have HRK : Hid (RdB V2 w.heap.size C m0 xs) := Lib.hid (hrk.below (hvw.mono (by have := HSV.out; omega)))
      have HFV : Hid (Fr b (b + 1) V V2) := Lib.hid (frg_trans hfr.out (frg_below hvw))
      have hsz2 := hvw.size
      have HGN := Lib.hid hgn
      have HHE := Lib.hid hhe
      have HXW : Hid (Wf xs) := Lib.hid (word_wf HX.out)
      clear hz hxs hmem hstep hL0 hgn hV2 hvw hbx2 hb1 hrk hmd hd hfr hcr hev hlx hhe
      go_upto_region 7 with fail
      rw [← HV2.out]
      clear hc0 hc1
      go_wp2_with fail
      refine (chordsOf_any _ _ _ _ (by omega)).mono ?_
      rintro e w2 ⟨rfl, rfl⟩
      rw [HHE.out]
      go_wp2_with fail
      clear y0
      go_loopw [25] (fun i wr => ∃ q : Nat, q ≤ hh ∧ i = .int .i64 q ∧ Hid (Coefs wr b (mm + q) (addAll p (fun _ => 0) (L0 ++ derW xs z q))) ∧ Hid (Fr b (b + 1) V2 wr)) (fun i _ => hh - (intOf i).toNat)
      case atStart => exact ⟨0, by omega, rfl, HC2, Lib.hid (frg_refl _ _)⟩
      case round =>
        obtain ⟨q, hq, rfl, hci, hfi⟩ := hrel
        have hszi := hfi.out.size
        by_cases hqt : q < hh
        · have hqi : (q : Int) < (hh : Int) := by omega
          have hb3 : Box2 wr w3.heap.size 74 (.int .i64 p) (.map (some b)) := HB1.out.frg hfi.out (by omega)
          have hb4 : Box2 wr wo.heap.size 93 (.slice C m0 d) (.int .i64 z) := HBX2.out.frg hfi.out (by have := HSV.out; omega)
          have HK : Hid (∀ X, Fr b (b + 1) wr X → X.cell? ⟨w3.heap.size, 0, none⟩ = some (.int .i64 p) ∧ X.cell? ⟨w3.heap.size, 1, none⟩ = some (.map (some b)) ∧ X.cell? ⟨wo.heap.size, 0, none⟩ = some (.slice C m0 d) ∧ X.cell? ⟨wo.heap.size, 1, none⟩ = some (.int .i64 z) ∧ Hid (Fr b (b + 1) wr X)) :=
            Lib.hid (fun X hX => ⟨(hb3.frg hX (by omega)).cell0, (hb3.frg hX (by omega)).cell1, (hb4.frg hX (by have := HSV.out; omega)).cell0, (hb4.frg hX (by have := HSV.out; omega)).cell1, Lib.hid hX⟩)
          obtain ⟨g, hg⟩ : ∃ g, g = addAll p (fun _ => 0) (L0 ++ derW xs z q) := ⟨_, rfl⟩
          have hgr : Resid p g := by rw [hg]; exact resid_addAll (by omega) _ _ (resid_zero (by omega))
          have hgs : addAll p (fun _ => 0) (L0 ++ derW xs z (q + 1)) = upd g (without xs q) ((g (without xs q) + z) % p) := by rw [derW_succ, ← List.append_assoc, addAll_snoc, ← hg]
          rw [← hg] at hci
          have HCD : Hid (Coefs wr.drew b (mm + q) g) := Lib.hid (hci.out.kept (grown_of_below (Below.refl _ _).drew none) (by simp))
          have HRD : Hid (Rd wr.drew C m0 xs) := Lib.hid (((HRK.out.frg hfi.out (by omega) (by omega)).rd (by omega)).below (Below.refl _ _).drew)
          have HXQ : Hid (isWord (without xs q) = true) := Lib.hid (without_word HX.out _)
          have HLQ : Hid ((without xs q).length ≤ 12) := Lib.hid (isWord_len HXQ.out)
          have HGR := Lib.hid hgr
          have HGS := Lib.hid hgs
          have hkb2 : mm + q < 1099511627776 := by omega
          clear hb3 hb4 hg hgr hgs hci
          go_upto_region 10 with fail
          go_region_held3 (fun X => X.cell? ⟨w3.heap.size, 0, none⟩ = some (.int .i64 p) ∧ X.cell? ⟨w3.heap.size, 1, none⟩ = some (.map (some b)) ∧ X.cell? ⟨wo.heap.size, 0, none⟩ = some (.slice C m0 d) ∧ X.cell? ⟨wo.heap.size, 1, none⟩ = some (.int .i64 z) ∧ Hid (Fr b (b + 1) wr X))
            ((refine HK.out _ ?_; first | exact Hid.out (by assumption) | exact frg_drew _ _))
            ((first
              | (go_at_call 83; refine (wordWithout_any C m0 d xs (q : Int) _ HRD.out HXW.out (by omega)).mono ?_; rintro e w4 ⟨v4, rfl, ho4, hb4⟩; obtain ⟨B4, m4, d4, rfl, hm4, hr4⟩ := ho4.form'; have HF4 : Hid (Fr b (b + 1) wr w4) := Lib.hid (frg_trans (frg_drew b wr) (frg_below hb4)); have HC4 := Lib.hid (HCD.out.below hb4); have HR4 := Lib.hid hr4; have hm4 : m4 ≤ 12 := (by have h1 := hr4.len; have h2 := HLQ.out; omega); clear hb4 hr4 ho4)
              | (go_at_call 63; refine (termKeyOf_any B4 m4 d4 (without xs q) _ HR4.out hm4).mono ?_; rintro e w5 ⟨rfl, hb5⟩; have HF5 : Hid (Fr b (b + 1) wr w5) := Lib.hid (frg_trans HF4.out (frg_below hb5)); have HC5 := Lib.hid (HC4.out.below hb5); clear hb5)
              | (go_at_call 62; refine (add_any p z b (mm + q) g (without xs q) _ HC5.out hkb2 HXQ.out (word_wf HXQ.out) (by omega) (by have := HGR.out (without xs q); omega) (by have := HZ.out; omega)).mono ?_; rintro e w6 ⟨rfl, hc6, hg6⟩; have HF6 : Hid (Fr b (b + 1) wr w6) := Lib.hid (frg_trans HF5.out (frg_grown hg6)); have HC6 := Lib.hid hc6; clear hc6 hg6)))
          all_goals go_wp2_with fail
          all_goals go_roundw
          case rel => exact ⟨q + 1, by omega, by go_num, Lib.hid (by rw [HGS.out]; exact HC6.out), Lib.hid (frg_trans hfi.out HF6.out)⟩
          case measure => simp [intOf]; omega
        · obtain rfl : q = hh := by omega
          go_wp2_with fail
          go_roundw
          case rel => exact ⟨k + 1, mm + q, by omega, by omega, by go_num, Lib.hid (by rw [HGN.out]; exact hci.out), Lib.hid (frg_trans HFV.out hfi.out)⟩
          case measure => simp [intOf]; omega
    · obtain rfl : k = n := by omega
      have HT : Hid (ts.take k = ts) := Lib.hid (List.take_of_length_le (by rw [HL.out]; exact Nat.le_refl _))
      have hc6 := hcr.out
      rw [HT.out] at hc6
      have HC6 := Lib.hid hc6
      have HB6 : Hid (Below w.heap.size w wo) := Lib.hid (HBV.out.trans (below_frg hfr.out (by omega) (by have := HBV.out.size; omega)))
      have HG6 := Lib.hid (HGV.out.frg hfr.out (by omega))
      have HX6 := Lib.hid (HBX.out.frg hfr.out (by omega))
      have hs7 := HSV.out
      have hs8 := HS0.out
      clear hcr hc6
      have x0 := HX6.out.cell0
      have x1 := HX6.out.cell1
      go_wp2_with fail
      have hE := endSum_any p b (mm) (addAll p (fun _ => 0) (derL ts)) (putAll p [] (derL ts)) _ HC6.out (by omega) HFC.out.1 (fun ys _ => HFC.out.2.1 ys)
      rw [HR9.out] at hE
      refine Calls.mono hE ?_
      rintro e w9 ⟨v9, vs9, rfl, ho9, hb9⟩
      obtain ⟨A9, c9, rfl, _⟩ := ho9.form
      have hs9 := hb9.size
      have HG9 := Lib.hid (HG6.out.below hb9 (by omega))
      have HB9 := Lib.hid (HB6.out.trans (hb9.mono HB6.out.size))
      have HO9 := Lib.hid ho9
      have hls := HB6.out.size
      clear hE ho9 hb9
      have d0 := HG9.out.cell0
      have d1 := HG9.out.cell1
      have f0 := HG9.out.free 0
      have f1 := HG9.out.free 1
      go_wp2_with fail
      have e2 := (HG9.out.set0 (.int .i64 rp)).set1 (.slice A9 rts.length c9)
      refine bodyPost_ret (v := .tuple #[.agg #[.int .i64 rp, .slice A9 rts.length c9], .int .i64 rz]) ?_ ?_ ?_
      · exact results_row_tmp Try.results32 _ _ (w.heap.size + 1) _ _ rfl rfl (run_loadVar_row _ _ _ _ _ _ _ e2 Try.underlying25 rfl size_sum)
      · rfl
      · have ho7 := ((HO9.out.set_other ⟨w.heap.size + 1, 0, none⟩ (.int .i64 rp) (by show w.heap.size + 1 < _; omega)).set_other ⟨w.heap.size + 1, 1, none⟩ (.slice A9 rts.length c9) (by show w.heap.size + 1 < _; omega)).mono (lo' := w.heap.size) (by omega)
        exact ⟨_, vs9, rfl, ho7, ((HB9.out.setCell (by show w.heap.size ≤ w.heap.size + 1; omega) _).setCell (by show w.heap.size ≤ w.heap.size + 1; omega) _)⟩

end Go.Proofs.Ytofcldplgkejiaa
