/- Two sums that go together: the program's checkSums, the model's l03Like. -/
/- A term of a sum, its word below a block; the model's l03Told. -/
/- The program's AddSums. -/
import Derived.Test.YtofcldplgkejiaaSumFrame
namespace Go.Proofs.Ytofcldplgkejiaa
open Go.RowKit
set_option linter.unusedVariables false
set_option linter.unusedSimpArgs false
set_option maxRecDepth 100000

set_option maxHeartbeats 4000000 in
theorem checkSums_any (p q : Int) (A B : Option Addr) (n c m d : Nat) (ts us : Tms) (w : World) (hr : RdT w A n ts) (hwf : WfT ts) (hN : need ts ≤ 1048576) (hp : -9223372036854775808 ≤ p ∧ p ≤ 9223372036854775807) (hr2 : RdT w B m us) (hwf2 : WfT us) (hN2 : need us ≤ 1048576) (hq : -9223372036854775808 ≤ q ∧ q ≤ 9223372036854775807) :
    Calls Try.prog 73 #[.agg #[.int .i64 p, .slice A n c], .agg #[.int .i64 q, .slice B m d]] w fun e w' => e = .returned (.int .i64 (likeC p ts q us)) ∧ Below w.heap.size w w' := by
  obtain ⟨W, hW⟩ : ∃ W, W = (w.alloc (.cells #[.int .i64 p, .slice A n c] 25)).alloc (.cells #[.int .i64 q, .slice B m d] 25) := ⟨_, rfl⟩
  have hBW : Below w.heap.size w W := by rw [hW]; exact (below_alloc _ _).alloc (by simp) _
  have hsW : W.heap.size = w.heap.size + 2 := by rw [hW]; simp
  have g1 : Box2 W w.heap.size 25 (.int .i64 p) (.slice A n c) := by rw [hW]; exact (box2_new _ _ _ _).alloc _
  have g2 : Box2 W (w.heap.size + 1) 25 (.int .i64 q) (.slice B m d) := by
    have h := box2_new (w.alloc (.cells #[.int .i64 p, .slice A n c] 25)) 25 (.int .i64 q) (.slice B m d)
    rw [hW]; simpa using h
  have HWA := Lib.hid hwf
  have HNA := Lib.hid hN
  have HWB := Lib.hid hwf2
  have HNB := Lib.hid hN2
  have HRA : Hid (RdT W A n ts) := Lib.hid (hr.below hBW)
  have HRB : Hid (RdT W B m us) := Lib.hid (hr2.below hBW)
  have HG1 := Lib.hid g1
  have HG2 := Lib.hid g2
  have HB := Lib.hid hBW
  have HS := Lib.hid hsW
  have HW := Lib.hid hW
  have q0 := g1.cell0
  have q1 := g1.cell1
  have q2 := g2.cell0
  have q3 := g2.cell1
  clear hr hwf hN hr2 hwf2 hN2 g1 g2 hBW hsW hW
  rcases hsm : isSum p ts with _ | _
  · have H := Lib.hid hsm
    rw [show likeC p ts q us = 1 from by unfold likeC; rw [hsm]; rfl]
    clear hsm
    go_enter Try.func73, Try.ntmps73
    go_wp2_with fail
    rw [← HW.out]
    refine (isSumI_any _ _ _ _ ts _ HRA.out HWA.out HNA.out hp).mono ?_
    rintro e w1 ⟨rfl, hb1⟩
    rw [H.out]
    have HB1 := Lib.hid (HB.out.trans (hb1.mono HB.out.size))
    clear hb1 q0 q1 q2 q3
    go_wp2_with fail
    go_ret
    exact ⟨rfl, HB1.out⟩
  have HSA := Lib.hid hsm
  rcases hsu : isSum q us with _ | _
  · have H := Lib.hid hsu
    rw [show likeC p ts q us = 1 from by unfold likeC; rw [hsm, hsu]; rfl]
    clear hsm hsu
    go_enter Try.func73, Try.ntmps73
    go_wp2_with fail
    rw [← HW.out]
    refine (isSumI_any _ _ _ _ ts _ HRA.out HWA.out HNA.out hp).mono ?_
    rintro e w1 ⟨rfl, hb1⟩
    rw [HSA.out]
    have hs1 := hb1.size
    have HX1 := Lib.hid (HG1.out.below hb1 (by have := HS.out; omega))
    have HX2 := Lib.hid (HG2.out.below hb1 (by have := HS.out; omega))
    have HB1 := Lib.hid (HB.out.trans (hb1.mono HB.out.size))
    have HRB1 := Lib.hid (HRB.out.below hb1)
    clear hb1 q0 q1 q2 q3
    have q0 := HX1.out.cell0
    have q1 := HX1.out.cell1
    have q2 := HX2.out.cell0
    have q3 := HX2.out.cell1
    go_wp2_with fail
    refine (isSumI_any _ _ _ _ us _ HRB1.out HWB.out HNB.out hq).mono ?_
    rintro e w2 ⟨rfl, hb2⟩
    rw [H.out]
    have HB2 := Lib.hid (HB1.out.trans (hb2.mono HB1.out.size))
    clear hb2 q0 q1 q2 q3
    go_wp2_with fail
    go_ret
    exact ⟨rfl, HB2.out⟩
  have HSB := Lib.hid hsu
  by_cases hpq : p = q
  · rw [show likeC p ts q us = 0 from by unfold likeC; rw [hsm, hsu]; simp [hpq]]
    have t1 : (p == q) = true := by simpa using hpq
    have t2 : (p != q) = false := by simpa using hpq
    clear hsm hsu hpq
    go_enter Try.func73, Try.ntmps73
    go_wp2_with fail
    rw [← HW.out]
    refine (isSumI_any _ _ _ _ ts _ HRA.out HWA.out HNA.out hp).mono ?_
    rintro e w1 ⟨rfl, hb1⟩
    rw [HSA.out]
    have hs1 := hb1.size
    have HX1 := Lib.hid (HG1.out.below hb1 (by have := HS.out; omega))
    have HX2 := Lib.hid (HG2.out.below hb1 (by have := HS.out; omega))
    have HB1 := Lib.hid (HB.out.trans (hb1.mono HB.out.size))
    have HRB1 := Lib.hid (HRB.out.below hb1)
    clear hb1 q0 q1 q2 q3
    have q0 := HX1.out.cell0
    have q1 := HX1.out.cell1
    have q2 := HX2.out.cell0
    have q3 := HX2.out.cell1
    go_wp2_with fail
    refine (isSumI_any _ _ _ _ us _ HRB1.out HWB.out HNB.out hq).mono ?_
    rintro e w2 ⟨rfl, hb2⟩
    rw [HSB.out]
    have hs2 := hb2.size
    have HB2 := Lib.hid (HB1.out.trans (hb2.mono HB1.out.size))
    have r0 := (HX1.out.below hb2 (by have := HS.out; omega)).cell0
    have r2 := (HX2.out.below hb2 (by have := HS.out; omega)).cell0
    clear hb2 q0 q1 q2 q3
    go_wp2_with fail
    go_ret
    exact ⟨rfl, HB2.out⟩
  · rw [show likeC p ts q us = 2 from by unfold likeC; rw [hsm, hsu]; simp [hpq]]
    have t1 : (p == q) = false := by simpa using hpq
    have t2 : (p != q) = true := by simpa using hpq
    clear hsm hsu
    go_enter Try.func73, Try.ntmps73
    go_wp2_with fail
    rw [← HW.out]
    refine (isSumI_any _ _ _ _ ts _ HRA.out HWA.out HNA.out hp).mono ?_
    rintro e w1 ⟨rfl, hb1⟩
    rw [HSA.out]
    have hs1 := hb1.size
    have HX1 := Lib.hid (HG1.out.below hb1 (by have := HS.out; omega))
    have HX2 := Lib.hid (HG2.out.below hb1 (by have := HS.out; omega))
    have HB1 := Lib.hid (HB.out.trans (hb1.mono HB.out.size))
    have HRB1 := Lib.hid (HRB.out.below hb1)
    clear hb1 q0 q1 q2 q3
    have q0 := HX1.out.cell0
    have q1 := HX1.out.cell1
    have q2 := HX2.out.cell0
    have q3 := HX2.out.cell1
    go_wp2_with fail
    refine (isSumI_any _ _ _ _ us _ HRB1.out HWB.out HNB.out hq).mono ?_
    rintro e w2 ⟨rfl, hb2⟩
    rw [HSB.out]
    have hs2 := hb2.size
    have HB2 := Lib.hid (HB1.out.trans (hb2.mono HB1.out.size))
    have r0 := (HX1.out.below hb2 (by have := HS.out; omega)).cell0
    have r2 := (HX2.out.below hb2 (by have := HS.out; omega)).cell0
    clear hb2 q0 q1 q2 q3
    go_wp2_with fail
    go_ret
    exact ⟨rfl, HB2.out⟩

set_option maxHeartbeats 4000000 in
theorem l03Like_any (p q : Int) (A B : Option Addr) (n c m d : Nat) (ts us : Tms) (w : World) (hr : RdT w A n ts) (hwf : WfT ts) (hN : need ts ≤ 1048576) (hp : -9223372036854775808 ≤ p ∧ p ≤ 9223372036854775807) (hr2 : RdT w B m us) (hwf2 : WfT us) (hN2 : need us ≤ 1048576) (hq : -9223372036854775808 ≤ q ∧ q ≤ 9223372036854775807) :
    Calls Try.prog 69 #[.agg #[.int .i64 p, .slice A n c], .agg #[.int .i64 q, .slice B m d]] w fun e w' => e = .returned (.int .i64 (likeC p ts q us)) ∧ Below w.heap.size w w' := by
  obtain ⟨W, hW⟩ : ∃ W, W = (w.alloc (.cells #[.int .i64 p, .slice A n c] 25)).alloc (.cells #[.int .i64 q, .slice B m d] 25) := ⟨_, rfl⟩
  have hBW : Below w.heap.size w W := by rw [hW]; exact (below_alloc _ _).alloc (by simp) _
  have hsW : W.heap.size = w.heap.size + 2 := by rw [hW]; simp
  have g1 : Box2 W w.heap.size 25 (.int .i64 p) (.slice A n c) := by rw [hW]; exact (box2_new _ _ _ _).alloc _
  have g2 : Box2 W (w.heap.size + 1) 25 (.int .i64 q) (.slice B m d) := by
    have h := box2_new (w.alloc (.cells #[.int .i64 p, .slice A n c] 25)) 25 (.int .i64 q) (.slice B m d)
    rw [hW]; simpa using h
  have HWA := Lib.hid hwf
  have HNA := Lib.hid hN
  have HWB := Lib.hid hwf2
  have HNB := Lib.hid hN2
  have HRA : Hid (RdT W A n ts) := Lib.hid (hr.below hBW)
  have HRB : Hid (RdT W B m us) := Lib.hid (hr2.below hBW)
  have HG1 := Lib.hid g1
  have HG2 := Lib.hid g2
  have HB := Lib.hid hBW
  have HS := Lib.hid hsW
  have HW := Lib.hid hW
  have q0 := g1.cell0
  have q1 := g1.cell1
  have q2 := g2.cell0
  have q3 := g2.cell1
  clear hr hwf hN hr2 hwf2 hN2 g1 g2 hBW hsW hW
  rcases hsm : isSum p ts with _ | _
  · have H := Lib.hid hsm
    rw [show likeC p ts q us = 1 from by unfold likeC; rw [hsm]; rfl]
    clear hsm
    go_enter Try.func69, Try.ntmps69
    go_wp2_with fail
    rw [← HW.out]
    refine (l03Is_any _ _ _ _ ts _ HRA.out HWA.out HNA.out hp).mono ?_
    rintro e w1 ⟨rfl, hb1⟩
    rw [H.out]
    have HB1 := Lib.hid (HB.out.trans (hb1.mono HB.out.size))
    clear hb1 q0 q1 q2 q3
    go_wp2_with fail
    go_ret
    exact ⟨rfl, HB1.out⟩
  have HSA := Lib.hid hsm
  rcases hsu : isSum q us with _ | _
  · have H := Lib.hid hsu
    rw [show likeC p ts q us = 1 from by unfold likeC; rw [hsm, hsu]; rfl]
    clear hsm hsu
    go_enter Try.func69, Try.ntmps69
    go_wp2_with fail
    rw [← HW.out]
    refine (l03Is_any _ _ _ _ ts _ HRA.out HWA.out HNA.out hp).mono ?_
    rintro e w1 ⟨rfl, hb1⟩
    rw [HSA.out]
    have hs1 := hb1.size
    have HX1 := Lib.hid (HG1.out.below hb1 (by have := HS.out; omega))
    have HX2 := Lib.hid (HG2.out.below hb1 (by have := HS.out; omega))
    have HB1 := Lib.hid (HB.out.trans (hb1.mono HB.out.size))
    have HRB1 := Lib.hid (HRB.out.below hb1)
    clear hb1 q0 q1 q2 q3
    have q0 := HX1.out.cell0
    have q1 := HX1.out.cell1
    have q2 := HX2.out.cell0
    have q3 := HX2.out.cell1
    go_wp2_with fail
    refine (l03Is_any _ _ _ _ us _ HRB1.out HWB.out HNB.out hq).mono ?_
    rintro e w2 ⟨rfl, hb2⟩
    rw [H.out]
    have HB2 := Lib.hid (HB1.out.trans (hb2.mono HB1.out.size))
    clear hb2 q0 q1 q2 q3
    go_wp2_with fail
    go_ret
    exact ⟨rfl, HB2.out⟩
  have HSB := Lib.hid hsu
  by_cases hpq : p = q
  · rw [show likeC p ts q us = 0 from by unfold likeC; rw [hsm, hsu]; simp [hpq]]
    have t1 : (p == q) = true := by simpa using hpq
    have t2 : (p != q) = false := by simpa using hpq
    clear hsm hsu hpq
    go_enter Try.func69, Try.ntmps69
    go_wp2_with fail
    rw [← HW.out]
    refine (l03Is_any _ _ _ _ ts _ HRA.out HWA.out HNA.out hp).mono ?_
    rintro e w1 ⟨rfl, hb1⟩
    rw [HSA.out]
    have hs1 := hb1.size
    have HX1 := Lib.hid (HG1.out.below hb1 (by have := HS.out; omega))
    have HX2 := Lib.hid (HG2.out.below hb1 (by have := HS.out; omega))
    have HB1 := Lib.hid (HB.out.trans (hb1.mono HB.out.size))
    have HRB1 := Lib.hid (HRB.out.below hb1)
    clear hb1 q0 q1 q2 q3
    have q0 := HX1.out.cell0
    have q1 := HX1.out.cell1
    have q2 := HX2.out.cell0
    have q3 := HX2.out.cell1
    go_wp2_with fail
    refine (l03Is_any _ _ _ _ us _ HRB1.out HWB.out HNB.out hq).mono ?_
    rintro e w2 ⟨rfl, hb2⟩
    rw [HSB.out]
    have hs2 := hb2.size
    have HB2 := Lib.hid (HB1.out.trans (hb2.mono HB1.out.size))
    have r0 := (HX1.out.below hb2 (by have := HS.out; omega)).cell0
    have r2 := (HX2.out.below hb2 (by have := HS.out; omega)).cell0
    clear hb2 q0 q1 q2 q3
    go_wp2_with fail
    go_ret
    exact ⟨rfl, HB2.out⟩
  · rw [show likeC p ts q us = 2 from by unfold likeC; rw [hsm, hsu]; simp [hpq]]
    have t1 : (p == q) = false := by simpa using hpq
    have t2 : (p != q) = true := by simpa using hpq
    clear hsm hsu
    go_enter Try.func69, Try.ntmps69
    go_wp2_with fail
    rw [← HW.out]
    refine (l03Is_any _ _ _ _ ts _ HRA.out HWA.out HNA.out hp).mono ?_
    rintro e w1 ⟨rfl, hb1⟩
    rw [HSA.out]
    have hs1 := hb1.size
    have HX1 := Lib.hid (HG1.out.below hb1 (by have := HS.out; omega))
    have HX2 := Lib.hid (HG2.out.below hb1 (by have := HS.out; omega))
    have HB1 := Lib.hid (HB.out.trans (hb1.mono HB.out.size))
    have HRB1 := Lib.hid (HRB.out.below hb1)
    clear hb1 q0 q1 q2 q3
    have q0 := HX1.out.cell0
    have q1 := HX1.out.cell1
    have q2 := HX2.out.cell0
    have q3 := HX2.out.cell1
    go_wp2_with fail
    refine (l03Is_any _ _ _ _ us _ HRB1.out HWB.out HNB.out hq).mono ?_
    rintro e w2 ⟨rfl, hb2⟩
    rw [HSB.out]
    have hs2 := hb2.size
    have HB2 := Lib.hid (HB1.out.trans (hb2.mono HB1.out.size))
    have r0 := (HX1.out.below hb2 (by have := HS.out; omega)).cell0
    have r2 := (HX2.out.below hb2 (by have := HS.out; omega)).cell0
    clear hb2 q0 q1 q2 q3
    go_wp2_with fail
    go_ret
    exact ⟨rfl, HB2.out⟩

end Go.Proofs.Ytofcldplgkejiaa

namespace Go.Proofs.Ytofcldplgkejiaa
open Go.RowKit
set_option linter.unusedVariables false
set_option linter.unusedSimpArgs false
set_option maxRecDepth 100000

/-- a term, its word below the block B -/
theorem RdTB.atB {w : World} {B : Nat} {A : Option Addr} {n : Nat} {ts : Tms} (h : RdTB w B A n ts) {k : Nat} (hk : k < n) :
    ∃ b o C m d, A = some ⟨b, o, none⟩ ∧ b < B ∧ w.cell? ⟨b, o + k * 2, none⟩ = some (.slice C m d) ∧ w.cell? ⟨b, o + k * 2 + 1, none⟩ = some (.int .i64 (vl ts k)) ∧ RdB w B C m (wd ts k) ∧ m ≤ d ∧ d ≤ 9223372036854775807 := by
  obtain ⟨b, o, e, hl, hc⟩ := h.2 (by omega)
  obtain ⟨h1, u, h2, C, m, d, rfl, h3, h4, h5⟩ := hc k hk
  exact ⟨b, o, C, m, d, e, hl, h2, h1, h3, h4, h5⟩
theorem RdB.frg {w w' : World} {B b : Nat} {A : Option Addr} {n : Nat} {xs : List Int} (h : RdB w B A n xs) (hf : Fr b (b + 1) w w') (hB : B ≤ w.heap.size) (hd : B ≤ b) : RdB w' B A n xs := h.fr hf hB (.inl hd)
theorem told_few (p : Int) (U : Option Addr) (n c : Nat) (w : World) (h : n ≤ 200) :
    Calls Try.prog 70 #[.agg #[.int .i64 p, .slice U n c]] w fun e w' => e = .returned (.tuple #[.agg #[.int .i64 p, .slice U n c], .int .i64 0]) ∧ Below w.heap.size w w' := by
  obtain ⟨W, hW⟩ : ∃ W, W = (w.alloc (.cells #[.int .i64 p, .slice U n c] 25)).alloc (.cells #[.int .i64 0, .slice none 0 0] 25) := ⟨_, rfl⟩
  have hBW : Below w.heap.size w W := by rw [hW]; exact (below_alloc _ _).alloc (by simp) _
  have g1 : Box2 W w.heap.size 25 (.int .i64 p) (.slice U n c) := by rw [hW]; exact (box2_new _ _ _ _).alloc _
  have g2 : Box2 W (w.heap.size + 1) 25 (.int .i64 0) (.slice none 0 0) := by
    have h := box2_new (w.alloc (.cells #[.int .i64 p, .slice U n c] 25)) 25 (.int .i64 0) (.slice none 0 0)
    rw [hW]; simpa using h
  have HG := Lib.hid g2
  have HB := Lib.hid hBW
  have HW := Lib.hid hW
  have q0 := g1.cell0
  have q1 := g1.cell1
  have d0 := g2.cell0
  have d1 := g2.cell1
  have f0 := g2.free 0
  have f1 := g2.free 1
  have hng : ¬ ((n : Int) > 200) := by omega
  have hng2 : ¬ (200 < (n : Int)) := by omega
  clear hW g1 g2 hBW
  go_enter Try.func70, Try.ntmps70
  go_upto_region 1 with fail
  rw [← HW.out]
  go_wp2_with fail
  have e2 := (HG.out.set0 (.int .i64 p)).set1 (.slice U n c)
  refine bodyPost_ret (v := .tuple #[.agg #[.int .i64 p, .slice U n c], .int .i64 0]) ?_ ?_ ?_
  · exact results_row_tmp Try.results70 _ _ (w.heap.size + 1) _ _ rfl rfl (run_loadVar_row _ _ _ _ _ _ _ e2 Try.underlying25 rfl size_sum)
  · rfl
  · exact ⟨rfl, (HB.out.setCell (by show w.heap.size ≤ w.heap.size + 1; omega) _).setCell (by show w.heap.size ≤ w.heap.size + 1; omega) _⟩
theorem told_many (p : Int) (U : Option Addr) (n c : Nat) (w : World) (h : 200 < n) (h2 : n ≤ 1048576) :
    Calls Try.prog 70 #[.agg #[.int .i64 p, .slice U n c]] w fun e w' => e = .returned (.tuple #[.agg #[.int .i64 0, .slice none 0 0], .int .i64 3]) ∧ Below w.heap.size w w' := by
  obtain ⟨W, hW⟩ : ∃ W, W = (w.alloc (.cells #[.int .i64 p, .slice U n c] 25)).alloc (.cells #[.int .i64 0, .slice none 0 0] 25) := ⟨_, rfl⟩
  have hBW : Below w.heap.size w W := by rw [hW]; exact (below_alloc _ _).alloc (by simp) _
  have g1 : Box2 W w.heap.size 25 (.int .i64 p) (.slice U n c) := by rw [hW]; exact (box2_new _ _ _ _).alloc _
  have g2 : Box2 W (w.heap.size + 1) 25 (.int .i64 0) (.slice none 0 0) := by
    have h := box2_new (w.alloc (.cells #[.int .i64 p, .slice U n c] 25)) 25 (.int .i64 0) (.slice none 0 0)
    rw [hW]; simpa using h
  have HG := Lib.hid g2
  have HB := Lib.hid hBW
  have HW := Lib.hid hW
  have q1 := g1.cell1
  have d0 := g2.cell0
  have d1 := g2.cell1
  have f0 := g2.free 0
  have f1 := g2.free 1
  have hng : (n : Int) > 200 := by omega
  clear hW g1 g2 hBW
  go_enter Try.func70, Try.ntmps70
  go_upto_region 1 with fail
  rw [← HW.out]
  go_wp2_with fail
  have e2 := (HG.out.set0 (.int .i64 0)).set1 (.slice none 0 0)
  refine bodyPost_ret (v := .tuple #[.agg #[.int .i64 0, .slice none 0 0], .int .i64 3]) ?_ ?_ ?_
  · exact results_row_tmp Try.results70 _ _ (w.heap.size + 1) _ _ rfl rfl (run_loadVar_row _ _ _ _ _ _ _ e2 Try.underlying25 rfl size_sum)
  · rfl
  · exact ⟨rfl, (HB.out.setCell (by show w.heap.size ≤ w.heap.size + 1; omega) _).setCell (by show w.heap.size ≤ w.heap.size + 1; omega) _⟩
end Go.Proofs.Ytofcldplgkejiaa

namespace Go.Proofs.Ytofcldplgkejiaa
open Go.RowKit
set_option linter.unusedVariables false
set_option linter.unusedSimpArgs false
set_option maxRecDepth 100000

theorem addAll_app (p : Int) (f : List Int → Int) (l l' : Tms) : addAll p f (l ++ l') = addAll p (addAll p f l) l' := by unfold addAll; rw [List.foldl_append]
theorem timesL_one (ts : Tms) : timesL 1 ts = ts := by
  unfold timesL
  have h : (fun t : List Int × Int => (t.1, 1 * t.2)) = id := by funext t; simp
  rw [h, List.map_id]
theorem likeC_cases (p : Int) (ts : Tms) (q : Int) (us : Tms) : likeC p ts q us = 0 ∨ likeC p ts q us = 1 ∨ likeC p ts q us = 2 := by
  unfold likeC
  split
  · split
    · exact .inl rfl
    · exact .inr (.inr rfl)
  · exact .inr (.inl rfl)
theorem likeC_zero {p : Int} {ts : Tms} {q : Int} {us : Tms} (h : likeC p ts q us = 0) : isSum p ts = true ∧ isSum q us = true ∧ p = q := by
  unfold likeC at h
  rcases h1 : isSum p ts with _ | _ <;> rcases h2 : isSum q us with _ | _ <;> rw [h1, h2] at h <;> simp at h
  exact ⟨rfl, rfl, h⟩
theorem plain_times {p : Int} {us : Tms} {k : Int} (h : isSum p us = true) (hk : 0 ≤ k ∧ k ≤ p - 1) : Plain (timesL k us) := by
  have hb := prime_bd (isSum_prime h)
  refine plain_timesL (isSum_plain h) fun t ht => ?_
  have h1 := (isSum_mem h ht).2
  have h2 : 0 ≤ k * t.2 := Int.mul_nonneg hk.1 (by omega)
  have h3 : k * t.2 ≤ 12 * 12 := Int.mul_le_mul (by omega) (by omega) (by omega) (by omega)
  omega

set_option maxHeartbeats 8000000 in
theorem implAddSums_any (p : Int) (A : Option Addr) (n c : Nat) (ts : Tms) (q : Int) (B : Option Addr) (m d : Nat) (us : Tms) (kk : Int) (w : World) (hr : RdT w A n ts) (hwf : WfT ts) (hN : need ts ≤ 1048576) (hp : -9223372036854775808 ≤ p ∧ p ≤ 9223372036854775807) (hr2 : RdT w B m us) (hwf2 : WfT us) (hN2 : need us ≤ 1048576) (hq : -9223372036854775808 ≤ q ∧ q ≤ 9223372036854775807) (hik : -9223372036854775808 ≤ kk ∧ kk ≤ 9223372036854775807) :
    GaveS 26 #[.agg #[.int .i64 p, .slice A n c], .agg #[.int .i64 q, .slice B m d], .int .i64 kk] w (addSums p ts q us kk) := by
  obtain ⟨W, hW⟩ : ∃ W, W = ((w.alloc (.cells #[.int .i64 p, .slice A n c] 25)).alloc (.cells #[.int .i64 q, .slice B m d] 25)).alloc (.cells #[.int .i64 0, .slice none 0 0] 25) := ⟨_, rfl⟩
  have hBW : Below w.heap.size w W := by rw [hW]; exact ((below_alloc _ _).alloc (by simp) _).alloc (by simp; omega) _
  have hsW : W.heap.size = w.heap.size + 3 := by rw [hW]; simp
  have g1 : Box2 W w.heap.size 25 (.int .i64 p) (.slice A n c) := by rw [hW]; exact ((box2_new _ _ _ _).alloc _).alloc _
  have g2 : Box2 W (w.heap.size + 1) 25 (.int .i64 q) (.slice B m d) := by
    have h := (box2_new (w.alloc (.cells #[.int .i64 p, .slice A n c] 25)) 25 (.int .i64 q) (.slice B m d)).alloc (.cells #[.int .i64 0, .slice none 0 0] 25)
    rw [hW]; simpa using h
  have g3 : Box2 W (w.heap.size + 2) 25 (.int .i64 0) (.slice none 0 0) := by
    have h := box2_new ((w.alloc (.cells #[.int .i64 p, .slice A n c] 25)).alloc (.cells #[.int .i64 q, .slice B m d] 25)) 25 (.int .i64 0) (.slice none 0 0)
    rw [hW]; simpa using h
  have HWA := Lib.hid hwf
  have HNA := Lib.hid hN
  have HWB := Lib.hid hwf2
  have HNB := Lib.hid hN2
  have HRA : Hid (RdT W A n ts) := Lib.hid (hr.below hBW)
  have HRB : Hid (RdT W B m us) := Lib.hid (hr2.below hBW)
  have HBA : Hid (RdTB W w.heap.size A n ts) := Lib.hid (RdTB.below hr hBW)
  have HBB : Hid (RdTB W w.heap.size B m us) := Lib.hid (RdTB.below hr2 hBW)
  have HLA := Lib.hid hr.len
  have HLB := Lib.hid hr2.len
  have HG1 := Lib.hid g1
  have HG2 := Lib.hid g2
  have HG3 := Lib.hid g3
  have HB := Lib.hid hBW
  have HS := Lib.hid hsW
  have HW := Lib.hid hW
  have q0 := g1.cell0
  have q1 := g1.cell1
  have q2 := g2.cell0
  have q3 := g2.cell1
  clear hr hwf hN hr2 hwf2 hN2 g1 g2 g3 hBW hsW hW
  rcases likeC_cases p ts q us with hlc | hlc | hlc
  case inr.inl =>
    have HLC := Lib.hid hlc
    rw [show addSums p ts q us kk = ((0, []), 1) from by unfold addSums; rw [hlc]; rfl]
    clear hlc
    unfold GaveS
    go_enter Try.func26, Try.ntmps26
    go_wp2_with fail
    rw [← HW.out]
    refine (checkSums_any p q A B n c m d ts us _ HRA.out HWA.out HNA.out hp HRB.out HWB.out HNB.out hq).mono ?_
    rintro e w1 ⟨rfl, hb1⟩
    rw [HLC.out]
    have HG4 := Lib.hid (HG3.out.below hb1 (by have := HS.out; omega))
    have HB4 := Lib.hid (HB.out.trans (hb1.mono HB.out.size))
    clear hb1 q0 q1 q2 q3
    have d0 := HG4.out.cell0
    have d1 := HG4.out.cell1
    have f0 := HG4.out.free 0
    have f1 := HG4.out.free 1
    go_wp2_with fail
    have e2 := (HG4.out.set0 (.int .i64 0)).set1 (.slice none 0 0)
    refine bodyPost_ret (v := .tuple #[.agg #[.int .i64 0, .slice none 0 0], .int .i64 1]) ?_ ?_ ?_
    · exact results_row_tmp Try.results26 _ _ (w.heap.size + 2) _ _ rfl rfl (run_loadVar_row _ _ _ _ _ _ _ e2 Try.underlying25 rfl size_sum)
    · rfl
    · exact ⟨_, _, rfl, OwnT.nil_ _ _, ((HB4.out.setCell (by show w.heap.size ≤ w.heap.size + 2; omega) _).setCell (by show w.heap.size ≤ w.heap.size + 2; omega) _)⟩
  case inr.inr =>
    have HLC := Lib.hid hlc
    rw [show addSums p ts q us kk = ((0, []), 2) from by unfold addSums; rw [hlc]; rfl]
    clear hlc
    unfold GaveS
    go_enter Try.func26, Try.ntmps26
    go_wp2_with fail
    rw [← HW.out]
    refine (checkSums_any p q A B n c m d ts us _ HRA.out HWA.out HNA.out hp HRB.out HWB.out HNB.out hq).mono ?_
    rintro e w1 ⟨rfl, hb1⟩
    rw [HLC.out]
    have HG4 := Lib.hid (HG3.out.below hb1 (by have := HS.out; omega))
    have HB4 := Lib.hid (HB.out.trans (hb1.mono HB.out.size))
    clear hb1 q0 q1 q2 q3
    have d0 := HG4.out.cell0
    have d1 := HG4.out.cell1
    have f0 := HG4.out.free 0
    have f1 := HG4.out.free 1
    go_wp2_with fail
    have e2 := (HG4.out.set0 (.int .i64 0)).set1 (.slice none 0 0)
    refine bodyPost_ret (v := .tuple #[.agg #[.int .i64 0, .slice none 0 0], .int .i64 2]) ?_ ?_ ?_
    · exact results_row_tmp Try.results26 _ _ (w.heap.size + 2) _ _ rfl rfl (run_loadVar_row _ _ _ _ _ _ _ e2 Try.underlying25 rfl size_sum)
    · rfl
    · exact ⟨_, _, rfl, OwnT.nil_ _ _, ((HB4.out.setCell (by show w.heap.size ≤ w.heap.size + 2; omega) _).setCell (by show w.heap.size ≤ w.heap.size + 2; omega) _)⟩
  obtain ⟨hsa, hsb, hpq⟩ := likeC_zero hlc
  have HLC := Lib.hid hlc
  have HPQ := Lib.hid hpq
  rcases hin : inB kk 0 (p - 1) with _ | _
  · have HIN := Lib.hid hin
    rw [show addSums p ts q us kk = ((0, []), 2) from by unfold addSums; rw [hlc, hin]; rfl]
    clear hlc hin hsa hsb hpq
    unfold GaveS
    go_enter Try.func26, Try.ntmps26
    go_wp2_with fail
    rw [← HW.out]
    refine (checkSums_any p q A B n c m d ts us _ HRA.out HWA.out HNA.out hp HRB.out HWB.out HNB.out hq).mono ?_
    rintro e w1 ⟨rfl, hb1⟩
    rw [HLC.out]
    have HX1 := Lib.hid (HG1.out.below hb1 (by have := HS.out; omega))
    have HG4 := Lib.hid (HG3.out.below hb1 (by have := HS.out; omega))
    have HB4 := Lib.hid (HB.out.trans (hb1.mono HB.out.size))
    clear hb1 q0 q1 q2 q3
    have q0 := HX1.out.cell0
    have d0 := HG4.out.cell0
    have d1 := HG4.out.cell1
    have f0 := HG4.out.free 0
    have f1 := HG4.out.free 1
    go_wp2_with fail
    refine (residue_any kk p _).mono ?_
    rintro e w2 ⟨rfl, rfl⟩
    rw [HIN.out]
    go_wp2_with fail
    have e2 := (HG4.out.set0 (.int .i64 0)).set1 (.slice none 0 0)
    refine bodyPost_ret (v := .tuple #[.agg #[.int .i64 0, .slice none 0 0], .int .i64 2]) ?_ ?_ ?_
    · exact results_row_tmp Try.results26 _ _ (w.heap.size + 2) _ _ rfl rfl (run_loadVar_row _ _ _ _ _ _ _ e2 Try.underlying25 rfl size_sum)
    · rfl
    · exact ⟨_, _, rfl, OwnT.nil_ _ _, ((HB4.out.setCell (by show w.heap.size ≤ w.heap.size + 2; omega) _).setCell (by show w.heap.size ≤ w.heap.size + 2; omega) _)⟩
  have HIN := Lib.hid hin
  have hkb : 0 ≤ kk ∧ kk ≤ p - 1 := by unfold inB at hin; simpa using hin
  have hpb := prime_bd (isSum_prime hsa)
  have HPA : Hid (Plain (timesL 1 ts)) := Lib.hid (by rw [timesL_one]; exact isSum_plain hsa)
  have HPB : Hid (Plain (timesL kk us)) := Lib.hid (plain_times hsb (by omega))
  have hpl : Plain (ts ++ timesL kk us) := (isSum_plain hsa).app HPB.out
  have hfc := putAll_facts (p := p) (by omega) hpl
  have hl1 := isSum_len hsa
  have hl2 := isSum_len hsb
  have hn2 : n ≤ 200 := by have := HLA.out; omega
  have hm2 : m ≤ 200 := by have := HLB.out; omega
  obtain ⟨rp, rts, rz, hR⟩ : ∃ rp rts rz, addSums p ts q us kk = ((rp, rts), rz) := ⟨_, _, _, rfl⟩
  have HR9 : Hid (toldT p (putAll p [] (ts ++ timesL kk us)) = ((rp, rts), rz)) := Lib.hid (by rw [← hR]; unfold addSums; rw [hlc, hin]; rfl)
  have HFC := Lib.hid hfc
  rw [hR]
  clear hR hlc hin hsa hsb hpq hpl hfc hl1 hl2
  unfold GaveS
  go_enter Try.func26, Try.ntmps26
  go_wp2_with fail
  rw [← HW.out]
  refine (checkSums_any p q A B n c m d ts us _ HRA.out HWA.out HNA.out hp HRB.out HWB.out HNB.out hq).mono ?_
  rintro e w1 ⟨rfl, hb1⟩
  rw [HLC.out]
  obtain ⟨W0, hW0⟩ : ∃ W0, W0 = w1 := ⟨_, rfl⟩
  rw [← hW0] at hb1 ⊢
  clear hW0
  have hs1 := hb1.size
  have HX1 := Lib.hid (HG1.out.below hb1 (by have := HS.out; omega))
  have HX2 := Lib.hid (HG2.out.below hb1 (by have := HS.out; omega))
  have HGV := Lib.hid (HG3.out.below hb1 (by have := HS.out; omega))
  have HBV := Lib.hid (HB.out.trans (hb1.mono HB.out.size))
  have HAV := Lib.hid (HBA.out.below (hb1.mono HB.out.size))
  have HBV2 := Lib.hid (HBB.out.below (hb1.mono HB.out.size))
  have HS0 : Hid (w.heap.size + 3 ≤ W0.heap.size) := Lib.hid (by have := HS.out; omega)
  clear q0 q1 q2 q3 hb1
  have q0 := HX1.out.cell0
  have q1 := HX1.out.cell1
  go_wp2_with fail
  refine (residue_any kk p _).mono ?_
  rintro e w2 ⟨rfl, rfl⟩
  rw [HIN.out]
  go_wp2_with fail
  refine (newSumOf_any p _).mono ?_
  rintro e w3 ⟨b, rfl, hbl, hc3, hb3⟩
  obtain ⟨V, hV⟩ : ∃ V, V = w3.alloc (.cells #[.int .i64 p, .map (some b)] 74) := ⟨_, rfl⟩
  have hv3 : Below w3.heap.size w3 V := by rw [hV]; exact below_alloc _ _
  have hsV : V.heap.size = w3.heap.size + 1 := by rw [hV]; simp
  have hbx : Box2 V w3.heap.size 74 (.int .i64 p) (.map (some b)) := by rw [hV]; exact box2_new _ _ _ _
  have hs3 := hb3.size
  have hbV : Below W0.heap.size W0 V := hb3.trans (hv3.mono hb3.size)
  have hblt := hc3.lt
  have HV := Lib.hid hV
  have HBX := Lib.hid hbx
  have hsw2 := HS0.out
  have HX1 := Lib.hid (HX1.out.below hbV (by omega))
  have HX2 := Lib.hid (HX2.out.below hbV (by omega))
  have HGV := Lib.hid (HGV.out.below hbV (by omega))
  have HAV := Lib.hid (HAV.out.below (hbV.mono (by omega)))
  have HBV2 := Lib.hid (HBV2.out.below (hbV.mono (by omega)))
  have HBV := Lib.hid (HBV.out.trans (hbV.mono HBV.out.size))
  have HCV : Hid (Coefs V b 0 (fun _ => 0)) := Lib.hid (hc3.kept (grown_of_below hv3 none) (by simp))
  have HSV := Lib.hid hsV
  clear hV hv3 hbx hb3 hbV hc3 q0 q1
  have q0 := HX1.out.cell0
  have q1 := HX1.out.cell1
  have x0 := HBX.out.cell0
  have x1 := HBX.out.cell1
  go_upto_region 7 with fail
  rw [← HV.out]
  go_wp2_with fail
  refine (addTerms_any p p 1 b 0 w.heap.size (fun _ => 0) A n c ts _ HCV.out (by omega) (by omega) (resid_zero (by omega)) HAV.out (by omega) (by omega) HPA.out).mono ?_
  rintro e w4 ⟨rfl, hc4, hf4⟩
  have hs4 := hf4.size
  have HC4 := Lib.hid hc4
  have HF4 := Lib.hid hf4
  have HX2 := Lib.hid (HX2.out.frg hf4 (by omega))
  have HBX4 := Lib.hid (HBX.out.frg hf4 (by omega))
  have HBV4 := Lib.hid (HBV2.out.frg hf4 (by omega) (by omega))
  have HRS : Hid (Resid p (addAll p (fun _ => 0) (timesL 1 ts))) := Lib.hid (resid_addAll (by omega) _ _ (resid_zero (by omega)))
  clear hc4 hf4 q0 q1 x0 x1
  have q0 := HX2.out.cell0
  have q1 := HX2.out.cell1
  have x0 := HBX4.out.cell0
  have x1 := HBX4.out.cell1
  go_wp2_with fail
  refine (addTerms_any p q kk b (0 + n) w.heap.size (addAll p (fun _ => 0) (timesL 1 ts)) B m d us _ HC4.out (by omega) (by omega) HRS.out HBV4.out (by omega) (by omega) HPB.out).mono ?_
  rintro e wr ⟨rfl, hc5, hf5⟩
  have hs5 := hf5.size
  have hc6 := hc5
  rw [← addAll_app, timesL_one] at hc6
  have HC6 := Lib.hid hc6
  have HFR : Hid (Fr b (b + 1) V wr) := Lib.hid (frg_trans HF4.out hf5)
  clear hc5 hc6 hf5 q0 q1 x0 x1
  have HB6 : Hid (Below w.heap.size w wr) := Lib.hid (HBV.out.trans (below_frg HFR.out (by omega) (by have := HBV.out.size; omega)))
  have HG6 := Lib.hid (HGV.out.frg HFR.out (by omega))
  have HX6 := Lib.hid (HBX.out.frg HFR.out (by omega))
  have hs7 := HSV.out
  have hs8 := HS0.out
  have x0 := HX6.out.cell0
  have x1 := HX6.out.cell1
  go_wp2_with fail
  have hE := endSum_any p b (0 + n + m) (addAll p (fun _ => 0) (ts ++ timesL kk us)) (putAll p [] (ts ++ timesL kk us)) _ HC6.out (by omega) HFC.out.1 (fun ys _ => HFC.out.2.1 ys)
  rw [HR9.out] at hE
  refine Calls.mono hE ?_
  rintro e w9 ⟨v9, vs9, rfl, ho9, hb9⟩
  obtain ⟨A9, c9, rfl, _⟩ := ho9.form
  have hs9 := hb9.size
  have HG9 := Lib.hid (HG6.out.below hb9 (by omega))
  have HB9 := Lib.hid (HB6.out.trans (hb9.mono HB6.out.size))
  have HO9 := Lib.hid ho9
  have hls := HB6.out.size
  clear hE ho9 hb9
  have d0 := HG9.out.cell0
  have d1 := HG9.out.cell1
  have f0 := HG9.out.free 0
  have f1 := HG9.out.free 1
  go_wp2_with fail
  have e2 := (HG9.out.set0 (.int .i64 rp)).set1 (.slice A9 rts.length c9)
  refine bodyPost_ret (v := .tuple #[.agg #[.int .i64 rp, .slice A9 rts.length c9], .int .i64 rz]) ?_ ?_ ?_
  · exact results_row_tmp Try.results26 _ _ (w.heap.size + 2) _ _ rfl rfl (run_loadVar_row _ _ _ _ _ _ _ e2 Try.underlying25 rfl size_sum)
  · rfl
  · have ho7 := ((HO9.out.set_other ⟨w.heap.size + 2, 0, none⟩ (.int .i64 rp) (by show w.heap.size + 2 < _; omega)).set_other ⟨w.heap.size + 2, 1, none⟩ (.slice A9 rts.length c9) (by show w.heap.size + 2 < _; omega)).mono (lo' := w.heap.size) (by omega)
    exact ⟨_, vs9, rfl, ho7, ((HB9.out.setCell (by show w.heap.size ≤ w.heap.size + 2; omega) _).setCell (by show w.heap.size ≤ w.heap.size + 2; omega) _)⟩
end Go.Proofs.Ytofcldplgkejiaa
