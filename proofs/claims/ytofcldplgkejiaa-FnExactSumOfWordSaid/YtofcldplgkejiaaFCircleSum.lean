/- CircleSum, ReflectSum, SumOfWord: the program's and the model's contracts. -/
import Derived.Test.YtofcldplgkejiaaSumImpl
import Derived.Test.YtofcldplgkejiaaSumSpec
import Derived.Test.YtofcldplgkejiaaCircle
namespace Go.Proofs.Ytofcldplgkejiaa
open Go.RowKit
set_option linter.unusedVariables false
set_option linter.unusedSimpArgs false
set_option maxRecDepth 100000

set_option maxHeartbeats 4000000 in
theorem implCircleSum_any (p : Int) (A : Option Addr) (n c : Nat) (ts : Tms) (w : World) (hr : RdT w A n ts) (hwf : WfT ts) (hN : need ts ≤ 1048576) (hp : -9223372036854775808 ≤ p ∧ p ≤ 9223372036854775807) :
    GaveS 34 #[.agg #[.int .i64 p, .slice A n c]] w (sumRes p ts (mapL least ts)) := by
  obtain ⟨W, hW⟩ : ∃ W, W = (w.alloc (.cells #[.int .i64 p, .slice A n c] 25)).alloc (.cells #[.int .i64 0, .slice none 0 0] 25) := ⟨_, rfl⟩
  have hBW : Below w.heap.size w W := by rw [hW]; exact (below_alloc _ _).alloc (by simp) _
  have hsW : W.heap.size = w.heap.size + 2 := by rw [hW]; simp
  have g1 : Box2 W w.heap.size 25 (.int .i64 p) (.slice A n c) := by rw [hW]; exact (box2_new _ _ _ _).alloc _
  have g2 : Box2 W (w.heap.size + 1) 25 (.int .i64 0) (.slice none 0 0) := by
    have h := box2_new (w.alloc (.cells #[.int .i64 p, .slice A n c] 25)) 25 (.int .i64 0) (.slice none 0 0)
    rw [hW]; simpa using h
  have HWT := Lib.hid hwf
  have HN := Lib.hid hN
  have HRR : Hid (RdT W A n ts) := Lib.hid (hr.below hBW)
  have HG1 := Lib.hid g1
  have HG2 := Lib.hid g2
  have HB := Lib.hid hBW
  have HS := Lib.hid hsW
  have HW := Lib.hid hW
  have q0 := g1.cell0
  have q1 := g1.cell1
  clear hr hwf hN g1 g2 hBW hsW hW
  rcases hsm : isSum p ts with _ | _
  · have H := Lib.hid hsm
    rw [show sumRes p ts (mapL least ts) = ((0, []), 1) from by exact sumRes_no _ hsm]
    clear hsm
    unfold GaveS
    go_enter Try.func34, Try.ntmps34
    go_wp2_with fail
    rw [← HW.out]
    refine (isSumI_any _ _ _ _ ts _ HRR.out HWT.out HN.out hp).mono ?_
    rintro e w1 ⟨rfl, hb1⟩
    rw [H.out]
    have HG3 := Lib.hid (HG2.out.below hb1 (by rw [HS.out]; omega))
    have HB3 := Lib.hid (HB.out.trans (hb1.mono HB.out.size))
    clear hb1 q0 q1
    have d0 := HG3.out.cell0
    have d1 := HG3.out.cell1
    have f0 := HG3.out.free 0
    have f1 := HG3.out.free 1
    go_wp2_with fail
    have e2 := (HG3.out.set0 (.int .i64 0)).set1 (.slice none 0 0)
    refine bodyPost_ret (v := .tuple #[.agg #[.int .i64 0, .slice none 0 0], .int .i64 1]) ?_ ?_ ?_
    · exact results_row_tmp Try.results34 _ _ (w.heap.size + 1) _ _ rfl rfl (run_loadVar_row _ _ _ _ _ _ _ e2 Try.underlying25 rfl size_sum)
    · rfl
    · exact ⟨_, _, rfl, OwnT.nil_ _ _, ((HB3.out.setCell (by show w.heap.size ≤ w.heap.size + 1; omega) _).setCell (by show w.heap.size ≤ w.heap.size + 1; omega) _)⟩
  have HSUM := Lib.hid hsm
  obtain ⟨rp, rts, rz, hR⟩ : ∃ rp rts rz, sumRes p ts (mapL least ts) = ((rp, rts), rz) := ⟨_, _, _, rfl⟩
  have HR9 : Hid (toldT p (putAll p [] (mapL least ts)) = ((rp, rts), rz)) := Lib.hid (by rw [← hR]; exact (sumRes_yes _ hsm).symm)
  rw [hR]
  clear hR hsm
  unfold GaveS
  go_enter Try.func34, Try.ntmps34
  go_wp2_with fail
  rw [← HW.out]
  refine (isSumI_any _ _ _ _ ts _ HRR.out HWT.out HN.out hp).mono ?_
  rintro e w1 ⟨rfl, hb1⟩
  rw [HSUM.out]
  have hs1 := hb1.size
  have HG3 := Lib.hid (HG2.out.below hb1 (by rw [HS.out]; omega))
  have HG4 := Lib.hid (HG1.out.below hb1 (by rw [HS.out]; omega))
  have HB3 := Lib.hid (HB.out.trans (hb1.mono HB.out.size))
  have HR3 := Lib.hid (HRR.out.below hb1)
  clear q0 q1
  have q0 := HG4.out.cell0
  have q1 := HG4.out.cell1
  clear hb1
  go_wp2_with fail
  have hE := replaceLeast_any p _ _ c ts _ HR3.out HSUM.out (fun X C m0 d xs hb hx hr hm => givesR_of (leastOf_any _ _ _ xs _ hr (word_wf hx) (by have h1 := hr.len; have h2 := isWord_len hx; omega)))
  rw [HR9.out] at hE
  refine Calls.mono hE ?_
  clear hE
  rintro e w9 ⟨v9, vs9, rfl, ho9, hb9⟩
  obtain ⟨A9, c9, rfl, _⟩ := ho9.form
  obtain ⟨n9, hn9⟩ : ∃ t, rts.length = t := ⟨_, rfl⟩
  rw [hn9] at ho9 ⊢
  have hs9 := hb9.size
  have hs8 := HS.out
  have HG9 := Lib.hid (HG3.out.below hb9 (by omega))
  have HB9 := Lib.hid (HB3.out.trans (hb9.mono HB3.out.size))
  have HO9 := Lib.hid ho9
  clear ho9 hb9 hn9 q0 q1
  have d0 := HG9.out.cell0
  have d1 := HG9.out.cell1
  have f0 := HG9.out.free 0
  have f1 := HG9.out.free 1
  go_wp2_with fail
  have e2 := (HG9.out.set0 (.int .i64 rp)).set1 (.slice A9 n9 c9)
  refine bodyPost_ret (v := .tuple #[.agg #[.int .i64 rp, .slice A9 n9 c9], .int .i64 rz]) ?_ ?_ ?_
  · exact results_row_tmp Try.results34 _ _ (w.heap.size + 1) _ _ rfl rfl (run_loadVar_row _ _ _ _ _ _ _ e2 Try.underlying25 rfl size_sum)
  · rfl
  · exact ⟨_, vs9, rfl, ((HO9.out.set_other ⟨w.heap.size + 1, 0, none⟩ (.int .i64 rp) (by show w.heap.size + 1 < _; omega)).set_other ⟨w.heap.size + 1, 1, none⟩ (.slice A9 n9 c9) (by show w.heap.size + 1 < _; omega)).mono (lo' := w.heap.size) (by omega), ((HB9.out.setCell (by show w.heap.size ≤ w.heap.size + 1; omega) _).setCell (by show w.heap.size ≤ w.heap.size + 1; omega) _)⟩

set_option maxHeartbeats 4000000 in
theorem implReflectSum_any (p : Int) (A : Option Addr) (n c : Nat) (ts : Tms) (w : World) (hr : RdT w A n ts) (hwf : WfT ts) (hN : need ts ≤ 1048576) (hp : -9223372036854775808 ≤ p ∧ p ≤ 9223372036854775807) :
    GaveS 36 #[.agg #[.int .i64 p, .slice A n c]] w (sumRes p ts (mapL refl ts)) := by
  obtain ⟨W, hW⟩ : ∃ W, W = (w.alloc (.cells #[.int .i64 p, .slice A n c] 25)).alloc (.cells #[.int .i64 0, .slice none 0 0] 25) := ⟨_, rfl⟩
  have hBW : Below w.heap.size w W := by rw [hW]; exact (below_alloc _ _).alloc (by simp) _
  have hsW : W.heap.size = w.heap.size + 2 := by rw [hW]; simp
  have g1 : Box2 W w.heap.size 25 (.int .i64 p) (.slice A n c) := by rw [hW]; exact (box2_new _ _ _ _).alloc _
  have g2 : Box2 W (w.heap.size + 1) 25 (.int .i64 0) (.slice none 0 0) := by
    have h := box2_new (w.alloc (.cells #[.int .i64 p, .slice A n c] 25)) 25 (.int .i64 0) (.slice none 0 0)
    rw [hW]; simpa using h
  have HWT := Lib.hid hwf
  have HN := Lib.hid hN
  have HRR : Hid (RdT W A n ts) := Lib.hid (hr.below hBW)
  have HG1 := Lib.hid g1
  have HG2 := Lib.hid g2
  have HB := Lib.hid hBW
  have HS := Lib.hid hsW
  have HW := Lib.hid hW
  have q0 := g1.cell0
  have q1 := g1.cell1
  clear hr hwf hN g1 g2 hBW hsW hW
  rcases hsm : isSum p ts with _ | _
  · have H := Lib.hid hsm
    rw [show sumRes p ts (mapL refl ts) = ((0, []), 1) from by exact sumRes_no _ hsm]
    clear hsm
    unfold GaveS
    go_enter Try.func36, Try.ntmps36
    go_wp2_with fail
    rw [← HW.out]
    refine (isSumI_any _ _ _ _ ts _ HRR.out HWT.out HN.out hp).mono ?_
    rintro e w1 ⟨rfl, hb1⟩
    rw [H.out]
    have HG3 := Lib.hid (HG2.out.below hb1 (by rw [HS.out]; omega))
    have HB3 := Lib.hid (HB.out.trans (hb1.mono HB.out.size))
    clear hb1 q0 q1
    have d0 := HG3.out.cell0
    have d1 := HG3.out.cell1
    have f0 := HG3.out.free 0
    have f1 := HG3.out.free 1
    go_wp2_with fail
    have e2 := (HG3.out.set0 (.int .i64 0)).set1 (.slice none 0 0)
    refine bodyPost_ret (v := .tuple #[.agg #[.int .i64 0, .slice none 0 0], .int .i64 1]) ?_ ?_ ?_
    · exact results_row_tmp Try.results36 _ _ (w.heap.size + 1) _ _ rfl rfl (run_loadVar_row _ _ _ _ _ _ _ e2 Try.underlying25 rfl size_sum)
    · rfl
    · exact ⟨_, _, rfl, OwnT.nil_ _ _, ((HB3.out.setCell (by show w.heap.size ≤ w.heap.size + 1; omega) _).setCell (by show w.heap.size ≤ w.heap.size + 1; omega) _)⟩
  have HSUM := Lib.hid hsm
  obtain ⟨rp, rts, rz, hR⟩ : ∃ rp rts rz, sumRes p ts (mapL refl ts) = ((rp, rts), rz) := ⟨_, _, _, rfl⟩
  have HR9 : Hid (toldT p (putAll p [] (mapL refl ts)) = ((rp, rts), rz)) := Lib.hid (by rw [← hR]; exact (sumRes_yes _ hsm).symm)
  rw [hR]
  clear hR hsm
  unfold GaveS
  go_enter Try.func36, Try.ntmps36
  go_wp2_with fail
  rw [← HW.out]
  refine (isSumI_any _ _ _ _ ts _ HRR.out HWT.out HN.out hp).mono ?_
  rintro e w1 ⟨rfl, hb1⟩
  rw [HSUM.out]
  have hs1 := hb1.size
  have HG3 := Lib.hid (HG2.out.below hb1 (by rw [HS.out]; omega))
  have HG4 := Lib.hid (HG1.out.below hb1 (by rw [HS.out]; omega))
  have HB3 := Lib.hid (HB.out.trans (hb1.mono HB.out.size))
  have HR3 := Lib.hid (HRR.out.below hb1)
  clear q0 q1
  have q0 := HG4.out.cell0
  have q1 := HG4.out.cell1
  clear hb1
  go_wp2_with fail
  have hE := replaceRefl_any p _ _ c ts _ HR3.out HSUM.out (fun X C m0 d xs hb hx hr hm => givesR_of (reflectionOf_any _ _ _ xs _ hr (word_wf hx) (by have h1 := hr.len; have h2 := isWord_len hx; omega)))
  rw [HR9.out] at hE
  refine Calls.mono hE ?_
  clear hE
  rintro e w9 ⟨v9, vs9, rfl, ho9, hb9⟩
  obtain ⟨A9, c9, rfl, _⟩ := ho9.form
  obtain ⟨n9, hn9⟩ : ∃ t, rts.length = t := ⟨_, rfl⟩
  rw [hn9] at ho9 ⊢
  have hs9 := hb9.size
  have hs8 := HS.out
  have HG9 := Lib.hid (HG3.out.below hb9 (by omega))
  have HB9 := Lib.hid (HB3.out.trans (hb9.mono HB3.out.size))
  have HO9 := Lib.hid ho9
  clear ho9 hb9 hn9 q0 q1
  have d0 := HG9.out.cell0
  have d1 := HG9.out.cell1
  have f0 := HG9.out.free 0
  have f1 := HG9.out.free 1
  go_wp2_with fail
  have e2 := (HG9.out.set0 (.int .i64 rp)).set1 (.slice A9 n9 c9)
  refine bodyPost_ret (v := .tuple #[.agg #[.int .i64 rp, .slice A9 n9 c9], .int .i64 rz]) ?_ ?_ ?_
  · exact results_row_tmp Try.results36 _ _ (w.heap.size + 1) _ _ rfl rfl (run_loadVar_row _ _ _ _ _ _ _ e2 Try.underlying25 rfl size_sum)
  · rfl
  · exact ⟨_, vs9, rfl, ((HO9.out.set_other ⟨w.heap.size + 1, 0, none⟩ (.int .i64 rp) (by show w.heap.size + 1 < _; omega)).set_other ⟨w.heap.size + 1, 1, none⟩ (.slice A9 n9 c9) (by show w.heap.size + 1 < _; omega)).mono (lo' := w.heap.size) (by omega), ((HB9.out.setCell (by show w.heap.size ≤ w.heap.size + 1; omega) _).setCell (by show w.heap.size ≤ w.heap.size + 1; omega) _)⟩

set_option maxHeartbeats 4000000 in
theorem specCircleSum_any (p : Int) (A : Option Addr) (n c : Nat) (ts : Tms) (w : World) (hr : RdT w A n ts) (hwf : WfT ts) (hN : need ts ≤ 1048576) (hp : -9223372036854775808 ≤ p ∧ p ≤ 9223372036854775807) :
    GaveS 33 #[.agg #[.int .i64 p, .slice A n c]] w (sumRes p ts (mapL least ts)) := by
  obtain ⟨W, hW⟩ : ∃ W, W = (w.alloc (.cells #[.int .i64 p, .slice A n c] 25)).alloc (.cells #[.int .i64 0, .slice none 0 0] 25) := ⟨_, rfl⟩
  have hBW : Below w.heap.size w W := by rw [hW]; exact (below_alloc _ _).alloc (by simp) _
  have hsW : W.heap.size = w.heap.size + 2 := by rw [hW]; simp
  have g1 : Box2 W w.heap.size 25 (.int .i64 p) (.slice A n c) := by rw [hW]; exact (box2_new _ _ _ _).alloc _
  have g2 : Box2 W (w.heap.size + 1) 25 (.int .i64 0) (.slice none 0 0) := by
    have h := box2_new (w.alloc (.cells #[.int .i64 p, .slice A n c] 25)) 25 (.int .i64 0) (.slice none 0 0)
    rw [hW]; simpa using h
  have HWT := Lib.hid hwf
  have HN := Lib.hid hN
  have HRR : Hid (RdT W A n ts) := Lib.hid (hr.below hBW)
  have HG1 := Lib.hid g1
  have HG2 := Lib.hid g2
  have HB := Lib.hid hBW
  have HS := Lib.hid hsW
  have HW := Lib.hid hW
  have q0 := g1.cell0
  have q1 := g1.cell1
  clear hr hwf hN g1 g2 hBW hsW hW
  rcases hsm : isSum p ts with _ | _
  · have H := Lib.hid hsm
    rw [show sumRes p ts (mapL least ts) = ((0, []), 1) from by exact sumRes_no _ hsm]
    clear hsm
    unfold GaveS
    go_enter Try.func33, Try.ntmps33
    go_wp2_with fail
    rw [← HW.out]
    refine (l03Is_any _ _ _ _ ts _ HRR.out HWT.out HN.out hp).mono ?_
    rintro e w1 ⟨rfl, hb1⟩
    rw [H.out]
    have HG3 := Lib.hid (HG2.out.below hb1 (by rw [HS.out]; omega))
    have HB3 := Lib.hid (HB.out.trans (hb1.mono HB.out.size))
    clear hb1 q0 q1
    have d0 := HG3.out.cell0
    have d1 := HG3.out.cell1
    have f0 := HG3.out.free 0
    have f1 := HG3.out.free 1
    go_wp2_with fail
    have e2 := (HG3.out.set0 (.int .i64 0)).set1 (.slice none 0 0)
    refine bodyPost_ret (v := .tuple #[.agg #[.int .i64 0, .slice none 0 0], .int .i64 1]) ?_ ?_ ?_
    · exact results_row_tmp Try.results33 _ _ (w.heap.size + 1) _ _ rfl rfl (run_loadVar_row _ _ _ _ _ _ _ e2 Try.underlying25 rfl size_sum)
    · rfl
    · exact ⟨_, _, rfl, OwnT.nil_ _ _, ((HB3.out.setCell (by show w.heap.size ≤ w.heap.size + 1; omega) _).setCell (by show w.heap.size ≤ w.heap.size + 1; omega) _)⟩
  have HSUM := Lib.hid hsm
  obtain ⟨rts, hR⟩ : ∃ rts, putAll p [] (mapL least ts) = rts := ⟨_, rfl⟩
  have HR9 := Lib.hid hR
  rw [show sumRes p ts (mapL least ts) = ((p, rts), 0) from by rw [sumRes_yes _ hsm, toldT_few (by rw [mapL_length]; exact isSum_len hsm), hR]]
  clear hR hsm
  unfold GaveS
  go_enter Try.func33, Try.ntmps33
  go_wp2_with fail
  rw [← HW.out]
  refine (l03Is_any _ _ _ _ ts _ HRR.out HWT.out HN.out hp).mono ?_
  rintro e w1 ⟨rfl, hb1⟩
  rw [HSUM.out]
  have hs1 := hb1.size
  have HG3 := Lib.hid (HG2.out.below hb1 (by rw [HS.out]; omega))
  have HG4 := Lib.hid (HG1.out.below hb1 (by rw [HS.out]; omega))
  have HB3 := Lib.hid (HB.out.trans (hb1.mono HB.out.size))
  have HR3 := Lib.hid (HRR.out.below hb1)
  clear q0 q1
  have q0 := HG4.out.cell0
  have q1 := HG4.out.cell1
  clear hb1
  go_wp2_with fail
  have hE := l03Circle_any p _ _ c ts _ HR3.out HSUM.out
  rw [HR9.out] at hE
  refine Calls.mono hE ?_
  clear hE
  rintro e w9 ⟨v9, vs9, rfl, ho9, hb9⟩
  obtain ⟨A9, c9, rfl, _⟩ := ho9.form
  obtain ⟨n9, hn9⟩ : ∃ t, rts.length = t := ⟨_, rfl⟩
  rw [hn9] at ho9 ⊢
  have hs9 := hb9.size
  have hs8 := HS.out
  have HG9 := Lib.hid (HG3.out.below hb9 (by omega))
  have HB9 := Lib.hid (HB3.out.trans (hb9.mono HB3.out.size))
  have HO9 := Lib.hid ho9
  clear ho9 hb9 hn9 q0 q1
  have d0 := HG9.out.cell0
  have d1 := HG9.out.cell1
  have f0 := HG9.out.free 0
  have f1 := HG9.out.free 1
  go_wp2_with fail
  have e2 := (HG9.out.set0 (.int .i64 p)).set1 (.slice A9 n9 c9)
  refine bodyPost_ret (v := .tuple #[.agg #[.int .i64 p, .slice A9 n9 c9], .int .i64 0]) ?_ ?_ ?_
  · exact results_row_tmp Try.results33 _ _ (w.heap.size + 1) _ _ rfl rfl (run_loadVar_row _ _ _ _ _ _ _ e2 Try.underlying25 rfl size_sum)
  · rfl
  · exact ⟨_, vs9, rfl, ((HO9.out.set_other ⟨w.heap.size + 1, 0, none⟩ (.int .i64 p) (by show w.heap.size + 1 < _; omega)).set_other ⟨w.heap.size + 1, 1, none⟩ (.slice A9 n9 c9) (by show w.heap.size + 1 < _; omega)).mono (lo' := w.heap.size) (by omega), ((HB9.out.setCell (by show w.heap.size ≤ w.heap.size + 1; omega) _).setCell (by show w.heap.size ≤ w.heap.size + 1; omega) _)⟩

set_option maxHeartbeats 4000000 in
theorem specSumOfWord_any (p : Int) (A : Option Addr) (n c : Nat) (xs : List Int) (v : Int) (w : World) (hip : -9223372036854775808 ≤ p ∧ p ≤ 9223372036854775807) (hr : Rd w A n xs) (hwf : Wf xs) (hn : n ≤ 1048576) (hc : n ≤ c) (hiv : -9223372036854775808 ≤ v ∧ v ≤ 9223372036854775807) :
    GaveS 15 #[.int .i64 p, .slice A n c, .int .i64 v] w (sumOfWord p xs v) := by
  obtain ⟨W, hW⟩ : ∃ W, W = w.alloc (.cells #[.int .i64 0, .slice none 0 0] 25) := ⟨_, rfl⟩
  have hBW : Below w.heap.size w W := by rw [hW]; exact below_alloc _ _
  have hsW : W.heap.size = w.heap.size + 1 := by rw [hW]; simp
  have g1 : Box2 W w.heap.size 25 (.int .i64 0) (.slice none 0 0) := by rw [hW]; exact box2_new _ _ _ _
  have HR := Lib.hid (hr.below hBW)
  have HG := Lib.hid g1
  have HB := Lib.hid hBW
  have HS := Lib.hid hsW
  have HW := Lib.hid hW
  have HL := Lib.hid hr.len
  clear hr hwf hBW hsW g1 hW
  rcases hwd : isWord xs with _ | _
  · have H := Lib.hid hwd
    rw [show sumOfWord p xs v = ((0, []), 1) from by unfold sumOfWord; rw [hwd]; rfl]
    clear hwd
    unfold GaveS
    go_enter Try.func15, Try.ntmps15
    go_wp2_with fail
    rw [← HW.out]
    refine (specIs_any _ _ _ xs _ HR.out hn).mono ?_
    rintro e w1 ⟨rfl, hb1⟩
    rw [H.out]
    have HG1 := Lib.hid (HG.out.below hb1 (by rw [HS.out]; omega))
    have HB1 := Lib.hid (HB.out.trans (hb1.mono HB.out.size))
    clear hb1
    have d0 := HG1.out.cell0
    have d1 := HG1.out.cell1
    have f0 := HG1.out.free 0
    have f1 := HG1.out.free 1
    go_wp2_with fail
    have e2 := (HG1.out.set0 (.int .i64 0)).set1 (.slice none 0 0)
    refine bodyPost_ret (v := .tuple #[.agg #[.int .i64 0, .slice none 0 0], .int .i64 1]) ?_ ?_ ?_
    · exact results_row_tmp Try.results15 _ _ (w.heap.size) _ _ rfl rfl (run_loadVar_row _ _ _ _ _ _ _ e2 Try.underlying25 rfl size_sum)
    · rfl
    · exact ⟨_, _, rfl, OwnT.nil_ _ _, ((HB1.out.setCell (by show w.heap.size ≤ w.heap.size; omega) _).setCell (by show w.heap.size ≤ w.heap.size; omega) _)⟩
  have H := Lib.hid hwd
  rcases hpp : (prime p && inB v 0 (p - 1)) with _ | _
  · rw [show sumOfWord p xs v = ((0, []), 2) from by unfold sumOfWord; rw [hwd, hpp]; rfl]
    clear hwd
    unfold GaveS
    go_enter Try.func15, Try.ntmps15
    go_wp2_with fail
    rw [← HW.out]
    refine (specIs_any _ _ _ xs _ HR.out hn).mono ?_
    rintro e w1 ⟨rfl, hb1⟩
    rw [H.out]
    have HG1 := Lib.hid (HG.out.below hb1 (by rw [HS.out]; omega))
    have HB1 := Lib.hid (HB.out.trans (hb1.mono HB.out.size))
    clear hb1
    have d0 := HG1.out.cell0
    have d1 := HG1.out.cell1
    have f0 := HG1.out.free 0
    have f1 := HG1.out.free 1
    rcases hpr : prime p with _ | _
    · have HP := Lib.hid hpr
      clear hpr hpp
      go_wp2_with fail
      refine (specPrime_any p _).mono ?_
      rintro e w2 ⟨rfl, rfl⟩
      rw [HP.out]
      go_wp2_with fail
      have e2 := (HG1.out.set0 (.int .i64 0)).set1 (.slice none 0 0)
      refine bodyPost_ret (v := .tuple #[.agg #[.int .i64 0, .slice none 0 0], .int .i64 2]) ?_ ?_ ?_
      · exact results_row_tmp Try.results15 _ _ (w.heap.size) _ _ rfl rfl (run_loadVar_row _ _ _ _ _ _ _ e2 Try.underlying25 rfl size_sum)
      · rfl
      · exact ⟨_, _, rfl, OwnT.nil_ _ _, ((HB1.out.setCell (by show w.heap.size ≤ w.heap.size; omega) _).setCell (by show w.heap.size ≤ w.heap.size; omega) _)⟩
    · have HP := Lib.hid hpr
      have HIN : Hid (inB v 0 (p - 1) = false) := Lib.hid (by rw [hpr] at hpp; simpa using hpp)
      have hpb := prime_bd hpr
      clear hpr hpp
      go_wp2_with fail
      refine (specPrime_any p _).mono ?_
      rintro e w2 ⟨rfl, rfl⟩
      rw [HP.out]
      go_wp2_with fail
      refine (in_any v 0 (p - 1) _).mono ?_
      rintro e w2 ⟨rfl, rfl⟩
      rw [HIN.out]
      go_wp2_with fail
      have e2 := (HG1.out.set0 (.int .i64 0)).set1 (.slice none 0 0)
      refine bodyPost_ret (v := .tuple #[.agg #[.int .i64 0, .slice none 0 0], .int .i64 2]) ?_ ?_ ?_
      · exact results_row_tmp Try.results15 _ _ (w.heap.size) _ _ rfl rfl (run_loadVar_row _ _ _ _ _ _ _ e2 Try.underlying25 rfl size_sum)
      · rfl
      · exact ⟨_, _, rfl, OwnT.nil_ _ _, ((HB1.out.setCell (by show w.heap.size ≤ w.heap.size; omega) _).setCell (by show w.heap.size ≤ w.heap.size; omega) _)⟩
  have hpr : prime p = true := by rcases e : prime p with _ | _ <;> simp_all
  have hin : inB v 0 (p - 1) = true := by rcases e : inB v 0 (p - 1) with _ | _ <;> simp_all
  have hpb := prime_bd hpr
  have hvb : 0 ≤ v ∧ v ≤ p - 1 := by unfold inB at hin; simpa using hin
  obtain ⟨rts, hR⟩ : ∃ rts, putT p [] xs v = rts := ⟨_, rfl⟩
  have HRR := Lib.hid hR
  rw [show sumOfWord p xs v = ((p, rts), 0) from by
    unfold sumOfWord
    rw [hwd, hpp]
    show toldT p (putAll p [] [(xs, v)]) = _
    rw [toldT_few (by simp)]
    exact congrArg (fun l => ((p, l), (0 : Int))) hR]
  have HP := Lib.hid hpr
  have HIN := Lib.hid hin
  clear hwd hpp hpr hin hR
  unfold GaveS
  go_enter Try.func15, Try.ntmps15
  go_wp2_with fail
  rw [← HW.out]
  refine (specIs_any _ _ _ xs _ HR.out hn).mono ?_
  rintro e w1 ⟨rfl, hb1⟩
  rw [H.out]
  have HG1 := Lib.hid (HG.out.below hb1 (by rw [HS.out]; omega))
  have HB1 := Lib.hid (HB.out.trans (hb1.mono HB.out.size))
  have HR1 := Lib.hid (HR.out.below hb1)
  have hs1 := hb1.size
  clear hb1
  go_wp2_with fail
  refine (specPrime_any p _).mono ?_
  rintro e w2 ⟨rfl, rfl⟩
  rw [HP.out]
  go_wp2_with fail
  refine (in_any v 0 (p - 1) _).mono ?_
  rintro e w2 ⟨rfl, rfl⟩
  rw [HIN.out]
  go_wp2_with fail
  refine (empty_any p _).mono ?_
  rintro e w3 ⟨g, rfl, ho3, hb3⟩
  have HB2 := Lib.hid (HB1.out.trans (hb3.mono HB1.out.size))
  have HR2 := Lib.hid (HR1.out.below hb3)
  have HO2 := Lib.hid ho3
  have HG2 := Lib.hid (HG1.out.below hb3 (by have := HS.out; omega))
  have hs3 := hb3.size
  clear ho3 hb3
  go_wp2_with fail
  have hE := put_any p v (some ⟨g, 0, none⟩) A 0 0 n c [] xs _ (by omega) HO2.out.rd (by simp [need]) HR2.out hn (by omega) (by show 0 ≤ (0 : Int) ∧ (0 : Int) ≤ 1048576; omega)
  rw [HRR.out] at hE
  refine Calls.mono hE ?_
  clear hE
  rintro e w9 ⟨v9, vs9, rfl, ho9, hb9⟩
  obtain ⟨A9, c9, rfl, _⟩ := ho9.form
  obtain ⟨n9, hn9⟩ : ∃ t, rts.length = t := ⟨_, rfl⟩
  rw [hn9] at ho9 ⊢
  have hs9 := hb9.size
  have hs8 := HS.out
  have HG9 := Lib.hid (HG2.out.below hb9 (by omega))
  have HB9 := Lib.hid (HB2.out.trans (hb9.mono HB2.out.size))
  have HO9 := Lib.hid ho9
  clear ho9 hb9 hn9
  have d0 := HG9.out.cell0
  have d1 := HG9.out.cell1
  have f0 := HG9.out.free 0
  have f1 := HG9.out.free 1
  go_wp2_with fail
  have e2 := (HG9.out.set0 (.int .i64 p)).set1 (.slice A9 n9 c9)
  refine bodyPost_ret (v := .tuple #[.agg #[.int .i64 p, .slice A9 n9 c9], .int .i64 0]) ?_ ?_ ?_
  · exact results_row_tmp Try.results15 _ _ (w.heap.size) _ _ rfl rfl (run_loadVar_row _ _ _ _ _ _ _ e2 Try.underlying25 rfl size_sum)
  · rfl
  · exact ⟨_, vs9, rfl, ((HO9.out.set_other ⟨w.heap.size, 0, none⟩ (.int .i64 p) (by show w.heap.size < _; omega)).set_other ⟨w.heap.size, 1, none⟩ (.slice A9 n9 c9) (by show w.heap.size < _; omega)).mono (lo' := w.heap.size) (by omega), ((HB9.out.setCell (by show w.heap.size ≤ w.heap.size; omega) _).setCell (by show w.heap.size ≤ w.heap.size; omega) _)⟩

end Go.Proofs.Ytofcldplgkejiaa
