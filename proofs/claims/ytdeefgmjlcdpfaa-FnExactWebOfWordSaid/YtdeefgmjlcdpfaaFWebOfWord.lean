/- WebOfWord: both contracts. -/
import Derived.Test.YtdeefgmjlcdpfaaWeb
import Derived.Test.YtdeefgmjlcdpfaaRotate
import Derived.Test.YtdeefgmjlcdpfaaReflect
namespace Go.Proofs.Ytdeefgmjlcdpfaa
open Go.RowKit
set_option linter.unusedVariables false
set_option linter.unusedSimpArgs false
set_option maxRecDepth 100000

def webOfWord (xs : List Int) : (List Int × List (List Int)) × Int := if isWord xs then (if xs.length ≤ 8 then ((xs, []), 0) else (([], []), 3)) else (([], []), 1)
theorem webOfWord_few (xs : List Int) : FewW (webOfWord xs).1.1 (webOfWord xs).1.2 := by
  unfold webOfWord
  split
  · split
    · exact ⟨by show xs.length ≤ 1048576; omega, ⟨by simp, by simp⟩, by simp [cells]⟩
    · exact ⟨by simp, ⟨by simp, by simp⟩, by simp [cells]⟩
  · exact ⟨by simp, ⟨by simp, by simp⟩, by simp [cells]⟩

set_option maxHeartbeats 1600000 in
theorem implWebOfWord_any (A : Option Addr) (n c : Nat) (xs : List Int) (w : World) (hr : Rd w A n xs) (hwf : Wf xs) (hn : n ≤ 1048576) (hc : n ≤ c) :
    GaveW 29 #[.slice A n c] w (webOfWord xs) := by
  obtain ⟨W, hW⟩ : ∃ W, W = w.alloc (.cells #[.slice none 0 0, .slice none 0 0] 41) := ⟨_, rfl⟩
  have hBW : Below w.heap.size w W := by rw [hW]; exact below_alloc _ _
  have hsW : W.heap.size = w.heap.size + 1 := by rw [hW]; simp
  have g1 : Box2 W w.heap.size 41 (.slice none 0 0) (.slice none 0 0) := by rw [hW]; exact box2_new _ _ _ _
  have HR := Lib.hid (hr.below hBW)
  have HWF := Lib.hid hwf
  have HG := Lib.hid g1
  have HB := Lib.hid hBW
  have HS := Lib.hid hsW
  have HW := Lib.hid hW
  have HL := Lib.hid hr.len
  clear hr hwf hBW hsW g1 hW
  rcases hwd : isWord xs with _ | _
  · have H := Lib.hid hwd
    rw [show webOfWord xs = (([], []), 1) from by unfold webOfWord; rw [hwd]; rfl]
    clear hwd
    unfold GaveW
    go_enter Try.func29, Try.ntmps29
    go_wp2_with fail
    rw [← HW.out]
    refine (implIs_any _ _ _ xs _ HR.out HWF.out hn).mono ?_
    rintro e w1 ⟨rfl, hb1⟩
    rw [H.out]
    have HG1 := Lib.hid (HG.out.below hb1 (by rw [HS.out]; omega))
    have HB1 := Lib.hid (HB.out.trans (hb1.mono HB.out.size))
    clear hb1
    have d0 := HG1.out.cell0
    have d1 := HG1.out.cell1
    have f0 := HG1.out.free 0
    have f1 := HG1.out.free 1
    go_wp2_with fail
    have e2 := (HG1.out.set0 (.slice none 0 0)).set1 (.slice none 0 0)
    refine bodyPost_ret (v := .tuple #[.agg #[.slice none 0 0, .slice none 0 0], .int .i64 1]) ?_ ?_ ?_
    · exact results_row_tmp Try.results29 _ _ (w.heap.size) _ _ rfl rfl (run_loadVar_row _ _ _ _ _ _ _ e2 Try.underlying41 rfl size_web)
    · rfl
    · exact ⟨_, _, _, rfl, OwnW.nil_ _ _, ((HB1.out.setCell (by show w.heap.size ≤ w.heap.size; omega) _).setCell (by show w.heap.size ≤ w.heap.size; omega) _)⟩
  have H := Lib.hid hwd
  by_cases h8 : 8 < n
  · rw [show webOfWord xs = (([], []), 3) from by unfold webOfWord; rw [hwd, if_pos rfl, if_neg (by rw [HL.out]; omega)]]
    clear hwd
    unfold GaveW
    go_enter Try.func29, Try.ntmps29
    go_wp2_with fail
    rw [← HW.out]
    refine (implIs_any _ _ _ xs _ HR.out HWF.out hn).mono ?_
    rintro e w1 ⟨rfl, hb1⟩
    rw [H.out]
    have HG1 := Lib.hid (HG.out.below hb1 (by rw [HS.out]; omega))
    have HB1 := Lib.hid (HB.out.trans (hb1.mono HB.out.size))
    clear hb1
    have d0 := HG1.out.cell0
    have d1 := HG1.out.cell1
    have f0 := HG1.out.free 0
    have f1 := HG1.out.free 1
    go_wp2_with fail
    have e2 := (HG1.out.set0 (.slice none 0 0)).set1 (.slice none 0 0)
    refine bodyPost_ret (v := .tuple #[.agg #[.slice none 0 0, .slice none 0 0], .int .i64 3]) ?_ ?_ ?_
    · exact results_row_tmp Try.results29 _ _ (w.heap.size) _ _ rfl rfl (run_loadVar_row _ _ _ _ _ _ _ e2 Try.underlying41 rfl size_web)
    · rfl
    · exact ⟨_, _, _, rfl, OwnW.nil_ _ _, ((HB1.out.setCell (by show w.heap.size ≤ w.heap.size; omega) _).setCell (by show w.heap.size ≤ w.heap.size; omega) _)⟩
  · rw [show webOfWord xs = ((xs, []), 0) from by unfold webOfWord; rw [hwd, if_pos rfl, if_pos (by rw [HL.out]; omega)]]
    clear hwd
    unfold GaveW
    go_enter Try.func29, Try.ntmps29
    go_wp2_with fail
    rw [← HW.out]
    refine (implIs_any _ _ _ xs _ HR.out HWF.out hn).mono ?_
    rintro e w1 ⟨rfl, hb1⟩
    rw [H.out]
    have HG1 := Lib.hid (HG.out.below hb1 (by rw [HS.out]; omega))
    have HB1 := Lib.hid (HB.out.trans (hb1.mono HB.out.size))
    have HR1 := Lib.hid (HR.out.below hb1)
    have hn6 : n ≤ 16777216 := by omega
    clear hb1
    go_wp2_with fail
    refine (clone_any _ _ _ xs _ HR1.out hn6).mono ?_
    rintro e w2 ⟨v, rfl, ho, hb2⟩
    have HG2 := Lib.hid (HG1.out.below hb2 HG1.out.lt)
    have HB2 := Lib.hid (HB1.out.trans (hb2.mono HB1.out.size))
    have hlt1 := HG1.out.lt
    have hsz2 := hb2.size
    obtain ⟨B, m, d, rfl, hl⟩ := ho.seg.form
    have HO := Lib.hid ho
    clear hb2 ho hl
    have d0 := HG2.out.cell0
    have d1 := HG2.out.cell1
    have f0 := HG2.out.free 0
    have f1 := HG2.out.free 1
    go_wp2_with fail
    have e2 := (HG2.out.set0 (.slice B m d)).set1 (.slice none 0 0)
    refine bodyPost_ret (v := .tuple #[.agg #[.slice B m d, .slice none 0 0], .int .i64 0]) ?_ ?_ ?_
    · exact results_row_tmp Try.results29 _ _ (w.heap.size) _ _ rfl rfl (run_loadVar_row _ _ _ _ _ _ _ e2 Try.underlying41 rfl size_web)
    · rfl
    · exact ⟨_, _, _, rfl, ⟨((HO.out.set_other ⟨w.heap.size, 0, none⟩ (.slice B m d) (by show w.heap.size < _; omega)).set_other ⟨w.heap.size, 1, none⟩ (.slice none 0 0) (by show w.heap.size < _; omega)).mono (lo' := w.heap.size) (by omega), OwnV.nil_ _ _, fun k hk => ⟨by simp [Value.ownBlock], fun j => by rw [vAt_nil, nilS_block]; simp⟩⟩, ((HB2.out.setCell (by show w.heap.size ≤ w.heap.size; omega) _).setCell (by show w.heap.size ≤ w.heap.size; omega) _)⟩
set_option maxHeartbeats 1600000 in
theorem specWebOfWord_any (A : Option Addr) (n c : Nat) (xs : List Int) (w : World) (hr : Rd w A n xs) (hwf : Wf xs) (hn : n ≤ 1048576) (hc : n ≤ c) :
    GaveW 28 #[.slice A n c] w (webOfWord xs) := by
  obtain ⟨W, hW⟩ : ∃ W, W = w.alloc (.cells #[.slice none 0 0, .slice none 0 0] 41) := ⟨_, rfl⟩
  have hBW : Below w.heap.size w W := by rw [hW]; exact below_alloc _ _
  have hsW : W.heap.size = w.heap.size + 1 := by rw [hW]; simp
  have g1 : Box2 W w.heap.size 41 (.slice none 0 0) (.slice none 0 0) := by rw [hW]; exact box2_new _ _ _ _
  have HR := Lib.hid (hr.below hBW)
  have HWF := Lib.hid hwf
  have HG := Lib.hid g1
  have HB := Lib.hid hBW
  have HS := Lib.hid hsW
  have HW := Lib.hid hW
  have HL := Lib.hid hr.len
  clear hr hwf hBW hsW g1 hW
  rcases hwd : isWord xs with _ | _
  · have H := Lib.hid hwd
    rw [show webOfWord xs = (([], []), 1) from by unfold webOfWord; rw [hwd]; rfl]
    clear hwd
    unfold GaveW
    go_enter Try.func28, Try.ntmps28
    go_wp2_with fail
    rw [← HW.out]
    refine (specIs_any _ _ _ xs _ HR.out hn).mono ?_
    rintro e w1 ⟨rfl, hb1⟩
    rw [H.out]
    have HG1 := Lib.hid (HG.out.below hb1 (by rw [HS.out]; omega))
    have HB1 := Lib.hid (HB.out.trans (hb1.mono HB.out.size))
    clear hb1
    have d0 := HG1.out.cell0
    have d1 := HG1.out.cell1
    have f0 := HG1.out.free 0
    have f1 := HG1.out.free 1
    go_wp2_with fail
    have e2 := (HG1.out.set0 (.slice none 0 0)).set1 (.slice none 0 0)
    refine bodyPost_ret (v := .tuple #[.agg #[.slice none 0 0, .slice none 0 0], .int .i64 1]) ?_ ?_ ?_
    · exact results_row_tmp Try.results28 _ _ (w.heap.size) _ _ rfl rfl (run_loadVar_row _ _ _ _ _ _ _ e2 Try.underlying41 rfl size_web)
    · rfl
    · exact ⟨_, _, _, rfl, OwnW.nil_ _ _, ((HB1.out.setCell (by show w.heap.size ≤ w.heap.size; omega) _).setCell (by show w.heap.size ≤ w.heap.size; omega) _)⟩
  have H := Lib.hid hwd
  by_cases h8 : 8 < n
  · rw [show webOfWord xs = (([], []), 3) from by unfold webOfWord; rw [hwd, if_pos rfl, if_neg (by rw [HL.out]; omega)]]
    clear hwd
    unfold GaveW
    go_enter Try.func28, Try.ntmps28
    go_wp2_with fail
    rw [← HW.out]
    refine (specIs_any _ _ _ xs _ HR.out hn).mono ?_
    rintro e w1 ⟨rfl, hb1⟩
    rw [H.out]
    have HG1 := Lib.hid (HG.out.below hb1 (by rw [HS.out]; omega))
    have HB1 := Lib.hid (HB.out.trans (hb1.mono HB.out.size))
    clear hb1
    have d0 := HG1.out.cell0
    have d1 := HG1.out.cell1
    have f0 := HG1.out.free 0
    have f1 := HG1.out.free 1
    go_wp2_with fail
    have e2 := (HG1.out.set0 (.slice none 0 0)).set1 (.slice none 0 0)
    refine bodyPost_ret (v := .tuple #[.agg #[.slice none 0 0, .slice none 0 0], .int .i64 3]) ?_ ?_ ?_
    · exact results_row_tmp Try.results28 _ _ (w.heap.size) _ _ rfl rfl (run_loadVar_row _ _ _ _ _ _ _ e2 Try.underlying41 rfl size_web)
    · rfl
    · exact ⟨_, _, _, rfl, OwnW.nil_ _ _, ((HB1.out.setCell (by show w.heap.size ≤ w.heap.size; omega) _).setCell (by show w.heap.size ≤ w.heap.size; omega) _)⟩
  · rw [show webOfWord xs = ((xs, []), 0) from by unfold webOfWord; rw [hwd, if_pos rfl, if_pos (by rw [HL.out]; omega)]]
    clear hwd
    unfold GaveW
    go_enter Try.func28, Try.ntmps28
    go_wp2_with fail
    rw [← HW.out]
    refine (specIs_any _ _ _ xs _ HR.out hn).mono ?_
    rintro e w1 ⟨rfl, hb1⟩
    rw [H.out]
    have HG1 := Lib.hid (HG.out.below hb1 (by rw [HS.out]; omega))
    have HB1 := Lib.hid (HB.out.trans (hb1.mono HB.out.size))
    have HR1 := Lib.hid (HR.out.below hb1)
    have hn6 : n ≤ 16777216 := by omega
    clear hb1
    go_wp2_with fail
    refine (own_any _ _ _ xs _ HR1.out hn6).mono ?_
    rintro e w2 ⟨v, rfl, ho, hb2⟩
    have HG2 := Lib.hid (HG1.out.below hb2 HG1.out.lt)
    have HB2 := Lib.hid (HB1.out.trans (hb2.mono HB1.out.size))
    have hlt1 := HG1.out.lt
    have hsz2 := hb2.size
    obtain ⟨B, m, d, rfl, hl⟩ := ho.seg.form
    have HO := Lib.hid ho
    clear hb2 ho hl
    have HG3 := Lib.hid (HG2.out.alloc (.cells #[] 22))
    have HB3 := Lib.hid (HB2.out.alloc (by have := HB2.out.size; omega) (.cells #[] 22))
    have d0 := HG3.out.cell0
    have d1 := HG3.out.cell1
    have f0 := HG3.out.free 0
    have f1 := HG3.out.free 1
    go_wp2_with fail
    have e2 := (HG3.out.set0 (.slice B m d)).set1 (.slice (some ⟨w2.heap.size, 0, none⟩) 0 0)
    refine bodyPost_ret (v := .tuple #[.agg #[.slice B m d, .slice (some ⟨w2.heap.size, 0, none⟩) 0 0], .int .i64 0]) ?_ ?_ ?_
    · exact results_row_tmp Try.results28 _ _ (w.heap.size) _ _ rfl rfl (run_loadVar_row _ _ _ _ _ _ _ e2 Try.underlying41 rfl size_web)
    · rfl
    · exact ⟨_, _, _, rfl, ⟨(((HO.out.below (below_alloc _ _)).set_other ⟨w.heap.size, 0, none⟩ (.slice B m d) (by show w.heap.size < _; omega)).set_other ⟨w.heap.size, 1, none⟩ _ (by show w.heap.size < _; omega)).mono (lo' := w.heap.size) (by omega), (((OwnV.lit_ w2).set_other ⟨w.heap.size, 0, none⟩ _ (by show w.heap.size < _; omega)).set_other ⟨w.heap.size, 1, none⟩ _ (by show w.heap.size < _; omega)).mono (by omega), fun k hk => ⟨by have := HO.out.lt k hk; simp [Value.ownBlock]; omega, fun j => by rw [vAt_nil, nilS_block]; simp⟩⟩, ((HB3.out.setCell (by show w.heap.size ≤ w.heap.size; omega) _).setCell (by show w.heap.size ≤ w.heap.size; omega) _)⟩
end Go.Proofs.Ytdeefgmjlcdpfaa
