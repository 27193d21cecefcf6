/- GaussText: both contracts. -/
import Derived.Test.YtpeckofpgiabaaaGTextImpl
namespace Go.Proofs.Ytpeckofpgiabaaa
open Go.RowKit
set_option linter.unusedVariables false
set_option linter.unusedSimpArgs false
set_option maxRecDepth 100000

set_option maxHeartbeats 1600000 in
theorem specGaussText_any (A B C : Option Addr) (n c m d q f : Nat) (ws hs ss : List Int) (w : World) (hr : RdGB w w.heap.size A n B m C q ws hs ss) (hwf : WfG ws hs ss) (hf : FewG ws hs ss) :
    Told 20 #[.agg #[.slice A n c, .slice B m d, .slice C q f]] w (.tuple #[.string (gaussText ws hs ss).1, .int .i64 (gaussText ws hs ss).2]) := by
  unfold Told
  obtain ⟨W, hW⟩ : ∃ W, W = w.alloc (.cells #[.slice A n c, .slice B m d, .slice C q f] 27) := ⟨_, rfl⟩
  have hal : Below w.heap.size w W := by rw [hW]; exact below_alloc _ _
  have hbx : Box3 W w.heap.size 27 (.slice A n c) (.slice B m d) (.slice C q f) := by rw [hW]; exact box3_new _ _ _ _ _
  have hsW : W.heap.size = w.heap.size + 1 := by rw [hW]; simp
  have HX := Lib.hid hbx
  have HL : Hid (ws.length = n ∧ hs.length = m ∧ ss.length = q) := Lib.hid ⟨hr.1.1, hr.2.1.1, hr.2.2.1⟩
  have HR := Lib.hid ((hr.below hal).rd hal.size)
  have HB := Lib.hid hal
  have HW := Lib.hid hW
  have HWF := Lib.hid hwf
  have HMF := Lib.hid hf
  have hnl : n + m + q ≤ 1048576 := by unfold FewG needG at hf; rw [HL.out.1, HL.out.2.1, HL.out.2.2] at hf; exact hf
  have q0 := hbx.cell0
  have q1 := hbx.cell1
  have q2 := hbx.cell2
  clear hr hal hbx hW hwf hf
  by_cases hG : gaussB ws hs ss = true
  case neg =>
    have HG : Hid (gaussB ws hs ss = false) := Lib.hid (by simpa using hG)
    have HN := Lib.hid (gtext_no (by simpa using hG : gaussB ws hs ss = false))
    clear hG
    go_enter Try.func20, Try.ntmps20
    go_wp2_with fail
    rw [← HW.out]
    refine (specGauss_any _ _ _ _ _ _ _ _ _ ws hs ss _ HR.out HMF.out).mono ?_
    rintro e w1 ⟨rfl, hb1⟩
    rw [HG.out]
    go_wp2_with fail
    go_ret2
    exact ⟨by rw [HN.out]; rfl, HB.out.trans (hb1.mono HB.out.size)⟩
  have HG := Lib.hid hG
  have HLN := Lib.hid (gaussB_lens hG)
  have hn12 : n ≤ 12 := by have := HLN.out.1; have := HL.out; omega
  have hq6 : q ≤ 6 := by have := HLN.out; have := HL.out; omega
  have hm6 : m ≤ 6 := by have := HLN.out; have := HL.out; omega
  have HN := Lib.hid (gtext_yes hG)
  clear hG
  go_enter Try.func20, Try.ntmps20
  go_wp2_with fail
  rw [← HW.out]
  refine (specGauss_any _ _ _ _ _ _ _ _ _ ws hs ss _ HR.out HMF.out).mono ?_
  rintro e w1 ⟨rfl, hb1⟩
  rw [HG.out]
  have HX1 := Lib.hid (HX.out.below hb1 (by omega))
  have HR1 := Lib.hid ((HR.out.below hb1).rd hb1.size)
  have HB1 := Lib.hid (HB.out.trans (hb1.mono HB.out.size))
  have hs1 := hb1.size
  clear hb1 q0 q1 q2
  have q0 := HX1.out.cell0
  have q1 := HX1.out.cell1
  have q2 := HX1.out.cell2
  go_wp2_with fail
  refine (specGText_any _ _ _ _ _ _ _ _ _ ws hs ss _ HR1.out HWF.out HMF.out HG.out).mono ?_
  rintro e w2 ⟨rfl, hb2⟩
  go_wp2_with fail
  go_ret2
  exact ⟨by rw [HN.out]; rfl, HB1.out.trans (hb2.mono HB1.out.size)⟩
set_option maxHeartbeats 1600000 in
theorem implGaussText_any (A B C : Option Addr) (n c m d q f : Nat) (ws hs ss : List Int) (w : World) (hr : RdGB w w.heap.size A n B m C q ws hs ss) (hwf : WfG ws hs ss) (hf : FewG ws hs ss) :
    Told 21 #[.agg #[.slice A n c, .slice B m d, .slice C q f]] w (.tuple #[.string (gaussText ws hs ss).1, .int .i64 (gaussText ws hs ss).2]) := by
  unfold Told
  obtain ⟨W, hW⟩ : ∃ W, W = w.alloc (.cells #[.slice A n c, .slice B m d, .slice C q f] 27) := ⟨_, rfl⟩
  have hal : Below w.heap.size w W := by rw [hW]; exact below_alloc _ _
  have hbx : Box3 W w.heap.size 27 (.slice A n c) (.slice B m d) (.slice C q f) := by rw [hW]; exact box3_new _ _ _ _ _
  have hsW : W.heap.size = w.heap.size + 1 := by rw [hW]; simp
  have HX := Lib.hid hbx
  have HL : Hid (ws.length = n ∧ hs.length = m ∧ ss.length = q) := Lib.hid ⟨hr.1.1, hr.2.1.1, hr.2.2.1⟩
  have HR := Lib.hid ((hr.below hal).rd hal.size)
  have HB := Lib.hid hal
  have HW := Lib.hid hW
  have HWF := Lib.hid hwf
  have HMF := Lib.hid hf
  have hnl : n + m + q ≤ 1048576 := by unfold FewG needG at hf; rw [HL.out.1, HL.out.2.1, HL.out.2.2] at hf; exact hf
  have q0 := hbx.cell0
  have q1 := hbx.cell1
  have q2 := hbx.cell2
  clear hr hal hbx hW hwf hf
  by_cases hG : gaussB ws hs ss = true
  case neg =>
    have HG : Hid (gaussB ws hs ss = false) := Lib.hid (by simpa using hG)
    have HN := Lib.hid (gtext_no (by simpa using hG : gaussB ws hs ss = false))
    clear hG
    go_enter Try.func21, Try.ntmps21
    go_wp2_with fail
    rw [← HW.out]
    refine (implGauss_any _ _ _ _ _ _ _ _ _ ws hs ss _ HR.out HWF.out HMF.out).mono ?_
    rintro e w1 ⟨rfl, hb1⟩
    rw [HG.out]
    go_wp2_with fail
    go_ret2
    exact ⟨by rw [HN.out]; rfl, HB.out.trans (hb1.mono HB.out.size)⟩
  have HG := Lib.hid hG
  have HLN := Lib.hid (gaussB_lens hG)
  have hn12 : n ≤ 12 := by have := HLN.out.1; have := HL.out; omega
  have hq6 : q ≤ 6 := by have := HLN.out; have := HL.out; omega
  have hm6 : m ≤ 6 := by have := HLN.out; have := HL.out; omega
  have HN := Lib.hid (gtext_yes hG)
  clear hG
  go_enter Try.func21, Try.ntmps21
  go_wp2_with fail
  rw [← HW.out]
  refine (implGauss_any _ _ _ _ _ _ _ _ _ ws hs ss _ HR.out HWF.out HMF.out).mono ?_
  rintro e w1 ⟨rfl, hb1⟩
  rw [HG.out]
  have HX1 := Lib.hid (HX.out.below hb1 (by omega))
  have HR1 := Lib.hid ((HR.out.below hb1).rd hb1.size)
  have HB1 := Lib.hid (HB.out.trans (hb1.mono HB.out.size))
  have hs1 := hb1.size
  clear hb1 q0 q1 q2
  have q0 := HX1.out.cell0
  have q1 := HX1.out.cell1
  have q2 := HX1.out.cell2
  go_wp2_with fail
  refine (implGText_any _ _ _ _ _ _ _ _ _ ws hs ss _ HR1.out HWF.out HMF.out HG.out).mono ?_
  rintro e w2 ⟨rfl, hb2⟩
  go_wp2_with fail
  go_ret2
  exact ⟨by rw [HN.out]; rfl, HB1.out.trans (hb2.mono HB1.out.size)⟩
end Go.Proofs.Ytpeckofpgiabaaa
