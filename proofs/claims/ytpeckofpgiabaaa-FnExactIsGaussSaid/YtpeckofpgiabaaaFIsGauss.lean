/- IsGauss: both contracts. -/
import Derived.Test.YtpeckofpgiabaaaGauIs
namespace Go.Proofs.Ytpeckofpgiabaaa
open Go.RowKit
set_option linter.unusedVariables false
set_option linter.unusedSimpArgs false
set_option maxRecDepth 100000
theorem implIsGauss_any (A B C : Option Addr) (n c m d q f : Nat) (ws hs ss : List Int) (w : World) (hr : RdGB w w.heap.size A n B m C q ws hs ss) (hwf : WfG ws hs ss) (hf : FewG ws hs ss) :
    Told 12 #[.agg #[.slice A n c, .slice B m d, .slice C q f]] w (.bool (gaussB ws hs ss)) := implGauss_any A B C n c m d q f ws hs ss w hr hwf hf
theorem specIsGauss_any (A B C : Option Addr) (n c m d q f : Nat) (ws hs ss : List Int) (w : World) (hr : RdGB w w.heap.size A n B m C q ws hs ss) (hwf : WfG ws hs ss) (hf : FewG ws hs ss) :
    Told 10 #[.agg #[.slice A n c, .slice B m d, .slice C q f]] w (.bool (gaussB ws hs ss)) := by
  obtain ⟨W, hW⟩ : ∃ W, W = w.alloc (.cells #[.slice A n c, .slice B m d, .slice C q f] 27) := ⟨_, rfl⟩
  have hal : Below w.heap.size w W := by rw [hW]; exact below_alloc _ _
  have hbx : Box3 W w.heap.size 27 (.slice A n c) (.slice B m d) (.slice C q f) := by rw [hW]; exact box3_new _ _ _ _ _
  have HR := Lib.hid ((hr.below hal).rd hal.size)
  have HB := Lib.hid hal
  have HW := Lib.hid hW
  have q0 := hbx.cell0
  have q1 := hbx.cell1
  have q2 := hbx.cell2
  clear hr hal hbx hW
  unfold Told
  go_enter Try.func10, Try.ntmps10
  go_wp2_with fail
  rw [← HW.out]
  refine (specGauss_any _ _ _ _ _ _ _ _ _ ws hs ss _ HR.out hf).mono ?_
  rintro e w1 ⟨rfl, hb1⟩
  go_wp2_with fail
  go_ret
  exact ⟨rfl, HB.out.trans (hb1.mono HB.out.size)⟩
end Go.Proofs.Ytpeckofpgiabaaa
