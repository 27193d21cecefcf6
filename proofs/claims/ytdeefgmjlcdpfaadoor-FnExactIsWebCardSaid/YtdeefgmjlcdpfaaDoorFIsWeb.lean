/- IsWeb: the model's and the program's answer. -/
import Derived.Test.YtdeefgmjlcdpfaaDoorOpenWeb
namespace Go.Proofs.YtdeefgmjlcdpfaaDoor
open Go.RowKit
set_option linter.unusedVariables false
set_option linter.unusedSimpArgs false
set_option maxRecDepth 100000

theorem specIsWeb_any (A : Option Addr) (n c : Nat) (B : Option Addr) (m d : Nat) (xs : List Int) (rs : List (List Int)) (w : World) (hr : RdWB w w.heap.size A n B m xs rs) (hw : WfW xs rs) (hs : FewW xs rs) :
    Told 9 #[.agg #[.slice A n c, .slice B m d]] w (.bool (webB xs rs)) := by
  have hal := below_alloc w (.cells #[.slice A n c, .slice B m d] 28)
  obtain ⟨W, hW⟩ : ∃ W, W = w.alloc (.cells #[.slice A n c, .slice B m d] 28) := ⟨_, rfl⟩
  have hX : Box2 W w.heap.size 28 (.slice A n c) (.slice B m d) := by rw [hW]; exact box2_new _ _ _ _
  have HB : Hid (Below w.heap.size w W) := Lib.hid (by rw [hW]; exact hal)
  have HRW : Hid (RdWB W W.heap.size A n B m xs rs) := Lib.hid ((hr.below HB.out).rd HB.out.size)
  have HW := Lib.hid hW
  have q0 := hX.cell0
  have q1 := hX.cell1
  clear hal hW hX hr
  unfold Told
  go_enter Tryd.func9, Tryd.ntmps9
  go_upto_region 1 with fail
  rw [← HW.out]
  go_wp2_with fail
  refine (specWeb_any _ _ _ _ _ _ xs rs _ HRW.out hs).mono ?_
  rintro e w1 ⟨rfl, hb⟩
  go_wp2_with fail
  go_ret
  exact ⟨rfl, HB.out.trans (hb.mono HB.out.size)⟩
set_option maxHeartbeats 1600000 in
theorem implIsWeb_any (A : Option Addr) (n c : Nat) (B : Option Addr) (m d : Nat) (xs : List Int) (rs : List (List Int)) (ea : Option Addr) (w : World) (hr : RdWB w w.heap.size A n B m xs rs) (hw : WfW xs rs) (hs : FewW xs rs) (hg : w.cell? ⟨0, 0, none⟩ = some (.iface 88 (.pointer ea))) (hw0 : 0 < w.heap.size) :
    Told 11 #[.agg #[.slice A n c, .slice B m d]] w (.bool (webB xs rs)) := by
  have hal := below_alloc w (.cells #[.slice A n c, .slice B m d] 28)
  obtain ⟨W, hW⟩ : ∃ W, W = w.alloc (.cells #[.slice A n c, .slice B m d] 28) := ⟨_, rfl⟩
  have hX : Box2 W w.heap.size 28 (.slice A n c) (.slice B m d) := by rw [hW]; exact box2_new _ _ _ _
  have hbW : Below w.heap.size w W := by rw [hW]; exact hal
  have HB := Lib.hid hbW
  have HRW : Hid (RdWB W W.heap.size A n B m xs rs) := Lib.hid ((hr.below HB.out).rd HB.out.size)
  have HG : Hid (W.cell? ⟨0, 0, none⟩ = some (.iface 88 (.pointer ea))) := Lib.hid ((hbW.cell (p := ⟨0, 0, none⟩) hw0).trans hg)
  have hsz := hbW.size
  have HW := Lib.hid hW
  have q0 := hX.cell0
  have q1 := hX.cell1
  clear hal hW hX hr hbW hg
  unfold Told
  rcases hB : webB xs rs with _ | _
  · have HNO := Lib.hid hB
    clear hB
    go_enter Tryd.func11, Tryd.ntmps11
    go_upto_region 1 with fail
    rw [← HW.out]
    go_wp2_with fail
    refine (openWeb_any _ _ _ _ _ _ xs rs ea _ HRW.out hs hw HG.out (by omega)).mono ?_
    rintro e w1 ⟨⟨_, hno⟩, hb⟩
    obtain rfl := hno HNO.out
    have HB1 : Hid (Below w.heap.size w (w1.alloc (.cells #[.slice none 0 0, .slice none 0 0] 44))) := Lib.hid ((HB.out.trans (hb.mono HB.out.size)).trans ((below_alloc _ _).mono (by have := hb.size; omega)))
    go_wp2_with fail
    go_ret
    exact ⟨rfl, HB1.out⟩
  · have HYES := Lib.hid hB
    clear hB
    go_enter Tryd.func11, Tryd.ntmps11
    go_upto_region 1 with fail
    rw [← HW.out]
    go_wp2_with fail
    refine (openWeb_any _ _ _ _ _ _ xs rs ea _ HRW.out hs hw HG.out (by omega)).mono ?_
    rintro e w1 ⟨⟨hyes, _⟩, hb⟩
    obtain ⟨u, v, rfl, hoi⟩ := hyes HYES.out
    obtain ⟨Au, cu, rfl, _⟩ := hoi.legs.form
    obtain ⟨Av, cv, rfl, _⟩ := hoi.forks.form
    have HB1 : Hid (Below w.heap.size w (w1.alloc (.cells #[.slice Au xs.length cu, .slice Av rs.length cv] 44))) := Lib.hid ((HB.out.trans (hb.mono HB.out.size)).trans ((below_alloc _ _).mono (by have := hb.size; omega)))
    clear hoi
    go_wp2_with fail
    go_ret
    exact ⟨rfl, HB1.out⟩
end Go.Proofs.YtdeefgmjlcdpfaaDoor
