/- WritheOf: both contracts. -/
import Derived.Test.YtpeckofpgiabaaaGauIs
namespace Go.Proofs.Ytpeckofpgiabaaa
open Go.RowKit
set_option linter.unusedVariables false
set_option linter.unusedSimpArgs false
set_option maxRecDepth 100000

def writheOf (ws hs ss : List Int) : Int × Int := if gaussB ws hs ss then (ss.sum, 0) else (0, 1)
theorem writhe_yes {ws hs ss : List Int} (h : gaussB ws hs ss = true) : writheOf ws hs ss = (ss.sum, 0) := by unfold writheOf; rw [if_pos h]
theorem writhe_no {ws hs ss : List Int} (h : gaussB ws hs ss = false) : writheOf ws hs ss = (0, 1) := by unfold writheOf; rw [if_neg (by rw [h]; decide)]
theorem sum_take (xs : List Int) (k : Nat) (h : k < xs.length) : (xs.take (k + 1)).sum = (xs.take k).sum + xs[k]?.getD 0 := by
  rw [take_next xs k h]; simp
theorem sum_signs (xs : List Int) (h : xs.all signN = true) (k : Nat) (hk : k ≤ xs.length) : -(k : Int) ≤ (xs.take k).sum ∧ (xs.take k).sum ≤ k := by
  induction k with
  | zero => simp
  | succ k ih =>
    have h1 := ih (by omega)
    have h2 := signN_iff.1 (all_at h (k := k) (by omega))
    rw [sum_take xs k (by omega)]
    omega
set_option maxHeartbeats 1600000 in
theorem specWritheOf_any (A B C : Option Addr) (n c m d q f : Nat) (ws hs ss : List Int) (w : World) (hr : RdGB w w.heap.size A n B m C q ws hs ss) (hwf : WfG ws hs ss) (hf : FewG ws hs ss) :
    Told 14 #[.agg #[.slice A n c, .slice B m d, .slice C q f]] w (.tuple #[.int .i64 (writheOf ws hs ss).1, .int .i64 (writheOf ws hs ss).2]) := by
  unfold Told
  obtain ⟨W, hW⟩ : ∃ W, W = w.alloc (.cells #[.slice A n c, .slice B m d, .slice C q f] 27) := ⟨_, rfl⟩
  have hal : Below w.heap.size w W := by rw [hW]; exact below_alloc _ _
  have hbx : Box3 W w.heap.size 27 (.slice A n c) (.slice B m d) (.slice C q f) := by rw [hW]; exact box3_new _ _ _ _ _
  have hsW : W.heap.size = w.heap.size + 1 := by rw [hW]; simp
  have HX := Lib.hid hbx
  have HL : Hid (ws.length = n ∧ hs.length = m ∧ ss.length = q) := Lib.hid ⟨hr.1.1, hr.2.1.1, hr.2.2.1⟩
  have HR := Lib.hid ((hr.below hal).rd hal.size)
  have HB := Lib.hid hal
  have HW := Lib.hid hW
  have HWF := Lib.hid hwf
  have HMF := Lib.hid hf
  have hnl : n + m + q ≤ 1048576 := by unfold FewG needG at hf; rw [HL.out.1, HL.out.2.1, HL.out.2.2] at hf; exact hf
  have q0 := hbx.cell0
  have q1 := hbx.cell1
  have q2 := hbx.cell2
  clear hr hal hbx hW hwf hf
  by_cases hG : gaussB ws hs ss = true
  case neg =>
    have HG : Hid (gaussB ws hs ss = false) := Lib.hid (by simpa using hG)
    have HN := Lib.hid (writhe_no (by simpa using hG : gaussB ws hs ss = false))
    clear hG
    go_enter Try.func14, Try.ntmps14
    go_wp2_with fail
    rw [← HW.out]
    refine (specGauss_any _ _ _ _ _ _ _ _ _ ws hs ss _ HR.out HMF.out).mono ?_
    rintro e w1 ⟨rfl, hb1⟩
    rw [HG.out]
    go_wp2_with fail
    go_ret2
    exact ⟨by rw [HN.out]; rfl, HB.out.trans (hb1.mono HB.out.size)⟩
  have HG := Lib.hid hG
  have HLN := Lib.hid (gaussB_lens hG)
  have hn12 : n ≤ 12 := by have := HLN.out.1; have := HL.out; omega
  have hq6 : q ≤ 6 := by have := HLN.out; have := HL.out; omega
  have hm6 : m ≤ 6 := by have := HLN.out; have := HL.out; omega
  have HN := Lib.hid (writhe_yes hG)
  have HS := Lib.hid (gaussB_signs hG)
  clear hG
  go_enter Try.func14, Try.ntmps14
  go_wp2_with fail
  rw [← HW.out]
  refine (specGauss_any _ _ _ _ _ _ _ _ _ ws hs ss _ HR.out HMF.out).mono ?_
  rintro e w1 ⟨rfl, hb1⟩
  rw [HG.out]
  have HX1 := Lib.hid (HX.out.below hb1 (by omega))
  have HR1 := Lib.hid ((HR.out.below hb1).rd hb1.size)
  have HB1 := Lib.hid (HB.out.trans (hb1.mono HB.out.size))
  have hs1 := hb1.size
  clear hb1 q0 q1 q2
  have q0 := HX1.out.cell0
  have q1 := HX1.out.cell1
  have q2 := HX1.out.cell2
  go_wp2_with fail
  go_loopw [4, 5] (fun s i wr => ∃ k : Nat, k ≤ q ∧ i = .int .i64 k ∧ (∃ z : Int, s = .int .i64 z ∧ -6 ≤ z ∧ z ≤ 6 ∧ Hid (z = (ss.take k).sum)) ∧ wr = w1) (fun _ i _ => q - (intOf i).toNat)
  case atStart => exact ⟨0, by omega, rfl, ⟨0, rfl, by omega, by omega, Lib.hid (by simp)⟩, rfl⟩
  case round =>
    obtain ⟨k, hk, rfl, ⟨z, rfl, hz0, hz1, hz⟩, rfl⟩ := hrel
    by_cases hlt : k < q
    · obtain ⟨a, rfl, ha, hc⟩ := Rd.at_ (show Rd wr C q ss from HR1.out.2.2) hlt
      have hbd := sum_signs ss HS.out (k + 1) (by have := HL.out; omega)
      have hst := sum_take ss k (by have := HL.out; omega)
      obtain ⟨y, hy⟩ : ∃ y, y = ss[k]?.getD 0 := ⟨_, rfl⟩
      rw [← hy] at hst
      have HY : Hid (z + y = (ss.take (k + 1)).sum) := Lib.hid (by rw [hst, hz.out])
      have hy0 : -6 ≤ z + y := by have := HY.out; omega
      have hy1 : z + y ≤ 6 := by have := HY.out; omega
      rw [getD_eq, ← hy] at hc
      clear hy hst hbd
      go_wp2
      go_roundw
      case rel => exact ⟨k + 1, by omega, by go_num, ⟨_, by go_num, hy0, hy1, HY⟩, by first | exact trivial | rfl⟩
      case measure => simp [intOf]; omega
    · obtain rfl : k = q := by omega
      have HZ : Hid (z = ss.sum) := Lib.hid (by have h := hz.out; rwa [List.take_of_length_le (by have := HL.out; omega)] at h)
      go_wp2
      go_ret2
      exact ⟨by rw [HN.out, HZ.out]; rfl, HB1.out⟩
set_option maxHeartbeats 1600000 in
theorem implWritheOf_any (A B C : Option Addr) (n c m d q f : Nat) (ws hs ss : List Int) (w : World) (hr : RdGB w w.heap.size A n B m C q ws hs ss) (hwf : WfG ws hs ss) (hf : FewG ws hs ss) :
    Told 15 #[.agg #[.slice A n c, .slice B m d, .slice C q f]] w (.tuple #[.int .i64 (writheOf ws hs ss).1, .int .i64 (writheOf ws hs ss).2]) := by
  unfold Told
  obtain ⟨W, hW⟩ : ∃ W, W = w.alloc (.cells #[.slice A n c, .slice B m d, .slice C q f] 27) := ⟨_, rfl⟩
  have hal : Below w.heap.size w W := by rw [hW]; exact below_alloc _ _
  have hbx : Box3 W w.heap.size 27 (.slice A n c) (.slice B m d) (.slice C q f) := by rw [hW]; exact box3_new _ _ _ _ _
  have hsW : W.heap.size = w.heap.size + 1 := by rw [hW]; simp
  have HX := Lib.hid hbx
  have HL : Hid (ws.length = n ∧ hs.length = m ∧ ss.length = q) := Lib.hid ⟨hr.1.1, hr.2.1.1, hr.2.2.1⟩
  have HR := Lib.hid ((hr.below hal).rd hal.size)
  have HB := Lib.hid hal
  have HW := Lib.hid hW
  have HWF := Lib.hid hwf
  have HMF := Lib.hid hf
  have hnl : n + m + q ≤ 1048576 := by unfold FewG needG at hf; rw [HL.out.1, HL.out.2.1, HL.out.2.2] at hf; exact hf
  have q0 := hbx.cell0
  have q1 := hbx.cell1
  have q2 := hbx.cell2
  clear hr hal hbx hW hwf hf
  by_cases hG : gaussB ws hs ss = true
  case neg =>
    have HG : Hid (gaussB ws hs ss = false) := Lib.hid (by simpa using hG)
    have HN := Lib.hid (writhe_no (by simpa using hG : gaussB ws hs ss = false))
    clear hG
    go_enter Try.func15, Try.ntmps15
    go_wp2_with fail
    rw [← HW.out]
    refine (implGauss_any _ _ _ _ _ _ _ _ _ ws hs ss _ HR.out HWF.out HMF.out).mono ?_
    rintro e w1 ⟨rfl, hb1⟩
    rw [HG.out]
    go_wp2_with fail
    go_ret2
    exact ⟨by rw [HN.out]; rfl, HB.out.trans (hb1.mono HB.out.size)⟩
  have HG := Lib.hid hG
  have HLN := Lib.hid (gaussB_lens hG)
  have hn12 : n ≤ 12 := by have := HLN.out.1; have := HL.out; omega
  have hq6 : q ≤ 6 := by have := HLN.out; have := HL.out; omega
  have hm6 : m ≤ 6 := by have := HLN.out; have := HL.out; omega
  have HN := Lib.hid (writhe_yes hG)
  have HS := Lib.hid (gaussB_signs hG)
  clear hG
  go_enter Try.func15, Try.ntmps15
  go_wp2_with fail
  rw [← HW.out]
  refine (implGauss_any _ _ _ _ _ _ _ _ _ ws hs ss _ HR.out HWF.out HMF.out).mono ?_
  rintro e w1 ⟨rfl, hb1⟩
  rw [HG.out]
  have HX1 := Lib.hid (HX.out.below hb1 (by omega))
  have HR1 := Lib.hid ((HR.out.below hb1).rd hb1.size)
  have HB1 := Lib.hid (HB.out.trans (hb1.mono HB.out.size))
  have hs1 := hb1.size
  clear hb1 q0 q1 q2
  have q0 := HX1.out.cell0
  have q1 := HX1.out.cell1
  have q2 := HX1.out.cell2
  go_wp2_with fail
  go_loopw [4, 13] (fun s i wr => ∃ k : Nat, k ≤ q ∧ i = .int .i64 k ∧ (∃ z : Int, s = .int .i64 z ∧ -6 ≤ z ∧ z ≤ 6 ∧ Hid (z = (ss.take k).sum)) ∧ wr = w1) (fun _ i _ => q - (intOf i).toNat)
  case atStart => exact ⟨0, by omega, rfl, ⟨0, rfl, by omega, by omega, Lib.hid (by simp)⟩, rfl⟩
  case round =>
    obtain ⟨k, hk, rfl, ⟨z, rfl, hz0, hz1, hz⟩, rfl⟩ := hrel
    by_cases hlt : k < q
    · obtain ⟨a, rfl, ha, hc⟩ := Rd.at_ (show Rd wr C q ss from HR1.out.2.2) hlt
      have hbd := sum_signs ss HS.out (k + 1) (by have := HL.out; omega)
      have hst := sum_take ss k (by have := HL.out; omega)
      obtain ⟨y, hy⟩ : ∃ y, y = ss[k]?.getD 0 := ⟨_, rfl⟩
      rw [← hy] at hst
      have HY : Hid (z + y = (ss.take (k + 1)).sum) := Lib.hid (by rw [hst, hz.out])
      have hy0 : -6 ≤ z + y := by have := HY.out; omega
      have hy1 : z + y ≤ 6 := by have := HY.out; omega
      rw [getD_eq, ← hy] at hc
      clear hy hst hbd
      go_wp2
      go_roundw
      case rel => exact ⟨k + 1, by omega, by go_num, ⟨_, by go_num, hy0, hy1, HY⟩, by first | exact trivial | rfl⟩
      case measure => simp [intOf]; omega
    · obtain rfl : k = q := by omega
      have HZ : Hid (z = ss.sum) := Lib.hid (by have h := hz.out; rwa [List.take_of_length_le (by have := HL.out; omega)] at h)
      go_wp2
      go_ret2
      exact ⟨by rw [HN.out, HZ.out]; rfl, HB1.out⟩
end Go.Proofs.Ytpeckofpgiabaaa
