/- TotalOf: the contracts of the model's and of the program's function. -/
import Derived.Test.YtinfhkcmjmglkaaSumIs
namespace Go.Proofs.Ytinfhkcmjmglkaa
open Go.RowKit
set_option linter.unusedVariables false
set_option linter.unusedSimpArgs false
set_option maxRecDepth 100000

theorem totalV_end (ts : Tms) : totalV (ts.take ts.length) = totalV ts := by rw [List.take_length]
set_option maxHeartbeats 1600000 in
theorem specTotalOf_any (p : Int) (A : Option Addr) (n c : Nat) (ts : Tms) (w : World) (hr : RdT w A n ts) (hwf : WfT ts) (hN : need ts ≤ 1048576) (hp : -9223372036854775808 ≤ p ∧ p ≤ 9223372036854775807) :
    Told 79 #[.agg #[.int .i64 p, .slice A n c]] w (.tuple #[.int .i64 (sumTotal p ts).1, .int .i64 (sumTotal p ts).2]) := by
  unfold Told
  obtain ⟨W, hW⟩ : ∃ W, W = w.alloc (.cells #[.int .i64 p, .slice A n c] 55) := ⟨_, rfl⟩
  have hbW : Below w.heap.size w W := by rw [hW]; exact below_alloc _ _
  have hsW : W.heap.size = w.heap.size + 1 := by rw [hW]; simp
  have hbx : Box2 W w.heap.size 55 (.int .i64 p) (.slice A n c) := by rw [hW]; exact box2_new _ _ _ _
  have HR := Lib.hid (hr.below hbW)
  have HWF := Lib.hid hwf
  have HL := Lib.hid hr.len
  have HB := Lib.hid hbW
  have HX := Lib.hid hbx
  have HS := Lib.hid hsW
  have HW := Lib.hid hW
  have hn1 : n ≤ 1048576 := by have := need_len ts; have := hr.len; omega
  clear hr hwf hbW hbx hsW hW
  rcases hsm : isSum p ts with _ | _
  · have H := Lib.hid hsm
    rw [sumTotal_no hsm]
    clear hsm
    go_enter Try.func79, Try.ntmps79
    go_wp2_with fail
    rw [← HW.out]
    refine (l03Is_any _ _ _ _ ts _ HR.out HWF.out hN hp).mono ?_
    rintro e w1 ⟨rfl, hb1⟩
    rw [H.out]
    go_wp2_with fail
    go_ret2
    exact ⟨rfl, HB.out.trans (hb1.mono HB.out.size)⟩
  · have H := Lib.hid hsm
    have hp2 := prime_bd (isSum_prime hsm)
    have hlen := isSum_len hsm
    rw [sumTotal_yes hsm]
    clear hsm
    go_enter Try.func79, Try.ntmps79
    go_wp2_with fail
    rw [← HW.out]
    refine (l03Is_any _ _ _ _ ts _ HR.out HWF.out hN hp).mono ?_
    rintro e w1 ⟨rfl, hb1⟩
    rw [H.out]
    have hx1 := HX.out.below hb1 (by rw [HS.out]; omega)
    have x0 := hx1.cell0
    have x1 := hx1.cell1
    have HR1 := Lib.hid (HR.out.below hb1)
    have HB1 : Hid (Below w.heap.size w w1) := Lib.hid (HB.out.trans (hb1.mono HB.out.size))
    clear hx1 hb1
    go_wp2_with fail
    go_loop [4, 5] (fun t i => ∃ (k : Nat) (y : Int), k ≤ n ∧ i = .int .i64 k ∧ t = .int .i64 y ∧ 0 ≤ y ∧ y ≤ 13 * k ∧ Hid (y = totalV (ts.take k))) (fun _ i => n - (intOf i).toNat)
    case atStart => exact ⟨0, 0, by omega, rfl, rfl, by omega, by omega, Lib.hid (by simp [totalV])⟩
    case round =>
      obtain ⟨k, y, hk, rfl, rfl, hy0, hy1, hy⟩ := hrel
      by_cases hlt : k < n
      · obtain ⟨b, o, C, m, d, rfl, ha, hc0, hc1, hrk, hmd, hd⟩ := HR1.out.at_ hlt
        have hv := termOk_val (isSum_at H.out (show k < ts.length by have := HL.out; omega))
        have hnx : Hid (y + vl ts k = totalV (ts.take (k + 1))) := Lib.hid (by rw [totalV_take ts k (by have := HL.out; omega), hy.out])
        clear hrk hmd hd
        go_wp2
        go_round
        case rel => exact ⟨k + 1, y + vl ts k, by omega, by go_num, rfl, by omega, by omega, hnx⟩
        case measure => simp [intOf]; omega
      · obtain rfl : k = n := by omega
        have hE : Hid (y % p = (totalV ts).tmod p) := Lib.hid (by
          have h1 := hy.out
          rw [← HL.out, totalV_end] at h1
          rw [← h1]; exact (Int.tmod_eq_emod_of_nonneg hy0).symm)
        have hp0 : ¬ (p = 0) := by omega
        go_wp2
        go_ret2
        exact ⟨congrArg (fun z => Ending.returned (.tuple #[.int .i64 z, .int .i64 0])) hE.out, HB1.out⟩
set_option maxHeartbeats 1600000 in
theorem implTotalOf_any (p : Int) (A : Option Addr) (n c : Nat) (ts : Tms) (w : World) (hr : RdT w A n ts) (hwf : WfT ts) (hN : need ts ≤ 1048576) (hp : -9223372036854775808 ≤ p ∧ p ≤ 9223372036854775807) :
    Told 80 #[.agg #[.int .i64 p, .slice A n c]] w (.tuple #[.int .i64 (sumTotal p ts).1, .int .i64 (sumTotal p ts).2]) := by
  unfold Told
  obtain ⟨W, hW⟩ : ∃ W, W = w.alloc (.cells #[.int .i64 p, .slice A n c] 55) := ⟨_, rfl⟩
  have hbW : Below w.heap.size w W := by rw [hW]; exact below_alloc _ _
  have hsW : W.heap.size = w.heap.size + 1 := by rw [hW]; simp
  have hbx : Box2 W w.heap.size 55 (.int .i64 p) (.slice A n c) := by rw [hW]; exact box2_new _ _ _ _
  have HR := Lib.hid (hr.below hbW)
  have HWF := Lib.hid hwf
  have HL := Lib.hid hr.len
  have HB := Lib.hid hbW
  have HX := Lib.hid hbx
  have HS := Lib.hid hsW
  have HW := Lib.hid hW
  have hn1 : n ≤ 1048576 := by have := need_len ts; have := hr.len; omega
  clear hr hwf hbW hbx hsW hW
  rcases hsm : isSum p ts with _ | _
  · have H := Lib.hid hsm
    rw [sumTotal_no hsm]
    clear hsm
    go_enter Try.func80, Try.ntmps80
    go_wp2_with fail
    rw [← HW.out]
    refine (isSumI_any _ _ _ _ ts _ HR.out HWF.out hN hp).mono ?_
    rintro e w1 ⟨rfl, hb1⟩
    rw [H.out]
    go_wp2_with fail
    go_ret2
    exact ⟨rfl, HB.out.trans (hb1.mono HB.out.size)⟩
  · have H := Lib.hid hsm
    have hp2 := prime_bd (isSum_prime hsm)
    have hlen := isSum_len hsm
    rw [sumTotal_yes hsm]
    clear hsm
    go_enter Try.func80, Try.ntmps80
    go_wp2_with fail
    rw [← HW.out]
    refine (isSumI_any _ _ _ _ ts _ HR.out HWF.out hN hp).mono ?_
    rintro e w1 ⟨rfl, hb1⟩
    rw [H.out]
    have hx1 := HX.out.below hb1 (by rw [HS.out]; omega)
    have x0 := hx1.cell0
    have x1 := hx1.cell1
    have HX1 := Lib.hid hx1
    have hs1 : w.heap.size < w1.heap.size := hx1.lt
    have HR1 := Lib.hid (HR.out.below hb1)
    have HB1 : Hid (Below w.heap.size w w1) := Lib.hid (HB.out.trans (hb1.mono HB.out.size))
    clear hx1 hb1
    go_wp2_with fail
    go_loopw [4, 13] (fun t i wr => ∃ (k : Nat) (y : Int), k ≤ n ∧ i = .int .i64 k ∧ t = .int .i64 y ∧ 0 ≤ y ∧ y ≤ 13 * k ∧ Hid (y = totalV (ts.take k)) ∧ Hid (Below w1.heap.size w1 wr)) (fun _ i _ => n - (intOf i).toNat)
    case atStart => exact ⟨0, 0, by omega, rfl, rfl, by omega, by omega, Lib.hid (by simp [totalV]), Lib.hid (Below.refl _ _)⟩
    case round =>
      obtain ⟨k, y, hk, rfl, rfl, hy0, hy1, hy, hb⟩ := hrel
      have hxr := HX1.out.below hb.out hs1
      have r0 := hxr.cell0
      have r1 := hxr.cell1
      clear x0 x1 hxr
      by_cases hlt : k < n
      · obtain ⟨b, o, C, m, d, rfl, ha, hc0, hc1, hrk, hmd, hd⟩ := (HR1.out.below hb.out).at_ hlt
        have hv := termOk_val (isSum_at H.out (show k < ts.length by have := HL.out; omega))
        have hnx : Hid (y + vl ts k = totalV (ts.take (k + 1))) := Lib.hid (by rw [totalV_take ts k (by have := HL.out; omega), hy.out])
        clear hrk hmd hd
        go_wp2
        go_roundw
        case rel => exact ⟨k + 1, y + vl ts k, by omega, by go_num, rfl, by omega, by omega, hnx, Lib.hid (hb.out.alloc hb.out.size _)⟩
        case measure => simp [intOf]; omega
      · obtain rfl : k = n := by omega
        have hE : Hid (y % p = (totalV ts).tmod p) := Lib.hid (by
          have h1 := hy.out
          rw [← HL.out, totalV_end] at h1
          rw [← h1]; exact (Int.tmod_eq_emod_of_nonneg hy0).symm)
        have hp0 : ¬ (p = 0) := by omega
        go_wp2
        go_ret2
        exact ⟨congrArg (fun z => Ending.returned (.tuple #[.int .i64 z, .int .i64 0])) hE.out, HB1.out.trans (hb.out.mono HB1.out.size)⟩
end Go.Proofs.Ytinfhkcmjmglkaa
