/- CountCrossings: the contracts of the model's and of the program's function. -/
import Derived.Test.YtinfhkcmjmglkaaWrap
namespace Go.Proofs.Ytinfhkcmjmglkaa
open Go.RowKit
set_option linter.unusedVariables false
set_option linter.unusedSimpArgs false
set_option maxRecDepth 100000

set_option maxHeartbeats 800000 in
theorem implCountCrossings_any (A : Option Addr) (n c : Nat) (xs : List Int) (w : World) (hr : Rd w A n xs) (hwf : Wf xs) (hn : n ≤ 1048576) (hc : n ≤ c) :
    Told 42 #[.slice A n c] w (.tuple #[.int .i64 (wordVal crossCount xs).1, .int .i64 (wordVal crossCount xs).2]) := by
  have HR := Lib.hid hr
  have HWF := Lib.hid hwf
  have HL := Lib.hid hr.len
  clear hr hwf
  rcases hw : isWord xs with _ | _
  · refine told_mk (v' := .tuple #[.int .i64 0, .int .i64 1]) (by rw [wordVal_no hw]) ?_
    have HW := Lib.hid hw
    clear hw
    go_enter Try.func42, Try.ntmps42
    go_wp2_with fail
    refine (implIs_any _ _ _ xs _ HR.out HWF.out hn).mono ?_
    rintro e w1 ⟨rfl, hb1⟩
    rw [HW.out]
    go_wp2_with fail
    go_ret2
    exact ⟨rfl, hb1⟩
  · refine told_mk (v' := .tuple #[.int .i64 (crossCount xs), .int .i64 0]) (by rw [wordVal_yes hw]) ?_
    have HW := Lib.hid hw
    clear hw
    go_enter Try.func42, Try.ntmps42
    go_wp2_with fail
    refine (implIs_any _ _ _ xs _ HR.out HWF.out hn).mono ?_
    rintro e w1 ⟨rfl, hb1⟩
    rw [HW.out]
    have hm0 : (rowsOf xs).length = xs.length / 2 := rowsOf_length xs
    obtain ⟨m, hm⟩ : ∃ m, m = xs.length / 2 := ⟨_, rfl⟩
    rw [← hm] at hm0
    have HM := Lib.hid hm
    have hm6 : m ≤ 6 := by have := isWord_len HW.out; omega
    have HR0 := Lib.hid hm0
    clear hm hm0
    go_wp2_with fail
    refine (crossingsOf_any _ _ _ xs _ (HR.out.below hb1) hc HW.out).mono ?_
    rintro e w2 ⟨v2, rfl, ho2, hb2⟩
    obtain ⟨A2, c2, vs, rfl, ho2'⟩ := ho2.slice HR0.out
    have HO := Lib.hid ho2'
    clear ho2 ho2'
    go_wp2
    go_loop [4, 15] (fun t i => ∃ k : Nat, k ≤ m ∧ i = .int .i64 k ∧ t = .int .i64 (crossTo xs k)) (fun _ i => m - (intOf i).toNat)
    case atStart => exact ⟨0, by omega, rfl, rfl⟩
    case round =>
      obtain ⟨k, hk, rfl, rfl⟩ := hrel
      have hcb := crossTo_bd xs k (by omega)
      by_cases hlt : k < m
      · obtain ⟨g, B, d, rfl, hc1, hr1, hd, hg⟩ := cross_at HO.out HM.out k hlt
        have HR1 := Lib.hid hr1
        have hkd : k ≤ d := by omega
        clear hr1
        go_wp2
        go_loop [4, 24] (fun t j => ∃ q : Nat, q ≤ k ∧ j = .int .i64 q ∧ t = .int .i64 (crossTo xs k + total ((rowOf xs k).take q))) (fun _ j => k - (intOf j).toNat)
        case atStart => exact ⟨0, by omega, rfl, by simp [total]⟩
        case round =>
          obtain ⟨q, hq, rfl, rfl⟩ := hrel
          have htb := total_take_bd (rowOf xs k) q (rowOf_01 xs k)
          by_cases hlt' : q < k
          · obtain ⟨b, rfl, hb, hc2⟩ := HR1.out.at_ (k := q) (by omega)
            have h01 := rowAt_01 xs k q
            have HT := Lib.hid (total_take (rowOf xs k) q (by rw [rowOf_length, ← HM.out]; omega))
            go_wp2
            go_round
            case rel => exact ⟨q + 1, by omega, by go_num, by rw [HT.out]; congr 1; omega⟩
            case measure => simp [intOf]; omega
          · obtain rfl : q = k := by omega
            go_wp2
            go_round
            case rel => exact ⟨q + 1, by omega, by go_num, rfl⟩
            case measure => simp [intOf]; omega
      · obtain rfl : k = m := by omega
        go_wp2
        go_ret2
        exact ⟨by unfold crossCount; rw [← HM.out]; rfl, hb1.trans (hb2.mono hb1.size)⟩
end Go.Proofs.Ytinfhkcmjmglkaa
