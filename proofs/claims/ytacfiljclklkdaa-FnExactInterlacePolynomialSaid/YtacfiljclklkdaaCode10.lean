/- Chapter 10: the errors of a word and chords. -/
import Derived.Test.YtacfiljclklkdaaSmall
namespace Go.Proofs.Ytacfiljclklkdaa
open Go.RowKit
set_option linter.unusedVariables false
set_option linter.unusedSimpArgs false
set_option maxRecDepth 100000

/-- the error of a word and chords: the first of none that is out of range -/
def code10 (xs : List Int) (is : List Int) : Int := if isWord xs then (if is.all (fun i => inB i 0 ((xs.length : Int) / 2 - 1)) then 0 else 2) else 1
theorem all_take_no (f : Int → Bool) (is : List Int) (k : Nat) (hk : k < is.length) (h : f (is[k]?.getD 0) = false) : is.all f = false := by
  rw [List.getElem?_eq_getElem hk] at h
  exact List.all_eq_false.2 ⟨is[k], List.getElem_mem hk, by simpa using h⟩
theorem all_take_yes (f : Int → Bool) (is : List Int) (k : Nat) (hk : k < is.length) (h0 : (is.take k).all f = true) (h : f (is[k]?.getD 0) = true) : (is.take (k + 1)).all f = true := by
  rw [List.getElem?_eq_getElem hk] at h
  rw [List.take_succ_eq_append_getElem hk, List.all_append, h0]
  simpa using h

set_option maxHeartbeats 800000 in
theorem code10_any (A : Option Addr) (n c : Nat) (xs : List Int) (B : Option Addr) (m d : Nat) (is : List Int) (w : World) (hr : Rd w A n xs) (hs : Rd w B m is) (hn : n ≤ 1048576) (hm : m ≤ 1048576) :
    Told 43 #[.slice A n c, .slice B m d] w (.int .i64 (code10 xs is)) := by
  have HR := Lib.hid hr
  have HS := Lib.hid hs
  have HL := Lib.hid hr.len
  have HM := Lib.hid hs.len
  clear hr hs
  rcases hw : isWord xs with _ | _
  · refine told_mk (v' := .int .i64 1) (by simp [code10, hw]) ?_
    have HW := Lib.hid hw
    clear hw
    go_enter Try.func43, Try.ntmps43
    go_wp2_with fail
    refine (specIs_any _ _ _ xs _ HR.out hn).mono ?_
    rintro e w1 ⟨rfl, hb1⟩
    rw [HW.out]
    go_wp2_with fail
    go_ret
    exact ⟨rfl, hb1⟩
  · have HC : Hid (code10 xs is = if is.all (fun i => inB i 0 ((n : Int) / 2 - 1)) then 0 else 2) := Lib.hid (by unfold code10; rw [hw, HL.out]; rfl)
    have HW := Lib.hid hw
    clear hw
    unfold Told
    go_enter Try.func43, Try.ntmps43
    go_wp2_with fail
    refine (specIs_any _ _ _ xs _ HR.out hn).mono ?_
    rintro e w1 ⟨rfl, hb1⟩
    rw [HW.out]
    have HS1 := Lib.hid (HS.out.below hb1)
    have HB1 := Lib.hid hb1
    clear hb1
    go_wp2_with fail
    go_loopw [5] (fun i wr => ∃ k : Nat, k ≤ m ∧ i = .int .i64 k ∧ Hid ((is.take k).all (fun i => inB i 0 ((n : Int) / 2 - 1)) = true) ∧ wr = w1) (fun i _ => m - (intOf i).toNat)
    case atStart => exact ⟨0, by omega, rfl, Lib.hid (by simp), rfl⟩
    case round =>
      obtain ⟨k, hk, rfl, hall, rfl⟩ := hrel
      by_cases hlt : k < m
      · obtain ⟨a, rfl, ha, hc⟩ := HS1.out.at_ hlt
        have hk2 : k < is.length := by have := HM.out; omega
        rcases hin : inB (is[k]?.getD 0) 0 ((n : Int) / 2 - 1) with _ | _
        · have HE : Hid (code10 xs is = 2) := Lib.hid (by rw [HC.out, all_take_no _ is k hk2 hin]; rfl)
          have HIN := Lib.hid hin
          clear hin hk2
          go_wp2_with fail
          refine (in_any _ _ _ _).mono ?_
          rintro e w0 ⟨rfl, rfl⟩
          rw [HIN.out]
          go_wp2_with fail
          go_ret
          exact ⟨by rw [HE.out]; rfl, HB1.out⟩
        · have HE := Lib.hid (all_take_yes _ is k hk2 hall.out hin)
          have HIN := Lib.hid hin
          clear hin hk2
          go_wp2_with fail
          refine (in_any _ _ _ _).mono ?_
          rintro e w0 ⟨rfl, rfl⟩
          rw [HIN.out]
          go_wp2_with fail
          go_roundw
          case rel => exact ⟨k + 1, by omega, by go_num, HE, by first | rfl | trivial⟩
          case measure => simp [intOf]; omega
      · have HE : Hid (code10 xs is = 0) := Lib.hid (by
          rw [HC.out, show is.all (fun i => inB i 0 ((n : Int) / 2 - 1)) = true from by
            have h := hall.out
            rw [List.take_of_length_le (by have := HM.out; omega)] at h; exact h]; rfl)
        go_wp2_with fail
        go_ret
        exact ⟨by rw [HE.out]; rfl, HB1.out⟩
end Go.Proofs.Ytacfiljclklkdaa
