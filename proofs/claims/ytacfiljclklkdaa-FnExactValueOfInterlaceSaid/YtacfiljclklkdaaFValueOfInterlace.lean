/- ValueOfInterlace: the contracts of the model's and of the program's function. -/
import Derived.Test.YtacfiljclklkdaaInterS
import Derived.Test.YtacfiljclklkdaaInterI
import Derived.Test.YtacfiljclklkdaaValueAt
namespace Go.Proofs.Ytacfiljclklkdaa
open Go.RowKit
set_option linter.unusedVariables false
set_option linter.unusedSimpArgs false
set_option maxRecDepth 100000

def valInter (xs : List Int) (x : Int) : Int × Int := if isWord xs then (if inB x (-100) 100 then (valueI (interL xs) x, 0) else (0, 2)) else (0, 1)
theorem interL_bd {xs : List Int} (hw : isWord xs = true) (t : Nat) : -4096 ≤ (interL xs)[t]?.getD 0 ∧ (interL xs)[t]?.getD 0 ≤ 4096 := by
  have hn := isWord_len hw
  by_cases ht : t < xs.length / 2 + 1
  · unfold interL
    rw [sumL_at _ _ _ ht]
    exact sum_small (fun c hc => by have := cors_mem hc; omega) (by rw [cors_len]; exact two_six (by omega)) t
  · rw [List.getElem?_eq_none (by rw [interL_len]; omega)]; decide
theorem horn100 : ∀ k, k < 7 → hornBd 100 4096 k * 100 + 4096 ≤ 4000000000000000000 := by decide
theorem inter_horn {xs : List Int} {x : Int} (hw : isWord xs = true) (hx : inB x (-100) 100 = true) : HornB (interL xs) x := by
  have hn := isWord_len hw
  have h := inB_true.1 hx
  exact hornB_of (X := 100) (B := 4096) h (by decide) (interL_bd hw) (by rw [interL_len]; omega) horn100
theorem interL_sz {xs : List Int} (h : isWord xs = true) : (interL xs).length ≤ 1048576 := by
  have := isWord_len h
  rw [interL_len]; omega
theorem isHund_any (x : Int) (w : World) : Calls Try.prog 58 #[.int .i64 x, .int .i64 100] w fun e w' => e = .returned (.bool (inB x (-100) 100)) ∧ w = w' := by
  by_cases h1 : -100 ≤ x
  · by_cases h2 : x ≤ 100
    · have H : Hid (inB x (-100) 100 = true) := Lib.hid (inB_true.2 ⟨h1, h2⟩)
      go_enter Try.func58, Try.ntmps58
      go_wp2
      go_ret
      exact ⟨ret_bool (by rw [H.out]), rfl⟩
    · have H : Hid (inB x (-100) 100 = false) := Lib.hid (inB_false.2 (fun h => h2 h.2))
      go_enter Try.func58, Try.ntmps58
      go_wp2
      go_ret
      exact ⟨ret_bool (by rw [H.out]), rfl⟩
  · have H : Hid (inB x (-100) 100 = false) := Lib.hid (inB_false.2 (fun h => h1 h.1))
    go_enter Try.func58, Try.ntmps58
    go_wp2
    go_ret
    exact ⟨ret_bool (by rw [H.out]), rfl⟩
set_option maxHeartbeats 800000 in
theorem specValueOfInterlace_any (A : Option Addr) (n c : Nat) (xs : List Int) (x : Int) (w : World) (hr : Rd w A n xs) (hwf : Wf xs) (hn : n ≤ 1048576) (hc : n ≤ c) (hx : -9223372036854775808 ≤ x ∧ x ≤ 9223372036854775807) :
    Told 23 #[.slice A n c, .int .i64 x] w (.tuple #[.int .i64 (valInter xs x).1, .int .i64 (valInter xs x).2]) := by
  have HR := Lib.hid hr
  clear hr hwf
  rcases hw : isWord xs with _ | _
  · refine told_mk (v' := .tuple #[.int .i64 0, .int .i64 1]) (by unfold valInter; rw [hw]; rfl) ?_
    have HW := Lib.hid hw
    clear hw
    go_enter Try.func23, Try.ntmps23
    go_wp2_with fail
    refine (specIs_any _ _ _ xs _ HR.out hn).mono ?_
    rintro e w1 ⟨rfl, hb1⟩
    rw [HW.out]
    go_wp2_with fail
    go_ret2
    exact ⟨rfl, hb1⟩
  · rcases hi : inB x (-100) 100 with _ | _
    · refine told_mk (v' := .tuple #[.int .i64 0, .int .i64 2]) (by unfold valInter; rw [hw, hi]; rfl) ?_
      have HW := Lib.hid hw
      have HI := Lib.hid hi
      clear hw hi
      go_enter Try.func23, Try.ntmps23
      go_wp2_with fail
      refine (specIs_any _ _ _ xs _ HR.out hn).mono ?_
      rintro e w1 ⟨rfl, hb1⟩
      rw [HW.out]
      go_wp2_with fail
      refine (in_any _ _ _ _).mono ?_
      rintro e w2 ⟨rfl, rfl⟩
      rw [HI.out]
      go_wp2_with fail
      go_ret2
      exact ⟨rfl, hb1⟩
    · refine told_mk (v' := .tuple #[.int .i64 (valueI (interL xs) x), .int .i64 0]) (by unfold valInter; rw [hw, hi]; rfl) ?_
      have HW := Lib.hid hw
      have HI := Lib.hid hi
      have HH := Lib.hid (inter_horn hw hi)
      have HSZ := Lib.hid (interL_sz hw)
      clear hw hi
      go_enter Try.func23, Try.ntmps23
      go_wp2_with fail
      refine (specIs_any _ _ _ xs _ HR.out hn).mono ?_
      rintro e w1 ⟨rfl, hb1⟩
      rw [HW.out]
      have HB1 := Lib.hid hb1
      clear hb1
      go_wp2_with fail
      refine (in_any _ _ _ _).mono ?_
      rintro e w2 ⟨rfl, rfl⟩
      rw [HI.out]
      go_wp2_with fail
      refine (inter10_any _ _ _ xs _ (HR.out.below HB1.out) HW.out).mono ?_
      rintro e w3 ⟨v3, rfl, ho3, hb3⟩
      obtain ⟨A3, n3, d3, rfl, hn3, hr3⟩ := ho3.form'
      have HR3 := Lib.hid hr3
      have hn3' : n3 ≤ 1048576 := by have := HSZ.out; omega
      have HB3 := Lib.hid (HB1.out.trans (hb3.mono HB1.out.size))
      clear ho3 hn3 hr3 hb3
      go_wp2_with fail
      refine (value10_any _ _ _ _ _ _ HR3.out hn3' HH.out).mono ?_
      rintro e w4 ⟨rfl, hb4⟩
      go_wp2_with fail
      go_ret2
      exact ⟨rfl, HB3.out.trans (hb4.mono HB3.out.size)⟩
set_option maxHeartbeats 800000 in
theorem implValueOfInterlace_any (A : Option Addr) (n c : Nat) (xs : List Int) (x : Int) (w : World) (hr : Rd w A n xs) (hwf : Wf xs) (hn : n ≤ 1048576) (hc : n ≤ c) (hx : -9223372036854775808 ≤ x ∧ x ≤ 9223372036854775807) :
    Told 24 #[.slice A n c, .int .i64 x] w (.tuple #[.int .i64 (valInter xs x).1, .int .i64 (valInter xs x).2]) := by
  have HR := Lib.hid hr
  have HWF := Lib.hid hwf
  clear hr hwf
  rcases hw : isWord xs with _ | _
  · refine told_mk (v' := .tuple #[.int .i64 0, .int .i64 1]) (by unfold valInter; rw [hw]; rfl) ?_
    have HW := Lib.hid hw
    clear hw
    go_enter Try.func24, Try.ntmps24
    go_wp2_with fail
    refine (implIs_any _ _ _ xs _ HR.out HWF.out hn).mono ?_
    rintro e w1 ⟨rfl, hb1⟩
    rw [HW.out]
    go_wp2_with fail
    go_ret2
    exact ⟨rfl, hb1⟩
  · rcases hi : inB x (-100) 100 with _ | _
    · refine told_mk (v' := .tuple #[.int .i64 0, .int .i64 2]) (by unfold valInter; rw [hw, hi]; rfl) ?_
      have HW := Lib.hid hw
      have HI := Lib.hid hi
      clear hw hi
      go_enter Try.func24, Try.ntmps24
      go_wp2_with fail
      refine (implIs_any _ _ _ xs _ HR.out HWF.out hn).mono ?_
      rintro e w1 ⟨rfl, hb1⟩
      rw [HW.out]
      go_wp2_with fail
      refine (isHund_any _ _).mono ?_
      rintro e w2 ⟨rfl, rfl⟩
      rw [HI.out]
      go_wp2_with fail
      go_ret2
      exact ⟨rfl, hb1⟩
    · refine told_mk (v' := .tuple #[.int .i64 (valueI (interL xs) x), .int .i64 0]) (by unfold valInter; rw [hw, hi]; rfl) ?_
      have HW := Lib.hid hw
      have HI := Lib.hid hi
      have HH := Lib.hid (inter_horn hw hi)
      have HSZ := Lib.hid (interL_sz hw)
      clear hw hi
      go_enter Try.func24, Try.ntmps24
      go_wp2_with fail
      refine (implIs_any _ _ _ xs _ HR.out HWF.out hn).mono ?_
      rintro e w1 ⟨rfl, hb1⟩
      rw [HW.out]
      have HB1 := Lib.hid hb1
      clear hb1
      go_wp2_with fail
      refine (isHund_any _ _).mono ?_
      rintro e w2 ⟨rfl, rfl⟩
      rw [HI.out]
      go_wp2_with fail
      refine (interlaceOf_any _ _ _ xs _ (HR.out.below HB1.out) hc HW.out).mono ?_
      rintro e w3 ⟨v3, rfl, ho3, hb3⟩
      obtain ⟨A3, n3, d3, rfl, hn3, hr3⟩ := ho3.form'
      have HR3 := Lib.hid hr3
      have hn3' : n3 ≤ 1048576 := by have := HSZ.out; omega
      have HB3 := Lib.hid (HB1.out.trans (hb3.mono HB1.out.size))
      clear ho3 hn3 hr3 hb3
      go_wp2_with fail
      refine (valueAt_any _ _ _ _ _ _ HR3.out hn3' HH.out).mono ?_
      rintro e w4 ⟨rfl, hb4⟩
      go_wp2_with fail
      go_ret2
      exact ⟨rfl, HB3.out.trans (hb4.mono HB3.out.size)⟩
end Go.Proofs.Ytacfiljclklkdaa
