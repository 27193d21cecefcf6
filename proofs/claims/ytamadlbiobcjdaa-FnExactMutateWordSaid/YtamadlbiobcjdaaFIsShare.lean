/- IsShare: the contracts of the model's and of the program's function. -/
import Derived.Test.YtamadlbiobcjdaaArcsOf
namespace Go.Proofs.Ytamadlbiobcjdaa
open Go.RowKit
set_option linter.unusedVariables false
set_option linter.unusedSimpArgs false
set_option maxRecDepth 100000

theorem inArcs_in (p q r s t : Int) : inArcs p q r s t = (inB t p (q - 1) || inB t r (s - 1)) := by
  unfold inArcs inB
  rw [show decide (t ≤ q - 1) = decide (t < q) from by rw [decide_eq_decide]; omega, show decide (t ≤ s - 1) = decide (t < s) from by rw [decide_eq_decide]; omega]
set_option maxHeartbeats 1600000 in
theorem inside_any (t p q r s : Int) (w : World) (hq : 0 ≤ q) (hq2 : q ≤ 1000) (hs : 0 ≤ s) (hs2 : s ≤ 1000) :
    Calls Try.prog 79 #[.int .i64 t, .int .i64 p, .int .i64 q, .int .i64 r, .int .i64 s] w fun e w' => e = .returned (.bool (inArcs p q r s t)) ∧ w = w' := by
  rw [inArcs_in]
  rcases h1 : inB t p (q - 1) with _ | _
  · have H1 := Lib.hid h1
    clear h1
    go_enter Try.func79, Try.ntmps79
    go_wp2_with fail
    refine (in_any _ _ _ _).mono ?_
    rintro e w2 ⟨rfl, rfl⟩
    rw [H1.out]
    go_wp2_with fail
    refine (in_any _ _ _ _).mono ?_
    rintro e w2 ⟨rfl, rfl⟩
    go_wp2_with fail
    go_ret
    exact ⟨by simp, rfl⟩
  · have H1 := Lib.hid h1
    clear h1
    go_enter Try.func79, Try.ntmps79
    go_wp2_with fail
    refine (in_any _ _ _ _).mono ?_
    rintro e w2 ⟨rfl, rfl⟩
    rw [H1.out]
    go_wp2_with fail
    go_ret
    exact ⟨by simp, rfl⟩
theorem inside_is (t p q r s : Int) (z : Bool) (hz : inArcs p q r s t = z) (w : World) (hq : 0 ≤ q) (hq2 : q ≤ 1000) (hs : 0 ≤ s) (hs2 : s ≤ 1000) :
    Calls Try.prog 79 #[.int .i64 t, .int .i64 p, .int .i64 q, .int .i64 r, .int .i64 s] w fun e w' => e = .returned (.bool z) ∧ w = w' := by
  subst hz; exact inside_any t p q r s w hq hq2 hs hs2
set_option maxHeartbeats 1600000 in
theorem specShare_any (A : Option Addr) (n c : Nat) (xs : List Int) (p q r s : Int) (w : World) (hr : Rd w A n xs) (hw : isWord xs = true) (hq : 0 ≤ q) (hq2 : q ≤ 1000) (hs : 0 ≤ s) (hs2 : s ≤ 1000) :
    Calls Try.prog 47 #[.slice A n c, .int .i64 p, .int .i64 q, .int .i64 r, .int .i64 s] w fun e w' => e = .returned (.bool (shareB xs p q r s)) ∧ Below w.heap.size w w' := by
  have hl := hr.len
  have hn : n ≤ 12 := by have := isWord_len hw; omega
  obtain ⟨h, hh⟩ : ∃ h, h = n / 2 := ⟨_, rfl⟩
  have hqq : (n : Int) / 2 = (h : Int) := by omega
  have hh6 : h ≤ 6 := by omega
  have HH : Hid (h = xs.length / 2) := Lib.hid (by rw [hl, hh])
  have HR := Lib.hid hr
  have HL := Lib.hid hl
  have HW := Lib.hid hw
  clear hr hl hh hw
  go_enter Try.func47, Try.ntmps47
  go_wp2_with fail
  go_loopw [11] (fun i wr => ∃ k : Nat, k ≤ h ∧ i = .int .i64 k ∧ Hid (wholeTo xs p q r s k = true) ∧ Hid (Below w.heap.size w wr)) (fun i _ => h - (intOf i).toNat)
  case atStart => exact ⟨0, by omega, rfl, Lib.hid rfl, Lib.hid (Below.refl _ _)⟩
  case round =>
    obtain ⟨k, hk, rfl, hwt, hb⟩ := hrel
    by_cases hlt : k < h
    · have hct := word_count HW.out (i := k) (by rw [← HH.out]; exact hlt)
      have hmem : (k : Int) ∈ xs := List.count_pos_iff.1 (by omega)
      have HF : Hid (firstAt xs (k : Int) = (place1 xs (k : Int) : Int)) := Lib.hid (firstAt_mem hmem)
      have HLA : Hid (lastAt xs (k : Int) xs.length = (place2 xs (k : Int) : Int)) := Lib.hid (lastAt_two hct)
      clear hct hmem
      have hql : (k : Int) < (n : Int) / 2 := by omega
      rcases h1 : inArcs p q r s (place1 xs k) with _ | _ <;> rcases h2 : inArcs p q r s (place2 xs k) with _ | _
      · have HNX : Hid (wholeTo xs p q r s (k + 1) = true) := Lib.hid (by rw [wholeTo_succ, hwt.out, splitB, h1, h2]; rfl)
        have H1 := Lib.hid h1
        have H2 := Lib.hid h2
        clear h1 h2 hwt
        go_wp2_with fail
        refine Calls.mono (specPlaces_any _ _ _ xs _ _ (HR.out.below hb.out) (by omega)) ?_
        rintro e w2 ⟨rfl, hb2⟩
        rw [HF.out, HLA.out]
        have HB2 := Lib.hid (hb.out.trans (hb2.mono hb.out.size))
        clear hb2
        go_wp2_with fail
        refine (inside_is _ p q r s false H1.out _ hq hq2 hs hs2).mono ?_
        rintro e w3 ⟨rfl, rfl⟩
        go_wp2_with fail
        refine (inside_is _ p q r s false H2.out _ hq hq2 hs hs2).mono ?_
        rintro e w3 ⟨rfl, rfl⟩
        go_wp2_with fail
        go_roundw
        case rel => exact ⟨k + 1, by omega, by go_num, HNX, HB2⟩
        case measure => simp [intOf]; omega
      · have HNO : Hid (shareB xs p q r s = false) := Lib.hid (shareB_no (by rw [← HH.out]; exact hlt) (by rw [splitB, h1, h2]; rfl))
        have H1 := Lib.hid h1
        have H2 := Lib.hid h2
        clear h1 h2 hwt
        go_wp2_with fail
        refine Calls.mono (specPlaces_any _ _ _ xs _ _ (HR.out.below hb.out) (by omega)) ?_
        rintro e w2 ⟨rfl, hb2⟩
        rw [HF.out, HLA.out]
        have HB2 := Lib.hid (hb.out.trans (hb2.mono hb.out.size))
        clear hb2
        go_wp2_with fail
        refine (inside_is _ p q r s false H1.out _ hq hq2 hs hs2).mono ?_
        rintro e w3 ⟨rfl, rfl⟩
        go_wp2_with fail
        refine (inside_is _ p q r s true H2.out _ hq hq2 hs hs2).mono ?_
        rintro e w3 ⟨rfl, rfl⟩
        go_wp2_with fail
        go_ret
        exact ⟨ret_bool HNO.out.symm, HB2.out⟩
      · have HNO : Hid (shareB xs p q r s = false) := Lib.hid (shareB_no (by rw [← HH.out]; exact hlt) (by rw [splitB, h1, h2]; rfl))
        have H1 := Lib.hid h1
        have H2 := Lib.hid h2
        clear h1 h2 hwt
        go_wp2_with fail
        refine Calls.mono (specPlaces_any _ _ _ xs _ _ (HR.out.below hb.out) (by omega)) ?_
        rintro e w2 ⟨rfl, hb2⟩
        rw [HF.out, HLA.out]
        have HB2 := Lib.hid (hb.out.trans (hb2.mono hb.out.size))
        clear hb2
        go_wp2_with fail
        refine (inside_is _ p q r s true H1.out _ hq hq2 hs hs2).mono ?_
        rintro e w3 ⟨rfl, rfl⟩
        go_wp2_with fail
        refine (inside_is _ p q r s false H2.out _ hq hq2 hs hs2).mono ?_
        rintro e w3 ⟨rfl, rfl⟩
        go_wp2_with fail
        go_ret
        exact ⟨ret_bool HNO.out.symm, HB2.out⟩
      · have HNX : Hid (wholeTo xs p q r s (k + 1) = true) := Lib.hid (by rw [wholeTo_succ, hwt.out, splitB, h1, h2]; rfl)
        have H1 := Lib.hid h1
        have H2 := Lib.hid h2
        clear h1 h2 hwt
        go_wp2_with fail
        refine Calls.mono (specPlaces_any _ _ _ xs _ _ (HR.out.below hb.out) (by omega)) ?_
        rintro e w2 ⟨rfl, hb2⟩
        rw [HF.out, HLA.out]
        have HB2 := Lib.hid (hb.out.trans (hb2.mono hb.out.size))
        clear hb2
        go_wp2_with fail
        refine (inside_is _ p q r s true H1.out _ hq hq2 hs hs2).mono ?_
        rintro e w3 ⟨rfl, rfl⟩
        go_wp2_with fail
        refine (inside_is _ p q r s true H2.out _ hq hq2 hs hs2).mono ?_
        rintro e w3 ⟨rfl, rfl⟩
        go_wp2_with fail
        go_roundw
        case rel => exact ⟨k + 1, by omega, by go_num, HNX, HB2⟩
        case measure => simp [intOf]; omega
    · obtain rfl : k = h := by omega
      have HY : Hid (shareB xs p q r s = true) := Lib.hid (by unfold shareB; rw [← HH.out]; exact hwt.out)
      go_wp2_with fail
      go_ret
      exact ⟨ret_bool HY.out.symm, hb.out⟩
theorem okArcs_in (n : Nat) (p q r s : Int) : okArcs n p q r s = (inB s 0 n && (inB r 0 s && (inB q 0 r && inB p 0 q))) := by
  unfold okArcs inB
  rw [Bool.eq_iff_iff]
  simp only [decide_eq_true_eq, Bool.and_eq_true]
  omega
theorem arcCode_eq (xs : List Int) (n : Nat) (hl : xs.length = n) (p q r s : Int) : arcCode xs p q r s = if isWord xs then (if okArcs n p q r s then 0 else 2) else 1 := by
  subst hl
  unfold arcCode okArcs
  simp only [decide_eq_true_eq]
set_option maxHeartbeats 3200000 in
theorem arcCode_any (A : Option Addr) (n c : Nat) (xs : List Int) (p q r s : Int) (w : World) (hr : Rd w A n xs) (hn : n ≤ 1048576) :
    Told 46 #[.slice A n c, .int .i64 p, .int .i64 q, .int .i64 r, .int .i64 s] w (.int .i64 (arcCode xs p q r s)) := by
  have HR := Lib.hid hr
  rw [arcCode_eq xs n hr.len]
  clear hr
  rcases hw : isWord xs with _ | _
  · refine told_mk (v' := .int .i64 1) (by simp) ?_
    have HW := Lib.hid hw
    clear hw
    go_enter Try.func46, Try.ntmps46
    go_wp2_with fail
    refine (specIs_any _ _ _ xs _ HR.out hn).mono ?_
    rintro e w1 ⟨rfl, hb1⟩
    rw [HW.out]
    go_wp2_with fail
    go_ret
    exact ⟨rfl, hb1⟩
  · have HW := Lib.hid hw
    clear hw
    rw [okArcs_in]
    rcases h1 : inB s 0 n with _ | _
    · have H1 := Lib.hid h1
      clear h1
      refine told_mk (v' := .int .i64 2) (by simp) ?_
      go_enter Try.func46, Try.ntmps46
      go_wp2_with fail
      refine (specIs_any _ _ _ xs _ HR.out hn).mono ?_
      rintro e w1 ⟨rfl, hb1⟩
      rw [HW.out]
      go_wp2_with fail
      refine (in_any _ _ _ _).mono ?_
      rintro e w2 ⟨rfl, rfl⟩
      rw [H1.out]
      go_wp2_with fail
      go_ret
      exact ⟨rfl, hb1⟩
    · have H1 := Lib.hid h1
      clear h1
      rcases h2 : inB r 0 s with _ | _
      · have H2 := Lib.hid h2
        clear h2
        refine told_mk (v' := .int .i64 2) (by simp) ?_
        go_enter Try.func46, Try.ntmps46
        go_wp2_with fail
        refine (specIs_any _ _ _ xs _ HR.out hn).mono ?_
        rintro e w1 ⟨rfl, hb1⟩
        rw [HW.out]
        go_wp2_with fail
        refine (in_any _ _ _ _).mono ?_
        rintro e w2 ⟨rfl, rfl⟩
        rw [H1.out]
        go_wp2_with fail
        refine (in_any _ _ _ _).mono ?_
        rintro e w2 ⟨rfl, rfl⟩
        rw [H2.out]
        go_wp2_with fail
        go_ret
        exact ⟨rfl, hb1⟩
      · have H2 := Lib.hid h2
        clear h2
        rcases h3 : inB q 0 r with _ | _
        · have H3 := Lib.hid h3
          clear h3
          refine told_mk (v' := .int .i64 2) (by simp) ?_
          go_enter Try.func46, Try.ntmps46
          go_wp2_with fail
          refine (specIs_any _ _ _ xs _ HR.out hn).mono ?_
          rintro e w1 ⟨rfl, hb1⟩
          rw [HW.out]
          go_wp2_with fail
          refine (in_any _ _ _ _).mono ?_
          rintro e w2 ⟨rfl, rfl⟩
          rw [H1.out]
          go_wp2_with fail
          refine (in_any _ _ _ _).mono ?_
          rintro e w2 ⟨rfl, rfl⟩
          rw [H2.out]
          go_wp2_with fail
          refine (in_any _ _ _ _).mono ?_
          rintro e w2 ⟨rfl, rfl⟩
          rw [H3.out]
          go_wp2_with fail
          go_ret
          exact ⟨rfl, hb1⟩
        · have H3 := Lib.hid h3
          clear h3
          rcases h4 : inB p 0 q with _ | _
          · have H4 := Lib.hid h4
            clear h4
            refine told_mk (v' := .int .i64 2) (by simp) ?_
            go_enter Try.func46, Try.ntmps46
            go_wp2_with fail
            refine (specIs_any _ _ _ xs _ HR.out hn).mono ?_
            rintro e w1 ⟨rfl, hb1⟩
            rw [HW.out]
            go_wp2_with fail
            refine (in_any _ _ _ _).mono ?_
            rintro e w2 ⟨rfl, rfl⟩
            rw [H1.out]
            go_wp2_with fail
            refine (in_any _ _ _ _).mono ?_
            rintro e w2 ⟨rfl, rfl⟩
            rw [H2.out]
            go_wp2_with fail
            refine (in_any _ _ _ _).mono ?_
            rintro e w2 ⟨rfl, rfl⟩
            rw [H3.out]
            go_wp2_with fail
            refine (in_any _ _ _ _).mono ?_
            rintro e w2 ⟨rfl, rfl⟩
            rw [H4.out]
            go_wp2_with fail
            go_ret
            exact ⟨rfl, hb1⟩
          · have H4 := Lib.hid h4
            clear h4
            refine told_mk (v' := .int .i64 0) (by simp) ?_
            go_enter Try.func46, Try.ntmps46
            go_wp2_with fail
            refine (specIs_any _ _ _ xs _ HR.out hn).mono ?_
            rintro e w1 ⟨rfl, hb1⟩
            rw [HW.out]
            go_wp2_with fail
            refine (in_any _ _ _ _).mono ?_
            rintro e w2 ⟨rfl, rfl⟩
            rw [H1.out]
            go_wp2_with fail
            refine (in_any _ _ _ _).mono ?_
            rintro e w2 ⟨rfl, rfl⟩
            rw [H2.out]
            go_wp2_with fail
            refine (in_any _ _ _ _).mono ?_
            rintro e w2 ⟨rfl, rfl⟩
            rw [H3.out]
            go_wp2_with fail
            refine (in_any _ _ _ _).mono ?_
            rintro e w2 ⟨rfl, rfl⟩
            rw [H4.out]
            go_wp2_with fail
            go_ret
            exact ⟨rfl, hb1⟩
set_option maxHeartbeats 1600000 in
theorem specIsShare_any (A : Option Addr) (n c : Nat) (xs : List Int) (p q r s : Int) (w : World) (hr : Rd w A n xs) (hwf : Wf xs) (hn : n ≤ 1048576) (hc : n ≤ c)
    (hp : -9223372036854775808 ≤ p ∧ p ≤ 9223372036854775807) (hq : -9223372036854775808 ≤ q ∧ q ≤ 9223372036854775807) (hrr : -9223372036854775808 ≤ r ∧ r ≤ 9223372036854775807) (hs : -9223372036854775808 ≤ s ∧ s ≤ 9223372036854775807) :
    Told 15 #[.slice A n c, .int .i64 p, .int .i64 q, .int .i64 r, .int .i64 s] w (.tuple #[.bool (isShare xs p q r s).1, .int .i64 (isShare xs p q r s).2]) := by
  have HR := Lib.hid hr
  have hl := hr.len
  clear hr
  rcases arcCode_cases xs p q r s with ⟨hw, e⟩ | ⟨hw, ho, e⟩ | ⟨hw, ho, e⟩
  · refine told_mk (v' := .tuple #[.bool false, .int .i64 1]) (by unfold isShare; rw [e, if_neg (by decide)]) ?_
    have HE := Lib.hid e
    clear e hw
    go_enter Try.func15, Try.ntmps15
    go_wp2_with fail
    refine Calls.mono (arcCode_any _ _ _ xs _ _ _ _ _ HR.out hn) ?_
    rintro e w1 ⟨rfl, hb1⟩
    rw [HE.out]
    go_wp2_with fail
    go_ret2
    exact ⟨rfl, hb1⟩
  · refine told_mk (v' := .tuple #[.bool false, .int .i64 2]) (by unfold isShare; rw [e, if_neg (by decide)]) ?_
    have HE := Lib.hid e
    clear e hw ho
    go_enter Try.func15, Try.ntmps15
    go_wp2_with fail
    refine Calls.mono (arcCode_any _ _ _ xs _ _ _ _ _ HR.out hn) ?_
    rintro e w1 ⟨rfl, hb1⟩
    rw [HE.out]
    go_wp2_with fail
    go_ret2
    exact ⟨rfl, hb1⟩
  · refine told_mk (v' := .tuple #[.bool (shareB xs p q r s), .int .i64 0]) (by unfold isShare; rw [e, if_pos rfl]) ?_
    have HE := Lib.hid e
    have HW := Lib.hid hw
    have hn12 : n ≤ 12 := by have := isWord_len hw; omega
    have hq0 : 0 ≤ q := by omega
    have hq2 : q ≤ 1000 := by omega
    have hs0 : 0 ≤ s := by omega
    have hs2 : s ≤ 1000 := by omega
    clear e hw ho hl
    go_enter Try.func15, Try.ntmps15
    go_wp2_with fail
    refine Calls.mono (arcCode_any _ _ _ xs _ _ _ _ _ HR.out hn) ?_
    rintro e w1 ⟨rfl, hb1⟩
    rw [HE.out]
    go_wp2_with fail
    refine (specShare_any _ _ _ xs _ _ _ _ _ (HR.out.below hb1) HW.out hq0 hq2 hs0 hs2).mono ?_
    rintro e w2 ⟨rfl, hb2⟩
    go_wp2_with fail
    go_ret2
    exact ⟨rfl, hb1.trans (hb2.mono hb1.size)⟩
set_option maxHeartbeats 1600000 in
theorem implIsShare_any (A : Option Addr) (n c : Nat) (xs : List Int) (p q r s : Int) (w : World) (hr : Rd w A n xs) (hwf : Wf xs) (hn : n ≤ 1048576) (hc : n ≤ c)
    (hp : -9223372036854775808 ≤ p ∧ p ≤ 9223372036854775807) (hq : -9223372036854775808 ≤ q ∧ q ≤ 9223372036854775807) (hrr : -9223372036854775808 ≤ r ∧ r ≤ 9223372036854775807) (hs : -9223372036854775808 ≤ s ∧ s ≤ 9223372036854775807) :
    Told 17 #[.slice A n c, .int .i64 p, .int .i64 q, .int .i64 r, .int .i64 s] w (.tuple #[.bool (isShare xs p q r s).1, .int .i64 (isShare xs p q r s).2]) := by
  have HR := Lib.hid hr
  have HWF := Lib.hid hwf
  have HEQ := Lib.hid (arcCode_eq xs n hr.len p q r s)
  clear hr hwf
  rcases hw : isWord xs with _ | _
  · refine told_mk (v' := .tuple #[.bool false, .int .i64 1]) (by unfold isShare; rw [HEQ.out, hw]; rfl) ?_
    have HW := Lib.hid hw
    clear hw
    go_enter Try.func17, Try.ntmps17
    go_wp2_with fail
    refine (implIs_any _ _ _ xs _ HR.out HWF.out hn).mono ?_
    rintro e w1 ⟨rfl, hb1⟩
    rw [HW.out]
    go_wp2_with fail
    go_ret2
    exact ⟨rfl, hb1⟩
  · have HW := Lib.hid hw
    rcases ho : okArcs n p q r s with _ | _
    · refine told_mk (v' := .tuple #[.bool false, .int .i64 2]) (by unfold isShare; rw [HEQ.out, hw, ho]; rfl) ?_
      have HO := Lib.hid ho
      clear hw ho
      go_enter Try.func17, Try.ntmps17
      go_wp2_with fail
      refine (implIs_any _ _ _ xs _ HR.out HWF.out hn).mono ?_
      rintro e w1 ⟨rfl, hb1⟩
      rw [HW.out]
      go_wp2_with fail
      refine (areOf_any _ _ _ p q r s _ hn).mono ?_
      rintro e w2 ⟨rfl, hb2⟩
      rw [HO.out]
      go_wp2_with fail
      go_ret2
      exact ⟨rfl, hb1.trans (((below_alloc _ _).trans (hb2.mono (by simp))).mono hb1.size)⟩
    · refine told_mk (v' := .tuple #[.bool (shareB xs p q r s), .int .i64 0]) (by unfold isShare; rw [HEQ.out, hw, ho]; rfl) ?_
      have HO := Lib.hid ho
      clear hw ho
      go_enter Try.func17, Try.ntmps17
      go_wp2_with fail
      refine (implIs_any _ _ _ xs _ HR.out HWF.out hn).mono ?_
      rintro e w1 ⟨rfl, hb1⟩
      rw [HW.out]
      obtain ⟨W, hW⟩ : ∃ W, W = w1.alloc (.cells #[.int .i64 p, .int .i64 q, .int .i64 r, .int .i64 s] 48) := ⟨_, rfl⟩
      have hbW : Below w1.heap.size w1 W := by rw [hW]; exact below_alloc _ _
      have k0 : W.cell? ⟨w1.heap.size, 0, none⟩ = some (.int .i64 p) := by rw [hW, World.cell?_alloc_at _ _ _ _ rfl]; rfl
      have k1 : W.cell? ⟨w1.heap.size, 1, none⟩ = some (.int .i64 q) := by rw [hW, World.cell?_alloc_at _ _ _ _ rfl]; rfl
      have k2 : W.cell? ⟨w1.heap.size, 2, none⟩ = some (.int .i64 r) := by rw [hW, World.cell?_alloc_at _ _ _ _ rfl]; rfl
      have k3 : W.cell? ⟨w1.heap.size, 3, none⟩ = some (.int .i64 s) := by rw [hW, World.cell?_alloc_at _ _ _ _ rfl]; rfl
      have hsW : w1.heap.size < W.heap.size := by rw [hW]; simp
      have HSW := Lib.hid hsW
      have HWE := Lib.hid hW
      have HBW := Lib.hid (hb1.trans (hbW.mono hb1.size))
      clear hW hbW hsW
      go_wp2_with fail
      rw [← HWE.out]
      refine (areOf_any _ _ _ p q r s _ hn).mono ?_
      rintro e w2 ⟨rfl, hb2⟩
      rw [HO.out]
      have l0 := (hb2.cell (p := ⟨w1.heap.size, 0, none⟩) HSW.out).trans k0
      have l1 := (hb2.cell (p := ⟨w1.heap.size, 1, none⟩) HSW.out).trans k1
      have l2 := (hb2.cell (p := ⟨w1.heap.size, 2, none⟩) HSW.out).trans k2
      have l3 := (hb2.cell (p := ⟨w1.heap.size, 3, none⟩) HSW.out).trans k3
      have HB2 := Lib.hid (HBW.out.trans (hb2.mono HBW.out.size))
      clear hb2 hb1 k0 k1 k2 k3
      go_wp2_with fail
      refine (isShareOf_any _ _ _ xs p q r s _ (HR.out.below HB2.out) hc HW.out).mono ?_
      rintro e w3 ⟨rfl, hb3⟩
      go_wp2_with fail
      go_ret2
      exact ⟨rfl, HB2.out.trans (hb3.mono HB2.out.size)⟩
end Go.Proofs.Ytamadlbiobcjdaa
