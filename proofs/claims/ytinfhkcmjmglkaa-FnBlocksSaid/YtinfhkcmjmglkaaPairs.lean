/- The contracts of the program's countPairs and of the model's l02Pairs. -/
/- CountNested: the contracts of the model's and of the program's function. -/
/- CountApart: the contracts of the model's and of the program's function. -/
import Derived.Test.YtinfhkcmjmglkaaWrap
import Derived.Test.YtinfhkcmjmglkaaDegrees
import Derived.Test.YtinfhkcmjmglkaaPure4
namespace Go.Proofs.Ytinfhkcmjmglkaa
open Go.RowKit
set_option linter.unusedVariables false
set_option linter.unusedSimpArgs false
set_option maxRecDepth 100000

theorem areNested_any (a b c d : Int) (w : World) : Told 88 #[.agg #[.int .i64 a, .int .i64 b], .agg #[.int .i64 c, .int .i64 d]] w (.bool (decide (d < b))) := by
  unfold Told
  go_enter Try.func88, Try.ntmps88
  go_wp2
  go_ret
  exact ⟨rfl, ((Below.refl _ _).alloc (Nat.le_refl _) _).alloc (by simp) _⟩
theorem areApart_any (a b c d : Int) (w : World) : Told 89 #[.agg #[.int .i64 a, .int .i64 b], .agg #[.int .i64 c, .int .i64 d]] w (.bool (decide (b < c))) := by
  unfold Told
  go_enter Try.func89, Try.ntmps89
  go_wp2
  go_ret
  exact ⟨rfl, ((Below.refl _ _).alloc (Nat.le_refl _) _).alloc (by simp) _⟩
theorem nat_lt_dec (a b : Nat) : decide ((a : Int) < (b : Int)) = decide (a < b) := by rw [decide_eq_decide]; omega

set_option maxHeartbeats 1600000 in
theorem countNested_any (A : Option Addr) (n c : Nat) (xs : List Int) (w : World) (hr : Rd w A n xs) (hc : n ≤ c) (hw : isWord xs = true) :
    Told 87 #[.slice A n c, .func (.func 88) #[] #[]] w (.int .i64 (nestedCount xs)) := by
  have hl := hr.len
  have hn : n ≤ 12 := by have := isWord_len hw; omega
  obtain ⟨m, hm⟩ : ∃ m, m = xs.length / 2 := ⟨_, rfl⟩
  have hq : (n : Int) / 2 = (m : Int) := by omega
  have hm6 : m ≤ 6 := by omega
  have HR := Lib.hid hr
  have HM := Lib.hid hm
  have HQ := Lib.hid hq
  have HW := Lib.hid hw
  have HE : Hid (nestedCount xs = triTo (nestB xs) m) := Lib.hid (by unfold nestedCount; rw [hm])
  clear hr hl hm hq hw
  unfold Told
  rw [HE.out]
  go_enter Try.func87, Try.ntmps87
  go_wp2_with fail
  refine (chordsOf_any _ _ _ _ (by omega)).mono ?_
  rintro e w0 ⟨rfl, rfl⟩
  rw [HQ.out]
  go_wp2_with fail
  go_loopw [5, 10] (fun t i wr => ∃ k : Nat, k ≤ m ∧ i = .int .i64 k ∧ t = .int .i64 (triTo (nestB xs) k) ∧ Below w.heap.size w wr) (fun _ i _ => m - (intOf i).toNat)
  case atStart => exact ⟨0, by omega, rfl, rfl, Below.refl _ _⟩
  case round =>
    obtain ⟨k, hk, rfl, rfl, hb⟩ := hrel
    have htb := triTo_bd (nestB xs) k (by omega)
    by_cases hlt : k < m
    · have HCK := Lib.hid (word_count HW.out (i := k) (by rw [← HM.out]; exact hlt))
      go_wp2_with fail
      go_loopw [5, 14] (fun t j wr => ∃ q : Nat, q ≤ k ∧ j = .int .i64 q ∧ t = .int .i64 (triTo (nestB xs) k + cntTo (nestB xs) k q) ∧ Below w.heap.size w wr) (fun _ j _ => k - (intOf j).toNat)
      case atStart => exact ⟨0, by omega, rfl, by simp [cntTo], hb⟩
      case round =>
        obtain ⟨q, hq, rfl, rfl, hb⟩ := hrel
        have hcb := cntTo_bd (nestB xs) k q
        by_cases hlt' : q < k
        · have HCQ := Lib.hid (word_count HW.out (i := q) (by rw [← HM.out]; omega))
          go_wp2_with fail
          refine (placesOfChord_any _ _ _ xs q _ (HR.out.below hb) (by omega) hc HCQ.out).mono ?_
          rintro e w2 ⟨rfl, hb2⟩
          go_wp2_with fail
          refine (placesOfChord_any _ _ _ xs k _ ((HR.out.below hb).below hb2) (by omega) hc HCK.out).mono ?_
          rintro e w3 ⟨rfl, hb3⟩
          go_wp2_with fail
          refine (areNested_any _ _ _ _ _).mono ?_
          rintro e w4 ⟨rfl, hb4⟩
          have hb4' : Below w.heap.size w w4 := ((hb.trans (hb2.mono hb.size)).trans (hb3.mono (Nat.le_trans hb.size hb2.size))).trans (hb4.mono (Nat.le_trans (Nat.le_trans hb.size hb2.size) hb3.size))
          clear hb hb2 hb3 hb4
          rw [nat_lt_dec]
          rcases hX : nestB xs q k with _ | _
          · have HX : Hid (decide (place2 xs k < place2 xs q) = false) := Lib.hid hX
            have HS : Hid (cntTo (nestB xs) k (q + 1) = cntTo (nestB xs) k q) := Lib.hid (by rw [cntTo, hX]; simp [one0])
            clear hX
            rw [HX.out]
            go_wp2_with fail
            go_roundw
            case rel => exact ⟨q + 1, by omega, by go_num, by rw [HS.out], hb4'⟩
            case measure => simp [intOf]; omega
          · have HX : Hid (decide (place2 xs k < place2 xs q) = true) := Lib.hid hX
            have HS : Hid (cntTo (nestB xs) k (q + 1) = cntTo (nestB xs) k q + 1) := Lib.hid (by rw [cntTo, hX]; simp [one0])
            clear hX
            rw [HX.out]
            go_wp2_with fail
            go_roundw
            case rel => exact ⟨q + 1, by omega, by go_num, by rw [HS.out]; congr 1; omega, hb4'⟩
            case measure => simp [intOf]; omega
        · obtain rfl : q = k := by omega
          go_wp2_with fail
          go_roundw
          case rel => exact ⟨q + 1, by omega, by go_num, rfl, hb⟩
          case measure => simp [intOf]; omega
    · obtain rfl : k = m := by omega
      go_wp2_with fail
      go_ret
      exact ⟨rfl, hb⟩

set_option maxHeartbeats 1600000 in
theorem countApart_any (A : Option Addr) (n c : Nat) (xs : List Int) (w : World) (hr : Rd w A n xs) (hc : n ≤ c) (hw : isWord xs = true) :
    Told 87 #[.slice A n c, .func (.func 89) #[] #[]] w (.int .i64 (apartCount xs)) := by
  have hl := hr.len
  have hn : n ≤ 12 := by have := isWord_len hw; omega
  obtain ⟨m, hm⟩ : ∃ m, m = xs.length / 2 := ⟨_, rfl⟩
  have hq : (n : Int) / 2 = (m : Int) := by omega
  have hm6 : m ≤ 6 := by omega
  have HR := Lib.hid hr
  have HM := Lib.hid hm
  have HQ := Lib.hid hq
  have HW := Lib.hid hw
  have HE : Hid (apartCount xs = triTo (apartB xs) m) := Lib.hid (by unfold apartCount; rw [hm])
  clear hr hl hm hq hw
  unfold Told
  rw [HE.out]
  go_enter Try.func87, Try.ntmps87
  go_wp2_with fail
  refine (chordsOf_any _ _ _ _ (by omega)).mono ?_
  rintro e w0 ⟨rfl, rfl⟩
  rw [HQ.out]
  go_wp2_with fail
  go_loopw [5, 10] (fun t i wr => ∃ k : Nat, k ≤ m ∧ i = .int .i64 k ∧ t = .int .i64 (triTo (apartB xs) k) ∧ Below w.heap.size w wr) (fun _ i _ => m - (intOf i).toNat)
  case atStart => exact ⟨0, by omega, rfl, rfl, Below.refl _ _⟩
  case round =>
    obtain ⟨k, hk, rfl, rfl, hb⟩ := hrel
    have htb := triTo_bd (apartB xs) k (by omega)
    by_cases hlt : k < m
    · have HCK := Lib.hid (word_count HW.out (i := k) (by rw [← HM.out]; exact hlt))
      go_wp2_with fail
      go_loopw [5, 14] (fun t j wr => ∃ q : Nat, q ≤ k ∧ j = .int .i64 q ∧ t = .int .i64 (triTo (apartB xs) k + cntTo (apartB xs) k q) ∧ Below w.heap.size w wr) (fun _ j _ => k - (intOf j).toNat)
      case atStart => exact ⟨0, by omega, rfl, by simp [cntTo], hb⟩
      case round =>
        obtain ⟨q, hq, rfl, rfl, hb⟩ := hrel
        have hcb := cntTo_bd (apartB xs) k q
        by_cases hlt' : q < k
        · have HCQ := Lib.hid (word_count HW.out (i := q) (by rw [← HM.out]; omega))
          go_wp2_with fail
          refine (placesOfChord_any _ _ _ xs q _ (HR.out.below hb) (by omega) hc HCQ.out).mono ?_
          rintro e w2 ⟨rfl, hb2⟩
          go_wp2_with fail
          refine (placesOfChord_any _ _ _ xs k _ ((HR.out.below hb).below hb2) (by omega) hc HCK.out).mono ?_
          rintro e w3 ⟨rfl, hb3⟩
          go_wp2_with fail
          refine (areApart_any _ _ _ _ _).mono ?_
          rintro e w4 ⟨rfl, hb4⟩
          have hb4' : Below w.heap.size w w4 := ((hb.trans (hb2.mono hb.size)).trans (hb3.mono (Nat.le_trans hb.size hb2.size))).trans (hb4.mono (Nat.le_trans (Nat.le_trans hb.size hb2.size) hb3.size))
          clear hb hb2 hb3 hb4
          rw [nat_lt_dec]
          rcases hX : apartB xs q k with _ | _
          · have HX : Hid (decide (place2 xs q < place1 xs k) = false) := Lib.hid hX
            have HS : Hid (cntTo (apartB xs) k (q + 1) = cntTo (apartB xs) k q) := Lib.hid (by rw [cntTo, hX]; simp [one0])
            clear hX
            rw [HX.out]
            go_wp2_with fail
            go_roundw
            case rel => exact ⟨q + 1, by omega, by go_num, by rw [HS.out], hb4'⟩
            case measure => simp [intOf]; omega
          · have HX : Hid (decide (place2 xs q < place1 xs k) = true) := Lib.hid hX
            have HS : Hid (cntTo (apartB xs) k (q + 1) = cntTo (apartB xs) k q + 1) := Lib.hid (by rw [cntTo, hX]; simp [one0])
            clear hX
            rw [HX.out]
            go_wp2_with fail
            go_roundw
            case rel => exact ⟨q + 1, by omega, by go_num, by rw [HS.out]; congr 1; omega, hb4'⟩
            case measure => simp [intOf]; omega
        · obtain rfl : q = k := by omega
          go_wp2_with fail
          go_roundw
          case rel => exact ⟨q + 1, by omega, by go_num, rfl, hb⟩
          case measure => simp [intOf]; omega
    · obtain rfl : k = m := by omega
      go_wp2_with fail
      go_ret
      exact ⟨rfl, hb⟩


theorem rowOf_is (xs : List Int) (m i k : Nat) (hm : m = xs.length / 2) (hk : k < m) : (rowOf xs i)[k]?.getD 0 = one0 (crossAt xs i k) := by rw [rowOf_get xs i k (by omega)]; rfl
set_option maxHeartbeats 3200000 in
theorem specPairs_any (A : Option Addr) (n c : Nat) (xs : List Int) (w : World) (hr : Rd w A n xs) (hw : isWord xs = true) :
    Told 86 #[.slice A n c] w (.tuple #[.int .i64 (nestedCount xs), .int .i64 (apartCount xs)]) := by
  have hl := hr.len
  have hn : n ≤ 12 := by have := isWord_len hw; omega
  obtain ⟨m, hm⟩ : ∃ m, m = xs.length / 2 := ⟨_, rfl⟩
  have hm6 : m ≤ 6 := by omega
  have HR := Lib.hid hr
  have HL := Lib.hid hl
  have HM := Lib.hid hm
  have HW := Lib.hid hw
  have HR0 : Hid ((rowsOf xs).length = m) := Lib.hid (by rw [rowsOf_length, hm])
  have HE : Hid (nestedCount xs = corTo (nestB xs) m m ∧ apartCount xs = corTo (apartB xs) m m) := Lib.hid (by unfold nestedCount apartCount; rw [← hm, cor_tri, cor_tri]; exact ⟨rfl, rfl⟩)
  clear hr hl hm hw
  unfold Told
  rw [HE.out.1, HE.out.2]
  go_enter Try.func86, Try.ntmps86
  go_wp2_with fail
  refine (specCross_any _ _ _ xs _ HR.out HW.out).mono ?_
  rintro e w1 ⟨v1, rfl, ho1, hb1⟩
  obtain ⟨A2, c2, vs, rfl, ho1'⟩ := ho1.slice HR0.out
  have HO := Lib.hid ho1'
  clear ho1 ho1'
  go_wp2_with fail
  go_loopw [4, 5, 7] (fun s t i wr => ∃ k : Nat, k ≤ m ∧ i = .int .i64 k ∧ s = .int .i64 (corTo (nestB xs) m k) ∧ t = .int .i64 (corTo (apartB xs) m k) ∧ Hid (OwnV wr w.heap.size (.slice A2 m c2) vs (rowsOf xs)) ∧ Below w.heap.size w wr) (fun _ _ i _ => m - (intOf i).toNat)
  case atStart => exact ⟨0, by omega, rfl, rfl, rfl, HO, hb1⟩
  case round =>
    obtain ⟨k, hk, rfl, rfl, rfl, ho, hb⟩ := hrel
    clear HO hb1
    have hc1 := corTo_bd (nestB xs) m k (by omega)
    have hc2 := corTo_bd (apartB xs) m k (by omega)
    by_cases hlt : k < m
    · have HP := Lib.hid (word_places HW.out (i := k) (by rw [← HM.out]; exact hlt))
      rw [HL.out] at HP
      go_wp2_with fail
      go_loopw [4, 5, 8] (fun s t j wr => ∃ q : Nat, k + 1 ≤ q ∧ q ≤ m ∧ j = .int .i64 q ∧ s = .int .i64 (corTo (nestB xs) m k + upcTo (nestB xs) k q) ∧ t = .int .i64 (corTo (apartB xs) m k + upcTo (apartB xs) k q) ∧ Hid (OwnV wr w.heap.size (.slice A2 m c2) vs (rowsOf xs)) ∧ Below w.heap.size w wr) (fun _ _ j _ => m - (intOf j).toNat)
      case atStart => exact ⟨k + 1, by omega, by omega, by go_num, by rw [upcTo_low _ _ _ (Nat.le_refl _)]; simp, by rw [upcTo_low _ _ _ (Nat.le_refl _)]; simp, ho, hb⟩
      case round =>
        obtain ⟨q, hq1, hq, rfl, rfl, rfl, ho, hb⟩ := hrel
        have hu1 := upcTo_bd (nestB xs) k q
        have hu2 := upcTo_bd (apartB xs) k q
        by_cases hlt' : q < m
        · have HP2 := Lib.hid (word_places HW.out (i := q) (by rw [← HM.out]; exact hlt'))
          rw [HL.out] at HP2
          have hkinds := pair_kinds HW.out (i := k) (k := q) (by omega) (by rw [← HM.out]; exact hlt')
          have hrow := rowOf_is xs m k q HM.out hlt'
          have hs1 : upcTo (nestB xs) k (q + 1) = upcTo (nestB xs) k q + one0 (nestB xs k q) := by rw [upcTo, if_pos (by omega)]
          have hs2 : upcTo (apartB xs) k (q + 1) = upcTo (apartB xs) k q + one0 (apartB xs k q) := by rw [upcTo, if_pos (by omega)]
          go_wp2_with fail
          refine (specPlaces_any _ _ _ xs k _ (HR.out.below hb) (by omega)).mono ?_
          rintro e w2 ⟨rfl, hb2⟩
          rw [HL.out, HP.out.1, HP.out.2]
          go_wp2_with fail
          refine (specPlaces_any _ _ _ xs q _ ((HR.out.below hb).below hb2) (by omega)).mono ?_
          rintro e w3 ⟨rfl, hb3⟩
          rw [HL.out, HP2.out.1, HP2.out.2]
          have hb3' : Below w.heap.size w w3 := (hb.trans (hb2.mono hb.size)).trans (hb3.mono (Nat.le_trans hb.size hb2.size))
          have HO3 := Lib.hid ((ho.out.below hb2).below hb3)
          obtain ⟨g, B, d, rfl, hc1, hr1, hd, hg⟩ := cross_at HO3.out HM.out k hlt
          obtain ⟨b, rfl, hbl, hc2⟩ := hr1.at_ (k := q) hlt'
          clear ho hb hb2 hb3 hr1
          rcases hkinds with ⟨k1, k2, k3⟩ | ⟨k1, k2, k3, k4⟩ | ⟨k1, k2, k3, k4⟩
          · rw [k1] at hrow
            rw [k2] at hs1
            rw [k3] at hs2
            have HS1 := Lib.hid hs1
            have HS2 := Lib.hid hs2
            have e1 : ((rowOf xs k)[q]?.getD 0 == 1) = true := by rw [hrow]; rfl
            clear hs1 hs2 hrow k1 k2 k3
            go_wp2_with fail
            go_roundw
            case rel => exact ⟨q + 1, by omega, by omega, by go_num, by rw [HS1.out]; simp [one0], by rw [HS2.out]; simp [one0], HO3, hb3'⟩
            case measure => simp [intOf]; omega
          · rw [k1] at hrow
            rw [k3] at hs1
            rw [k4] at hs2
            have HS1 := Lib.hid hs1
            have HS2 := Lib.hid hs2
            have e1 : ((rowOf xs k)[q]?.getD 0 == 1) = false := by rw [hrow]; rfl
            clear hs1 hs2 hrow k1 k3 k4
            go_wp2_with fail
            go_roundw
            case rel => exact ⟨q + 1, by omega, by omega, by go_num, by rw [HS1.out]; simp [one0]; omega, by rw [HS2.out]; simp [one0], HO3, hb3'⟩
            case measure => simp [intOf]; omega
          · rw [k1] at hrow
            rw [k3] at hs1
            rw [k4] at hs2
            have HS1 := Lib.hid hs1
            have HS2 := Lib.hid hs2
            have e1 : ((rowOf xs k)[q]?.getD 0 == 1) = false := by rw [hrow]; rfl
            clear hs1 hs2 hrow k1 k3 k4
            go_wp2_with fail
            go_roundw
            case rel => exact ⟨q + 1, by omega, by omega, by go_num, by rw [HS1.out]; simp [one0], by rw [HS2.out]; simp [one0]; omega, HO3, hb3'⟩
            case measure => simp [intOf]; omega
        · obtain rfl : q = m := by omega
          go_wp2_with fail
          go_roundw
          case rel => exact ⟨k + 1, by omega, by go_num, rfl, rfl, ho, hb⟩
          case measure => simp [intOf]; omega
    · obtain rfl : k = m := by omega
      go_wp2_with fail
      go_ret2
      exact ⟨rfl, hb⟩
end Go.Proofs.Ytinfhkcmjmglkaa

namespace Go.Proofs.Ytinfhkcmjmglkaa
open Go.RowKit
set_option linter.unusedVariables false
set_option linter.unusedSimpArgs false
set_option maxRecDepth 100000

set_option maxHeartbeats 800000 in
theorem specCountNested_any (A : Option Addr) (n c : Nat) (xs : List Int) (w : World) (hr : Rd w A n xs) (hwf : Wf xs) (hn : n ≤ 1048576) (hc : n ≤ c) :
    Told 23 #[.slice A n c] w (.tuple #[.int .i64 (wordVal nestedCount xs).1, .int .i64 (wordVal nestedCount xs).2]) := by
  have HR := Lib.hid hr
  have HWF := Lib.hid hwf
  have HL := Lib.hid hr.len
  clear hr hwf
  rcases hw : isWord xs with _ | _
  · refine told_mk (v' := .tuple #[.int .i64 0, .int .i64 1]) (by rw [wordVal_no hw]) ?_
    have HW := Lib.hid hw
    clear hw
    go_enter Try.func23, Try.ntmps23
    go_wp2_with fail
    refine (code2_no _ _ _ xs _ HR.out hn HW.out).mono ?_
    rintro e w1 ⟨rfl, hb1⟩
    go_wp2_with fail
    go_ret2
    exact ⟨rfl, hb1⟩
  · refine told_mk (v' := .tuple #[.int .i64 (nestedCount xs), .int .i64 0]) (by rw [wordVal_yes hw]) ?_
    have HW := Lib.hid hw
    clear hw
    go_enter Try.func23, Try.ntmps23
    go_wp2_with fail
    refine (code2_yes _ _ _ xs _ HR.out hn HW.out).mono ?_
    rintro e w1 ⟨rfl, hb1⟩
    go_wp2_with fail
    refine (specPairs_any _ _ _ xs _ (HR.out.below hb1) HW.out).mono ?_
    rintro e w2 ⟨rfl, hb2⟩
    go_wp2_with fail
    go_ret2
    exact ⟨rfl, hb1.trans (hb2.mono hb1.size)⟩
set_option maxHeartbeats 800000 in
theorem implCountNested_any (A : Option Addr) (n c : Nat) (xs : List Int) (w : World) (hr : Rd w A n xs) (hwf : Wf xs) (hn : n ≤ 1048576) (hc : n ≤ c) :
    Told 24 #[.slice A n c] w (.tuple #[.int .i64 (wordVal nestedCount xs).1, .int .i64 (wordVal nestedCount xs).2]) := by
  have HR := Lib.hid hr
  have HWF := Lib.hid hwf
  have HL := Lib.hid hr.len
  clear hr hwf
  rcases hw : isWord xs with _ | _
  · refine told_mk (v' := .tuple #[.int .i64 0, .int .i64 1]) (by rw [wordVal_no hw]) ?_
    have HW := Lib.hid hw
    clear hw
    go_enter Try.func24, Try.ntmps24
    go_wp2_with fail
    refine (implIs_any _ _ _ xs _ HR.out HWF.out hn).mono ?_
    rintro e w1 ⟨rfl, hb1⟩
    rw [HW.out]
    go_wp2_with fail
    go_ret2
    exact ⟨rfl, hb1⟩
  · refine told_mk (v' := .tuple #[.int .i64 (nestedCount xs), .int .i64 0]) (by rw [wordVal_yes hw]) ?_
    have HW := Lib.hid hw
    clear hw
    go_enter Try.func24, Try.ntmps24
    go_wp2_with fail
    refine (implIs_any _ _ _ xs _ HR.out HWF.out hn).mono ?_
    rintro e w1 ⟨rfl, hb1⟩
    rw [HW.out]
    go_wp2_with fail
    refine (countNested_any _ _ _ xs _ (HR.out.below hb1) hc HW.out).mono ?_
    rintro e w2 ⟨rfl, hb2⟩
    go_wp2_with fail
    go_ret2
    exact ⟨rfl, hb1.trans (hb2.mono hb1.size)⟩
end Go.Proofs.Ytinfhkcmjmglkaa

namespace Go.Proofs.Ytinfhkcmjmglkaa
open Go.RowKit
set_option linter.unusedVariables false
set_option linter.unusedSimpArgs false
set_option maxRecDepth 100000

set_option maxHeartbeats 800000 in
theorem specCountApart_any (A : Option Addr) (n c : Nat) (xs : List Int) (w : World) (hr : Rd w A n xs) (hwf : Wf xs) (hn : n ≤ 1048576) (hc : n ≤ c) :
    Told 25 #[.slice A n c] w (.tuple #[.int .i64 (wordVal apartCount xs).1, .int .i64 (wordVal apartCount xs).2]) := by
  have HR := Lib.hid hr
  have HWF := Lib.hid hwf
  have HL := Lib.hid hr.len
  clear hr hwf
  rcases hw : isWord xs with _ | _
  · refine told_mk (v' := .tuple #[.int .i64 0, .int .i64 1]) (by rw [wordVal_no hw]) ?_
    have HW := Lib.hid hw
    clear hw
    go_enter Try.func25, Try.ntmps25
    go_wp2_with fail
    refine (code2_no _ _ _ xs _ HR.out hn HW.out).mono ?_
    rintro e w1 ⟨rfl, hb1⟩
    go_wp2_with fail
    go_ret2
    exact ⟨rfl, hb1⟩
  · refine told_mk (v' := .tuple #[.int .i64 (apartCount xs), .int .i64 0]) (by rw [wordVal_yes hw]) ?_
    have HW := Lib.hid hw
    clear hw
    go_enter Try.func25, Try.ntmps25
    go_wp2_with fail
    refine (code2_yes _ _ _ xs _ HR.out hn HW.out).mono ?_
    rintro e w1 ⟨rfl, hb1⟩
    go_wp2_with fail
    refine (specPairs_any _ _ _ xs _ (HR.out.below hb1) HW.out).mono ?_
    rintro e w2 ⟨rfl, hb2⟩
    go_wp2_with fail
    go_ret2
    exact ⟨rfl, hb1.trans (hb2.mono hb1.size)⟩
set_option maxHeartbeats 800000 in
theorem implCountApart_any (A : Option Addr) (n c : Nat) (xs : List Int) (w : World) (hr : Rd w A n xs) (hwf : Wf xs) (hn : n ≤ 1048576) (hc : n ≤ c) :
    Told 26 #[.slice A n c] w (.tuple #[.int .i64 (wordVal apartCount xs).1, .int .i64 (wordVal apartCount xs).2]) := by
  have HR := Lib.hid hr
  have HWF := Lib.hid hwf
  have HL := Lib.hid hr.len
  clear hr hwf
  rcases hw : isWord xs with _ | _
  · refine told_mk (v' := .tuple #[.int .i64 0, .int .i64 1]) (by rw [wordVal_no hw]) ?_
    have HW := Lib.hid hw
    clear hw
    go_enter Try.func26, Try.ntmps26
    go_wp2_with fail
    refine (implIs_any _ _ _ xs _ HR.out HWF.out hn).mono ?_
    rintro e w1 ⟨rfl, hb1⟩
    rw [HW.out]
    go_wp2_with fail
    go_ret2
    exact ⟨rfl, hb1⟩
  · refine told_mk (v' := .tuple #[.int .i64 (apartCount xs), .int .i64 0]) (by rw [wordVal_yes hw]) ?_
    have HW := Lib.hid hw
    clear hw
    go_enter Try.func26, Try.ntmps26
    go_wp2_with fail
    refine (implIs_any _ _ _ xs _ HR.out HWF.out hn).mono ?_
    rintro e w1 ⟨rfl, hb1⟩
    rw [HW.out]
    go_wp2_with fail
    refine (countApart_any _ _ _ xs _ (HR.out.below hb1) hc HW.out).mono ?_
    rintro e w2 ⟨rfl, hb2⟩
    go_wp2_with fail
    go_ret2
    exact ⟨rfl, hb1.trans (hb2.mono hb1.size)⟩
end Go.Proofs.Ytinfhkcmjmglkaa
