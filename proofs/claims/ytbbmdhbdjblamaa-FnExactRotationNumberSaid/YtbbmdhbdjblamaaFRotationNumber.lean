/- RotationNumber: the contracts of the model's and of the program's function. -/
import Derived.Test.YtbbmdhbdjblamaaRotNum
namespace Go.Proofs.Ytbbmdhbdjblamaa
open Go.RowKit
set_option linter.unusedVariables false
set_option linter.unusedSimpArgs false
set_option maxRecDepth 100000

set_option maxHeartbeats 3200000 in
theorem specRotationNumber_any (A : Option Addr) (n c : Nat) (xs : List Int) (w : World) (hr : Rd w A n xs) (hwf : Wf xs) (hn : n ≤ 1048576) (hc : n ≤ c) :
    Told 31 #[.slice A n c] w (.tuple #[.int .i64 (wordVal rotNumber xs).1, .int .i64 (wordVal rotNumber xs).2]) := by
  have HR := Lib.hid hr
  have HWF := Lib.hid hwf
  have HL := Lib.hid hr.len
  clear hr hwf
  rcases hw : isWord xs with _ | _
  · refine told_mk (v' := .tuple #[.int .i64 0, .int .i64 1]) (by rw [wordVal_no hw]) ?_
    have HW := Lib.hid hw
    clear hw
    go_enter Try.func31, Try.ntmps31
    go_wp2_with fail
    refine (specIs_any _ _ _ xs _ HR.out hn).mono ?_
    rintro e w1 ⟨rfl, hb1⟩
    rw [HW.out]
    go_wp2_with fail
    go_ret2
    exact ⟨rfl, hb1⟩
  · refine told_mk (v' := .tuple #[.int .i64 (rotNumber xs), .int .i64 0]) (by rw [wordVal_yes hw]) ?_
    have HW := Lib.hid hw
    clear hw
    go_enter Try.func31, Try.ntmps31
    go_wp2_with fail
    refine (specIs_any _ _ _ xs _ HR.out hn).mono ?_
    rintro e w1 ⟨rfl, hb1⟩
    rw [HW.out]
    have h12 : n ≤ 12 := by have := isWord_len HW.out; have := HL.out; omega
    go_wp2_with fail
    go_loopw [4] (fun i wr => ∃ k : Nat, 1 ≤ k ∧ (k = 1 ∨ k ≤ n) ∧ i = .int .i64 k ∧ Hid (∀ j, 1 ≤ j → j < k → rotP xs j ≠ xs) ∧ Below w.heap.size w wr) (fun i _ => n - (intOf i).toNat)
    case atStart => exact ⟨1, by omega, by omega, rfl, Lib.hid (fun j h1 h2 => by omega), hb1⟩
    case round =>
      obtain ⟨k, hk1, hk, rfl, hj, hb⟩ := hrel
      clear hb1
      by_cases hlt : k < n
      · go_wp2_with fail
        refine (rotate_any _ _ _ xs k _ (HR.out.below hb) hn hc (by omega)).mono ?_
        rintro e w2 ⟨v2, rfl, ho2, hb2⟩
        obtain ⟨B, m, d, rfl, hm, hr2⟩ := ho2.form'
        have hm12 : m ≤ 1048576 := by rw [rot_length, HL.out] at hm; omega
        have HR2 := Lib.hid hr2
        clear hm hr2 ho2
        go_wp2_with fail
        refine (same_any _ _ _ _ _ _ (rot xs k) xs _ HR2.out ((HR.out.below hb).below hb2) hm12 hn).mono ?_
        rintro e w3 ⟨rfl, hb3⟩
        have hb3' : Below w.heap.size w w3 := (hb.trans (hb2.mono hb.size)).trans (hb3.mono (Nat.le_trans hb.size hb2.size))
        clear hb hb2 hb3
        by_cases he : rot xs k = xs
        · have HT : Hid ((rot xs k == xs) = true) := Lib.hid (by rw [beq_iff_eq]; exact he)
          have HE : Hid (rotNumber xs = (k : Int)) := Lib.hid (rotNumber_is ⟨hk1, by rw [HL.out]; exact hk, hj.out, .inr he⟩)
          clear he
          rw [HT.out]
          go_wp2_with fail
          go_ret2
          exact ⟨by rw [HE.out]; rfl, hb3'⟩
        · have HT : Hid ((rot xs k == xs) = false) := Lib.hid (by rw [beq_eq_false_iff_ne]; exact he)
          have HJ : Hid (∀ j, 1 ≤ j → j < k + 1 → rotP xs j ≠ xs) := Lib.hid (fun j h1 h2 => by
            by_cases e : j = k
            · subst e; exact he
            · exact hj.out j h1 (by omega))
          clear he
          rw [HT.out]
          go_wp2_with fail
          go_roundw
          case rel => exact ⟨k + 1, by omega, by omega, by go_num, HJ, hb3'⟩
          case measure => simp [intOf]; omega
      · have HE : Hid (rotNumber xs = (k : Int)) := Lib.hid (rotNumber_is ⟨hk1, by rw [HL.out]; exact hk, hj.out, .inl (by rw [HL.out]; omega)⟩)
        go_wp2_with fail
        go_ret2
        exact ⟨by rw [HE.out]; rfl, hb⟩
set_option maxHeartbeats 3200000 in
theorem implRotationNumber_any (A : Option Addr) (n c : Nat) (xs : List Int) (w : World) (hr : Rd w A n xs) (hwf : Wf xs) (hn : n ≤ 1048576) (hc : n ≤ c) :
    Told 32 #[.slice A n c] w (.tuple #[.int .i64 (wordVal rotNumber xs).1, .int .i64 (wordVal rotNumber xs).2]) := by
  have HR := Lib.hid hr
  have HWF := Lib.hid hwf
  have HL := Lib.hid hr.len
  clear hr hwf
  rcases hw : isWord xs with _ | _
  · refine told_mk (v' := .tuple #[.int .i64 0, .int .i64 1]) (by rw [wordVal_no hw]) ?_
    have HW := Lib.hid hw
    clear hw
    go_enter Try.func32, Try.ntmps32
    go_wp2_with fail
    refine (implIs_any _ _ _ xs _ HR.out HWF.out hn).mono ?_
    rintro e w1 ⟨rfl, hb1⟩
    rw [HW.out]
    go_wp2_with fail
    go_ret2
    exact ⟨rfl, hb1⟩
  · refine told_mk (v' := .tuple #[.int .i64 (rotNumber xs), .int .i64 0]) (by rw [wordVal_yes hw]) ?_
    have HW := Lib.hid hw
    clear hw
    go_enter Try.func32, Try.ntmps32
    go_wp2_with fail
    refine (implIs_any _ _ _ xs _ HR.out HWF.out hn).mono ?_
    rintro e w1 ⟨rfl, hb1⟩
    rw [HW.out]
    have h12 : n ≤ 12 := by have := isWord_len HW.out; have := HL.out; omega
    have HNM := Lib.hid (isWord_norm HW.out)
    have hmm := @run_makeMap Try.prog
    have HF : Hid ((flat [(Value.slice A n c, xs), (Value.slice A n c, xs)]).length ≤ 16777216) := Lib.hid (by rw [flat_two, List.length_append, HL.out]; omega)
    go_wp2_with fail
    have hR1 := HR.out.below hb1
    have hcc := concat_any w1.heap.size 2 2 [(.slice A n c, xs), (.slice A n c, xs)] (w1.alloc (.cells #[.slice A n c, .slice A n c] 22)) (parts_two w1 A A n n c c xs xs hR1 hR1) rfl (by omega) HF.out
    refine Calls.mono hcc ?_
    clear hcc hR1
    rintro e w2 ⟨v2, rfl, ho2, hb2⟩
    rw [flat_two] at ho2
    obtain ⟨D, dn, dc, rfl, hdn, hdr⟩ := ho2.form'
    have hdcap := ho2.cap
    have hdn' : Hid (dn = 2 * n) := Lib.hid (by have := HL.out; rw [List.length_append] at hdn; omega)
    have hbW : Below w.heap.size w w2 := (hb1.trans ((below_alloc _ _).mono hb1.size)).trans (hb2.mono (by have := hb1.size; simp; omega))
    have HD := Lib.hid hdr
    clear ho2 hdn hdr hb1 hb2
    have hz2 := hbW.size
    obtain ⟨p, hpe⟩ : ∃ p, p = perNat xs := ⟨_, rfl⟩
    have hpi := perNat_is xs
    rw [← hpe] at hpi
    have HPI := Lib.hid hpi
    have HEND : Hid (metKeys p n = p) := Lib.hid (by rw [hpe, ← HL.out]; exact metKeys_end xs)
    have HRN : Hid (rotNumber xs = (p : Int)) := Lib.hid (by rw [hpe]; rfl)
    have hp13 : p ≤ 13 := by have := perNat_le xs; have := HL.out; omega
    have hk0 : (key xs).length = 12 := key_length _ (by rw [HL.out]; exact h12)
    obtain ⟨kl0, hkl0⟩ := keyOf_arr (key xs) hk0 (wf_key HWF.out)
    have HKL0 := Lib.hid hkl0
    clear hpe hpi hk0 hkl0
    go_wp2_with fail
    refine (keyOf_any _ _ _ xs _ ((HR.out.below hbW).below (below_alloc _ _)) h12).mono ?_
    rintro e w3 ⟨rfl, hb3⟩
    have hs3 : Seen w3 w2.heap.size 0 [] := (seen_made w2).below hb3
    have hbW3 : Below w.heap.size w w3 := (hbW.alloc hz2 _).trans (hb3.mono (by simp; omega))
    have HD3 := Lib.hid ((HD.out.below (below_alloc _ _)).below hb3)
    obtain ⟨D0, hD1, hD2, hD3⟩ := hs3
    have HD1 := Lib.hid hD1
    have HD2' := Lib.hid hD2
    have HD3' := Lib.hid hD3
    clear hD1 hD2 hD3 hb3
    go_wp2_with (refine wpList_insert_own _ rfl (.tmp 14) (.tmp 16) _ 46 rfl 40 4 keyedArr Try.underlying46 (plainElem Try.prog 4) w2.heap.size 0 D0 rfl HD1.out (by unfold maxLen; omega) _ _ kl0 rfl rfl HKL0.out (.lit (.bool true)) [] (plainElem_bool Try.underlying4 true) ?_; intro w4 hown4 hg4)
    have HS4 : Hid (Seen w4 w2.heap.size 1 (rotKeys xs (metKeys p 0))) := Lib.hid (by
      have := seen_put HD1.out HD2'.out HD3'.out HKL0.out (.lit (.bool true)) hown4
      rw [if_neg (by simp)] at this
      rw [show metKeys p 0 = 1 from by have := HPI.out.1; unfold metKeys; omega, rotKeys_one HNM.out]
      exact this)
    have hb4 : Below w.heap.size w w4 := hbW3.grown hg4 hbW3.size (fun j hj => by injection hj with hj; omega)
    have HB34 : Hid (Below w2.heap.size w3 w4) := Lib.hid ((Below.refl _ _).grown hg4 (by have := HD1.out.lt; omega) (fun j hj => by injection hj with hj; omega))
    have HD4 : Hid (RdB w4 w2.heap.size D dn (xs ++ xs)) := Lib.hid (RdB.below (by
      obtain ⟨h1, h2⟩ := HD.out
      refine ⟨h1, fun h0 => ?_⟩
      obtain ⟨a, ha, hl, hcc⟩ := h2 h0
      exact ⟨a, ha, hl, fun j hj => by
        have := HD3.out.2 h0
        obtain ⟨a', ha', _, hcc'⟩ := this
        rw [ha] at ha'
        injection ha' with ha'
        subst ha'
        exact hcc' j hj⟩) HB34.out)
    clear hown4 hg4 HD1 HD2' HD3' HD3 hbW3
    go_wp2_with fail
    go_loopw [20] (fun i wr => ∃ k : Nat, k ≤ n ∧ i = .int .i64 k ∧ Hid (Seen wr w2.heap.size (k + 1) (rotKeys xs (metKeys p k))) ∧ Hid (RdB wr w2.heap.size D dn (xs ++ xs)) ∧ Below w.heap.size w wr) (fun i _ => n - (intOf i).toNat)
    case atStart => exact ⟨0, by omega, rfl, HS4, HD4, hb4⟩
    case round =>
      obtain ⟨k, hk, rfl, hsn, hd, hb⟩ := hrel
      clear HS4 HD4 hb4 HB34
      obtain ⟨D1, hE1, hE2, hE3⟩ := hsn.out
      have hlt1 := hE1.lt
      by_cases hlt : k < n
      · have hk1 : (key (rot xs k)).length = 12 := key_length _ (by rw [rot_length, HL.out]; exact h12)
        obtain ⟨kl, hkl⟩ := keyOf_arr (key (rot xs k)) hk1 (wf_key (wf_norm _ (by simp [HL.out]; omega)))
        have HKL := Lib.hid hkl
        have HST := Lib.hid (rotKeys_step HNM.out HPI.out k (by rw [HL.out]; exact hlt))
        have HE2 := Lib.hid hE2
        have HE3 := Lib.hid hE3
        have HE1 := Lib.hid hE1
        clear hk1 hkl hE1 hE2 hE3
        go_wp2_with fail
        refine (rotationAt_any _ n _ _ xs k _ (hd.out.rd (by omega)) HL.out hdn'.out HWF.out hn hdcap hk).mono ?_
        rintro e w5 ⟨v5, rfl, ho5, hb5⟩
        obtain ⟨B, m, d, rfl, hm, hr5⟩ := ho5.form'
        have hm12 : m ≤ 12 := by rw [rot_length, HL.out] at hm; omega
        have HR5 := Lib.hid hr5
        clear hm hr5 ho5
        go_wp2_with fail
        refine (keyOf_any _ _ _ (rot xs k) _ HR5.out hm12).mono ?_
        rintro e w6 ⟨rfl, hb6⟩
        have HB6 : Hid (Below wr.heap.size wr w6) := Lib.hid (hb5.trans (hb6.mono hb5.size))
        have HE16 := Lib.hid (HE1.out.kept (grown_of_below HB6.out none) (by simp))
        have hb6' := hb.trans (HB6.out.mono hb.size)
        clear hb5 hb6
        go_wp2_with (at_mapUpdate; refine wpList_mapUpdate_own _ rfl _ _ _ 46 rfl 40 4 keyedArr Try.underlying46 _ w2.heap.size (k + 1) D1 rfl HE16.out (by unfold maxLen; omega) _ _ kl rfl rfl HKL.out (.lit (.bool true)) [] (plainElem_bool Try.underlying4 true) ?_; intro w7 hown7 hg7)
        have HS7 : Hid (Seen w7 w2.heap.size (k + 1 + 1) (rotKeys xs (metKeys p (k + 1)))) := Lib.hid (by
          have := seen_put HE16.out HE2.out HE3.out HKL.out (.lit (.bool true)) hown7
          rw [← HST.out]; exact this)
        have hz6 : w2.heap.size < w6.heap.size := HE16.out.lt
        have HD7 : Hid (RdB w7 w2.heap.size D dn (xs ++ xs)) := Lib.hid ((hd.out.below (HB6.out.mono (by omega))).below ((Below.refl _ _).grown hg7 (by omega) (fun j hj => by injection hj with hj; omega)))
        have hb7 : Below w.heap.size w w7 := hb6'.grown hg7 hb6'.size (fun j hj => by injection hj with hj; omega)
        clear hown7 hg7
        go_roundw
        case rel => exact ⟨k + 1, by omega, by go_num, HS7, HD7, hb7⟩
        case measure => simp [intOf]; omega
      · obtain rfl : k = n := by omega
        rw [HEND.out, rotKeys_length] at hE3
        have HE3 := Lib.hid hE3
        have HE1 := Lib.hid hE1
        clear hE1 hE2 hE3
        go_wp2_with (at_len; refine wpList_len_own _ rfl _ 46 rfl 40 4 Try.underlying46 _ w2.heap.size (k + 1) D1 rfl HE1.out ?_; rw [HE3.out])
        go_ret2
        exact ⟨by rw [HRN.out]; rfl, hb⟩
end Go.Proofs.Ytbbmdhbdjblamaa
