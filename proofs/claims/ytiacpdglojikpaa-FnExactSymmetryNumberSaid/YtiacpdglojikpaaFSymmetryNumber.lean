/- SymmetryNumber: the contracts of the model's and of the program's function. -/
import Derived.Test.YtiacpdglojikpaaSym
namespace Go.Proofs.Ytiacpdglojikpaa
open Go.RowKit
set_option linter.unusedVariables false
set_option linter.unusedSimpArgs false
set_option maxRecDepth 100000

set_option maxHeartbeats 3200000 in
theorem specSymmetryNumber_any (A : Option Addr) (n c : Nat) (xs : List Int) (w : World) (hr : Rd w A n xs) (hwf : Wf xs) (hn : n ≤ 1048576) (hc : n ≤ c) :
    Told 34 #[.slice A n c] w (.tuple #[.int .i64 (wordVal symCount xs).1, .int .i64 (wordVal symCount xs).2]) := by
  have HR := Lib.hid hr
  have HWF := Lib.hid hwf
  have HL := Lib.hid hr.len
  clear hr hwf
  rcases hw : isWord xs with _ | _
  · refine told_mk (v' := .tuple #[.int .i64 0, .int .i64 1]) (by rw [wordVal_no hw]) ?_
    have HW := Lib.hid hw
    clear hw
    go_enter Try.func34, Try.ntmps34
    go_wp2_with fail
    refine (code2_no _ _ _ xs _ HR.out hn HW.out).mono ?_
    rintro e w1 ⟨rfl, hb1⟩
    go_wp2_with fail
    go_ret2
    exact ⟨rfl, hb1⟩
  · refine told_mk (v' := .tuple #[.int .i64 (symCount xs), .int .i64 0]) (by rw [wordVal_yes hw]) ?_
    have HW := Lib.hid hw
    clear hw
    go_enter Try.func34, Try.ntmps34
    go_wp2_with fail
    refine (code2_yes _ _ _ xs _ HR.out hn HW.out).mono ?_
    rintro e w1 ⟨rfl, hb1⟩
    have h12 : n ≤ 12 := by have := isWord_len HW.out; have := HL.out; omega
    by_cases h0 : n = 0
    · have HE : Hid (symCount xs = 1) := Lib.hid (symCount_zero (by rw [HL.out]; exact h0))
      have e0 : ((n : Int) == 0) = true := by rw [beq_iff_eq]; omega
      clear h0
      go_wp2_with fail
      go_ret2
      exact ⟨by rw [HE.out]; rfl, hb1⟩
    have HE : Hid (symCount xs = symTo xs n) := Lib.hid (by rw [symCount_some (by rw [HL.out]; exact h0), HL.out])
    have e0 : ((n : Int) == 0) = false := by rw [beq_eq_false_iff_ne]; omega
    go_wp2_with fail
    clear e0
    go_loopw [5, 6] (fun t i wr => ∃ k : Nat, k ≤ n ∧ i = .int .i64 k ∧ t = .int .i64 (symTo xs k) ∧ Below w.heap.size w wr) (fun _ i _ => n - (intOf i).toNat)
    case atStart => exact ⟨0, by omega, rfl, rfl, hb1⟩
    case round =>
      obtain ⟨k, hk, rfl, rfl, hb⟩ := hrel
      clear hb1
      have hbd := symTo_bd xs k
      by_cases hlt : k < n
      · go_wp2_with fail
        refine (rotate_any _ _ _ xs k _ (HR.out.below hb) hn hc hk).mono ?_
        rintro e w2 ⟨v2, rfl, ho2, hb2⟩
        obtain ⟨B, m, d, rfl, hm, hr2⟩ := ho2.form'
        have hm12 : m ≤ 1048576 := by rw [rot_length, HL.out] at hm; omega
        have HR2 := Lib.hid hr2
        clear hm hr2 ho2
        go_wp2_with fail
        refine (same_any _ _ _ _ _ _ (rot xs k) xs _ HR2.out ((HR.out.below hb).below hb2) hm12 hn).mono ?_
        rintro e w3 ⟨rfl, hb3⟩
        have hb3' : Below w.heap.size w w3 := (hb.trans (hb2.mono hb.size)).trans (hb3.mono (Nat.le_trans hb.size hb2.size))
        clear hb hb2 hb3
        by_cases he : rot xs k = xs
        · have HT : Hid ((rot xs k == xs) = true) := Lib.hid (by rw [beq_iff_eq]; exact he)
          have HS : Hid (symTo xs (k + 1) = symTo xs k + 1) := Lib.hid (by rw [symTo, if_pos he])
          clear he
          rw [HT.out]
          go_wp2_with fail
          go_roundw
          case rel => exact ⟨k + 1, by omega, by go_num, by rw [HS.out], hb3'⟩
          case measure => simp [intOf]; omega
        · have HT : Hid ((rot xs k == xs) = false) := Lib.hid (by rw [beq_eq_false_iff_ne]; exact he)
          have HS : Hid (symTo xs (k + 1) = symTo xs k) := Lib.hid (by rw [symTo, if_neg he])
          clear he
          rw [HT.out]
          go_wp2_with fail
          go_roundw
          case rel => exact ⟨k + 1, by omega, by go_num, by rw [HS.out], hb3'⟩
          case measure => simp [intOf]; omega
      · obtain rfl : k = n := by omega
        go_wp2
        go_ret2
        exact ⟨by rw [HE.out]; rfl, hb⟩
set_option maxHeartbeats 3200000 in
theorem implSymmetryNumber_any (A : Option Addr) (n c : Nat) (xs : List Int) (w : World) (hr : Rd w A n xs) (hwf : Wf xs) (hn : n ≤ 1048576) (hc : n ≤ c) :
    Told 35 #[.slice A n c] w (.tuple #[.int .i64 (wordVal symCount xs).1, .int .i64 (wordVal symCount xs).2]) := by
  have HR := Lib.hid hr
  have HWF := Lib.hid hwf
  have HL := Lib.hid hr.len
  clear hr hwf
  rcases hw : isWord xs with _ | _
  · refine told_mk (v' := .tuple #[.int .i64 0, .int .i64 1]) (by rw [wordVal_no hw]) ?_
    have HW := Lib.hid hw
    clear hw
    go_enter Try.func35, Try.ntmps35
    go_wp2_with fail
    refine (implIs_any _ _ _ xs _ HR.out HWF.out hn).mono ?_
    rintro e w1 ⟨rfl, hb1⟩
    rw [HW.out]
    go_wp2_with fail
    go_ret2
    exact ⟨rfl, hb1⟩
  · refine told_mk (v' := .tuple #[.int .i64 (symCount xs), .int .i64 0]) (by rw [wordVal_yes hw]) ?_
    have HW := Lib.hid hw
    clear hw
    go_enter Try.func35, Try.ntmps35
    go_wp2_with fail
    refine (implIs_any _ _ _ xs _ HR.out HWF.out hn).mono ?_
    rintro e w1 ⟨rfl, hb1⟩
    rw [HW.out]
    have h12 : n ≤ 12 := by have := isWord_len HW.out; have := HL.out; omega
    by_cases h0 : n = 0
    · have HE : Hid (symCount xs = 1) := Lib.hid (symCount_zero (by rw [HL.out]; exact h0))
      have e0 : ((n : Int) == 0) = true := by rw [beq_iff_eq]; omega
      clear h0
      go_wp2_with fail
      go_ret2
      exact ⟨by rw [HE.out]; rfl, hb1⟩
    have HE : Hid (symCount xs = symTo xs n) := Lib.hid (by rw [symCount_some (by rw [HL.out]; exact h0), HL.out])
    have e0 : ((n : Int) == 0) = false := by rw [beq_eq_false_iff_ne]; omega
    have HF : Hid ((flat [(Value.slice A n c, xs), (Value.slice A n c, xs)]).length ≤ 16777216) := Lib.hid (by rw [flat_two, List.length_append, HL.out]; omega)
    go_wp2_with fail
    have hR1 := HR.out.below hb1
    have hcc := concat_any w1.heap.size 2 2 [(.slice A n c, xs), (.slice A n c, xs)] (w1.alloc (.cells #[.slice A n c, .slice A n c] 22)) (parts_two w1 A A n n c c xs xs hR1 hR1) rfl (by omega) HF.out
    refine Calls.mono hcc ?_
    clear hcc hR1
    rintro e w2 ⟨v2, rfl, ho2, hb2⟩
    rw [flat_two] at ho2
    obtain ⟨D, dn, dc, rfl, hdn, hdr⟩ := ho2.form'
    have hdcap := ho2.cap
    have hdn' : Hid (dn = 2 * n) := Lib.hid (by have := HL.out; rw [List.length_append] at hdn; omega)
    have hbW : Below w.heap.size w w2 := (hb1.trans ((below_alloc _ _).mono hb1.size)).trans (hb2.mono (by have := hb1.size; simp; omega))
    have HD := Lib.hid hdr
    clear ho2 hdn hdr hb1 hb2
    have hk2 : (key xs).length = 12 := key_length _ (by rw [HL.out]; exact h12)
    have HK2 := Lib.hid hk2
    
    have hgd := noGuard_key
    clear hk2 e0
    go_wp2_with fail
    go_loopw [5, 19] (fun t i wr => ∃ k : Nat, k ≤ n ∧ i = .int .i64 k ∧ t = .int .i64 (symTo xs k) ∧ Below w2.heap.size w2 wr) (fun _ i _ => n - (intOf i).toNat)
    case atStart => exact ⟨0, by omega, rfl, rfl, Below.refl _ _⟩
    case round =>
      obtain ⟨k, hk, rfl, rfl, hb⟩ := hrel
      have hbd := symTo_bd xs k
      by_cases hlt : k < n
      · have hk1 : (key (rot xs k)).length = 12 := key_length _ (by rw [rot_length, HL.out]; exact h12)
        have HQ : ∀ W : World, (binOp .eql 60 (.agg (ints (key (rot xs k))).toArray) (.agg (ints (key xs)).toArray)).run Try.prog W = .ok (.bool (key (rot xs k) == key xs)) W := fun W => run_eql_keys W _ _ hk1 HK2.out
        have HE2 : Hid ((key (rot xs k) == key xs) = (rot xs k == xs)) := Lib.hid (key_eq_len _ _ (rot_length xs k))
        clear hk1
        go_wp2_with fail
        refine (rotationAt_any _ n _ _ xs k _ (HD.out.below hb) HL.out hdn'.out HWF.out hn hdcap hk).mono ?_
        rintro e w3 ⟨v3, rfl, ho3, hb3⟩
        obtain ⟨B, m, d, rfl, hm, hr3⟩ := ho3.form'
        have hm12 : m ≤ 12 := by rw [rot_length, HL.out] at hm; omega
        have HR3 := Lib.hid hr3
        clear hm hr3 ho3
        go_wp2_with fail
        refine (keyOf_any _ _ _ (rot xs k) _ HR3.out hm12).mono ?_
        rintro e w4 ⟨rfl, hb4⟩
        go_wp2_with fail
        refine (keyOf_any _ _ _ xs _ ((((HR.out.below hbW).below hb).below hb3).below hb4) h12).mono ?_
        rintro e w5 ⟨rfl, hb5⟩
        have hb5' : Below w2.heap.size w2 w5 := ((hb.trans (hb3.mono hb.size)).trans (hb4.mono (Nat.le_trans hb.size hb3.size))).trans (hb5.mono (Nat.le_trans (Nat.le_trans hb.size hb3.size) hb4.size))
        clear hb hb3 hb4 hb5
        by_cases he : rot xs k = xs
        · have HT : (key (rot xs k) == key xs) = true := by rw [HE2.out, beq_iff_eq]; exact he
          have HS : Hid (symTo xs (k + 1) = symTo xs k + 1) := Lib.hid (by rw [symTo, if_pos he])
          clear he
          go_wp2_with fail
          go_roundw
          case rel => exact ⟨k + 1, by omega, by go_num, by rw [HS.out], hb5'⟩
          case measure => simp [intOf]; omega
        · have HT : (key (rot xs k) == key xs) = false := by rw [HE2.out, beq_eq_false_iff_ne]; exact he
          have HS : Hid (symTo xs (k + 1) = symTo xs k) := Lib.hid (by rw [symTo, if_neg he])
          clear he
          go_wp2_with fail
          go_roundw
          case rel => exact ⟨k + 1, by omega, by go_num, by rw [HS.out], hb5'⟩
          case measure => simp [intOf]; omega
      · obtain rfl : k = n := by omega
        go_wp2
        go_ret2
        exact ⟨by rw [HE.out]; rfl, hbW.trans (hb.mono hbW.size)⟩
end Go.Proofs.Ytiacpdglojikpaa
