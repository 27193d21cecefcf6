/- GlWeight: the model's and the program's contract. -/
import Derived.Test.YtinfhkcmjmglkaaFConwayWeight
import Derived.Test.YtinfhkcmjmglkaaPolyTrim
import Derived.Deep.Cut
namespace Go.Proofs.Ytinfhkcmjmglkaa
open Go.RowKit
set_option linter.unusedVariables false
set_option linter.unusedSimpArgs false
set_option maxRecDepth 100000

/-- N to the power of the circles -/
def glL (xs : List Int) : List Int := List.replicate (circN xs (fun _ => false)).toNat 0 ++ [1]
theorem circN_bd (xs : List Int) (tw : Nat → Bool) : 0 ≤ circN xs tw ∧ circN xs tw ≤ 2 * xs.length + 1 := by
  unfold circN
  split
  · omega
  · have := cirTo_bd (bandF xs tw) (nextF (2 * xs.length)) (2 * xs.length) (2 * xs.length); omega
theorem glL_len (xs : List Int) : (glL xs).length = (circN xs (fun _ => false)).toNat + 1 := by unfold glL; simp
theorem glL_few {xs : List Int} (h : isWord xs = true) : (glL xs).length ≤ 1048576 := by
  rw [glL_len]
  have := circN_bd xs (fun _ => false)
  have := isWord_len h
  omega
theorem set_last (C : Nat) : (List.replicate (C + 1) (0 : Int)).set C 1 = List.replicate C 0 ++ [1] := by
  rw [List.replicate_succ']
  rw [List.set_append_right _ _ (by simp)]
  simp
theorem trim_last (C : Nat) : trim (List.replicate C (0 : Int) ++ [1]) = List.replicate C 0 ++ [1] := by
  unfold trim
  rw [trimN_stop (by simp) (by simp)]
  exact List.take_of_length_le (Nat.le_refl _)

set_option maxHeartbeats 1600000 in
theorem power_any (C : Nat) (w : World) (hC : C ≤ 100) :
    Calls Try.prog 150 #[.int .i64 C, .int .i64 1] w fun e w' => ∃ v, e = .returned v ∧ Own w' w.heap.size v (List.replicate C 0 ++ [1]) ∧ Below w.heap.size w w' := by
  obtain ⟨i0, hi, hz0, hz1, hz2⟩ := info_parts info_int64
  obtain ⟨M, hM⟩ : ∃ M, M = C + 1 := ⟨_, rfl⟩
  have hMi : (C : Int) + 1 = (M : Int) := by omega
  have HMI := Lib.hid hMi
  have HMH := Lib.hid hM
  have hM9 : M ≤ 101 := by omega
  clear hM hMi
  go_enter Try.func150, Try.ntmps150
  go_upto_region 2 with (at_make; rw [HMI.out]; refine wpList_make_full _ rfl _ _ 22 rfl w.heap.size 2 i0 (.int .i64 0) 1 Try.underlying22 hi hz0 hz1 _ _ _ _ M rfl rfl rfl rfl (by rw [hz2]; omega) (by unfold maxLen; omega) (by omega) ?_; intro w1 hown1 hg1)
  have hb1 : Below w.heap.size w w1 := (Below.refl _ _).grown hg1 (Nat.le_refl _) (by simp)
  rw [made_zeros] at hown1
  have HO1 := Lib.hid hown1
  have hf := hown1.frozenAt C
  have hCM : C < M := by rw [HMH.out]; omega
  have hCMi : (C : Int) < (M : Int) := by omega
  obtain ⟨u, hu⟩ : ∃ u, w1.cell? ⟨w.heap.size, C, none⟩ = some u := ⟨_, by rw [hown1.cellAt C (by omega), ints_get?, List.getElem?_replicate, if_pos hCM]; rfl⟩
  clear hown1 hg1
  go_wp2_with fail
  have hst := HO1.out.stored C (.int .i64 1)
  rw [ints_set, HMH.out, set_last] at hst
  have HO2 : Hid (Own (w1.setCell ⟨w.heap.size, C, none⟩ (.int .i64 1)) w.heap.size (.slice (some ⟨w.heap.size, 0, none⟩) M M) (List.replicate C 0 ++ [1])) := Lib.hid (by rw [HMH.out]; exact own_of_row hst.1)
  have HB2 := Lib.hid (hb1.setCell (p := ⟨w.heap.size, C, none⟩) (Nat.le_refl _) (.int .i64 1))
  obtain ⟨A3, n3, c3, e3, hl3, hr3⟩ := HO2.out.form'
  injection e3 with e31 e32 e33
  subst e31; subst e32; subst e33
  have HR3 := Lib.hid hr3
  have hsz := HB2.out.size
  clear hst hr3 hl3 hb1
  refine (specTrim_any _ _ _ (List.replicate C 0 ++ [1]) _ HR3.out (by omega) (Nat.le_refl _)).mono ?_
  rw [trim_last]
  rintro e w4 ⟨v4, rfl, ho4, hb4⟩
  go_wp2_with fail
  go_ret
  exact ⟨_, rfl, ho4.mono hsz, HB2.out.trans (hb4.mono hsz)⟩
set_option maxHeartbeats 1600000 in
theorem weight0_any (A : Option Addr) (n c : Nat) (xs : List Int) (w : World) (hr : Rd w A n xs) (hw : isWord xs = true) :
    Calls Try.prog 96 #[.slice A n c, .int .i64 0] w fun e w' => ∃ v, e = .returned v ∧ Own w' w.heap.size v (glL xs) ∧ Below w.heap.size w w' := by
  have hl := hr.len
  have hn : n ≤ 12 := by have := isWord_len hw; omega
  obtain ⟨m, hm⟩ : ∃ m, m = n / 2 := ⟨_, rfl⟩
  have HR := Lib.hid hr
  have HW := Lib.hid hw
  have HM := Lib.hid hm
  obtain ⟨C, hC⟩ : ∃ C : Nat, circN xs (fun _ => false) = (C : Int) := ⟨(circN xs (fun _ => false)).toNat, by have := circN_bd xs (fun _ => false); omega⟩
  have hC9 : C ≤ 100 := by have := circN_bd xs (fun _ => false); have := isWord_len hw; omega
  have HC := Lib.hid hC
  have HG : Hid (glL xs = List.replicate C 0 ++ [1]) := Lib.hid (by unfold glL; rw [hC]; rfl)
  have hsh : (n : Int) / 2 ≤ 6 := by omega
  clear hr hl hw hm hC
  go_enter Try.func96, Try.ntmps96
  go_wp2_with fail
  obtain ⟨W, hW⟩ : ∃ W, W = w.alloc (.cells #[] 2) := ⟨_, rfl⟩
  have HWB : Hid (Below w.heap.size w W) := Lib.hid (by rw [hW]; exact below_alloc _ _)
  rw [← hW]
  clear hW
  refine (none_any A n c m _ hn HM.out).mono ?_
  rintro e w1 ⟨g, rfl, hown1, hb1⟩
  have HB1 : Hid (Below w.heap.size w w1) := Lib.hid (HWB.out.trans (hb1.mono HWB.out.size))
  have HS := Lib.hid (rdBo_own hown1 (by simp))
  clear hown1 hb1
  go_wp2_with fail
  refine (specCirc_any A n c xs _ _ _ (List.replicate m false) _ (HR.out.below HB1.out) HW.out HS.out HM.out).mono ?_
  rw [none_tw m, HC.out]
  rintro e w2 ⟨rfl, hb2⟩
  have HB2 : Hid (Below w.heap.size w w2) := Lib.hid (HB1.out.trans (hb2.mono HB1.out.size))
  clear hb2
  go_wp2_with fail
  refine (power_any C _ hC9).mono ?_
  rintro e w3 ⟨v3, rfl, ho3, hb3⟩
  go_wp2_with fail
  go_ret
  exact ⟨_, rfl, by rw [HG.out]; exact ho3.mono HB2.out.size, HB2.out.trans (hb3.mono HB2.out.size)⟩
set_option maxHeartbeats 800000 in
theorem specGlWeight_any (A : Option Addr) (n c : Nat) (xs : List Int) (w : World) (hr : Rd w A n xs) (hwf : Wf xs) (hn : n ≤ 1048576) (hc : n ≤ c) :
    Gave 29 #[.slice A n c] w (wordList glL xs) := by
  have HR := Lib.hid hr
  clear hr hwf
  rcases hw : isWord xs with _ | _
  · refine gave_mk (wordList_no hw) ?_
    have HW := Lib.hid hw
    clear hw
    go_enter Try.func29, Try.ntmps29
    go_wp2_with fail
    refine (specIs_any _ _ _ xs _ HR.out hn).mono ?_
    rintro e w1 ⟨rfl, hb1⟩
    rw [HW.out]
    go_wp2_with fail
    go_ret2
    exact ⟨_, rfl, Own.nil_ _ _, hb1⟩
  · refine gave_mk (wordList_yes hw) ?_
    have HW := Lib.hid hw
    clear hw
    go_enter Try.func29, Try.ntmps29
    go_wp2_with fail
    refine (specIs_any _ _ _ xs _ HR.out hn).mono ?_
    rintro e w1 ⟨rfl, hb1⟩
    rw [HW.out]
    go_wp2_with fail
    refine (weight0_any _ _ _ xs _ (HR.out.below hb1) HW.out).mono ?_
    rintro e w2 ⟨v2, rfl, ho2, hb2⟩
    go_wp2_with fail
    go_ret2
    exact ⟨_, rfl, ho2.mono hb1.size, hb1.trans (hb2.mono hb1.size)⟩
set_option maxHeartbeats 1600000 in
theorem gl_any (A : Option Addr) (n c : Nat) (xs : List Int) (w : World) (hr : Rd w A n xs) (hc : n ≤ c) (hw : isWord xs = true) :
    Calls Try.prog 175 #[.slice A n c] w fun e w' => ∃ v, e = .returned v ∧ Own w' w.heap.size v (glL xs) ∧ Below w.heap.size w w' := by
  have HR := Lib.hid hr
  have HW := Lib.hid hw
  obtain ⟨C, hC⟩ : ∃ C : Nat, circN xs (fun _ => false) = (C : Int) := ⟨(circN xs (fun _ => false)).toNat, by have := circN_bd xs (fun _ => false); omega⟩
  have hC9 : C ≤ 100 := by have := circN_bd xs (fun _ => false); have := isWord_len hw; omega
  have HC := Lib.hid hC
  have HG : Hid (glL xs = List.replicate C 0 ++ [1]) := Lib.hid (by unfold glL; rw [hC]; rfl)
  obtain ⟨i0, hi, hz0, hz1, hz2⟩ := info_parts info_int64
  obtain ⟨M, hM⟩ : ∃ M, M = C + 1 := ⟨_, rfl⟩
  have hMi : (C : Int) + 1 = (M : Int) := by omega
  have hMt : ((M : Int) - 1).toNat = C := by omega
  have hM1 : (0 : Int) ≤ (M : Int) - 1 := by omega
  have HMI := Lib.hid hMi
  have HMH := Lib.hid hM
  have hM9 : M ≤ 101 := by omega
  clear hr hw hC hM hMi
  go_enter Try.func175, Try.ntmps175
  go_wp2_with fail
  refine (circles_any A n c xs 0 (fun _ => false) _ HR.out hc HW.out (fun k _ => test_zero k)).mono ?_
  rw [HC.out]
  rintro e w0 ⟨rfl, hb0⟩
  go_upto_region 2 with (at_make; rw [HMI.out]; refine wpList_make_full _ rfl _ _ 22 rfl w0.heap.size 2 i0 (.int .i64 0) 1 Try.underlying22 hi hz0 hz1 _ _ _ _ M rfl rfl rfl rfl (by rw [hz2]; omega) (by unfold maxLen; omega) (by omega) ?_; intro w1 hown1 hg1)
  have hb1 : Below w0.heap.size w0 w1 := (Below.refl _ _).grown hg1 (Nat.le_refl _) (by simp)
  rw [made_zeros] at hown1
  have HO1 := Lib.hid hown1
  have hf := hown1.frozenAt C
  have hCM : C < M := by rw [HMH.out]; omega
  have hCMi : (C : Int) < (M : Int) := by omega
  obtain ⟨u, hu⟩ : ∃ u, w1.cell? ⟨w0.heap.size, C, none⟩ = some u := ⟨_, by rw [hown1.cellAt C (by omega), ints_get?, List.getElem?_replicate, if_pos hCM]; rfl⟩
  clear hown1 hg1
  go_wp2_with fail
  have hst := HO1.out.stored C (.int .i64 1)
  rw [ints_set, HMH.out, set_last] at hst
  have HO2 : Hid (Own (w1.setCell ⟨w0.heap.size, C, none⟩ (.int .i64 1)) w0.heap.size (.slice (some ⟨w0.heap.size, 0, none⟩) M M) (List.replicate C 0 ++ [1])) := Lib.hid (by rw [HMH.out]; exact own_of_row hst.1)
  have HB2 := Lib.hid (hb1.setCell (p := ⟨w0.heap.size, C, none⟩) (Nat.le_refl _) (.int .i64 1))
  go_ret
  exact ⟨_, rfl, by rw [HG.out]; exact HO2.out.mono hb0.size, hb0.trans (HB2.out.mono hb0.size)⟩
set_option maxHeartbeats 1600000 in
theorem weightOf0_any (A : Option Addr) (n c : Nat) (xs : List Int) (w : World) (hr : Rd w A n xs) (hc : n ≤ c) (hw : isWord xs = true) :
    Calls Try.prog 155 #[.slice A n c, .int .i64 0] w fun e w' => ∃ v, e = .returned v ∧ Own w' w.heap.size v (glL xs) ∧ Below w.heap.size w w' := by
  have HR := Lib.hid hr
  have HW := Lib.hid hw
  clear hr hw
  have HH : Hid ((w.alloc (.cells #[.nilFunc, .nilFunc, .nilFunc, .nilFunc] 132)).heap[w.heap.size]? = some (.cells #[.nilFunc, .nilFunc, .nilFunc, .nilFunc] 132 (0, 0))) := Lib.hid (heap_alloc_new _ _)
  obtain ⟨V, hV⟩ : ∃ V, V = (w.alloc (.cells #[.nilFunc, .nilFunc, .nilFunc, .nilFunc] 132)).setRow w.heap.size #[.func (.func 175) #[] #[], .func (.func 176) #[] #[], .func (.func 177) #[] #[], .func (.func 178) #[] #[]] := ⟨_, rfl⟩
  have hv0 : V.heap[w.heap.size]? = some (.cells #[.func (.func 175) #[] #[], .func (.func 176) #[] #[], .func (.func 177) #[] #[], .func (.func 178) #[] #[]] 132 (0, 0)) := by rw [hV]; exact setRow_heap _ _ _ _ _ _ HH.out
  have hvc : V.cell? ⟨w.heap.size, 0, none⟩ = some (.func (.func 175) #[] #[]) := by
    simp [World.cell?, hv0]
  have HBV := Lib.hid (show Below w.heap.size w V by rw [hV]; exact below_setRow (below_alloc _ _) (Nat.le_refl _) _)
  have HV := Lib.hid hV
  have HSZ : Hid ((Try.prog.info? 132).map (·.size) = some (#[.func (.func 175) #[] #[], .func (.func 176) #[] #[], .func (.func 177) #[] #[], .func (.func 178) #[] #[]] : Array Value).size) := Lib.hid (by kernel_rfl)
  have HOLD : Hid ((#[.nilFunc, .nilFunc, .nilFunc, .nilFunc] : Array Value).size = (#[.func (.func 175) #[] #[], .func (.func 176) #[] #[], .func (.func 177) #[] #[], .func (.func 178) #[] #[]] : Array Value).size) := Lib.hid rfl
  have HALL : Hid ((#[.func (.func 175) #[] #[], .func (.func 176) #[] #[], .func (.func 177) #[] #[], .func (.func 178) #[] #[]] : Array Value).all (·.oneCell') = true) := Lib.hid (by simp [Value.oneCell'])
  clear hV hv0
  go_enter Try.func155, Try.ntmps155
  go_upto_region 2 with (with_reducible refine wpList_store_row rfl 132 (.tmp 5) (.tmp 6) rfl w.heap.size #[.func (.func 175) #[] #[], .func (.func 176) #[] #[], .func (.func 177) #[] #[], .func (.func 178) #[] #[]] rfl rfl 132 _ HH.out HSZ.out HOLD.out HALL.out ?_)
  rw [← HV.out]
  go_wp2_with fail
  refine (gl_any _ _ _ xs _ (HR.out.below HBV.out) hc HW.out).mono ?_
  rintro e w2 ⟨v2, rfl, ho2, hb2⟩
  go_wp2_with fail
  go_ret
  exact ⟨_, rfl, ho2.mono HBV.out.size, HBV.out.trans (hb2.mono HBV.out.size)⟩
set_option maxHeartbeats 800000 in
theorem weightKind0_any (A : Option Addr) (n c : Nat) (xs : List Int) (w : World) (hr : Rd w A n xs) (hwf : Wf xs) (hn : n ≤ 1048576) (hc : n ≤ c) :
    Gave 97 #[.slice A n c, .int .i64 0] w (wordList glL xs) := by
  have HR := Lib.hid hr
  have HWF := Lib.hid hwf
  clear hr hwf
  rcases hw : isWord xs with _ | _
  · refine gave_mk (wordList_no hw) ?_
    have HW := Lib.hid hw
    clear hw
    go_enter Try.func97, Try.ntmps97
    go_wp2_with fail
    refine (implIs_any _ _ _ xs _ HR.out HWF.out hn).mono ?_
    rintro e w1 ⟨rfl, hb1⟩
    rw [HW.out]
    go_wp2_with fail
    go_ret2
    exact ⟨_, rfl, Own.nil_ _ _, hb1⟩
  · refine gave_mk (wordList_yes hw) ?_
    have HW := Lib.hid hw
    clear hw
    have hk : ∀ w : World, Calls Try.prog 154 #[.int .i64 0] w fun e w' => e = .returned (.bool true) ∧ w' = w := by
      intro w
      go_enter Try.func154, Try.ntmps154
      go_wp2
      go_ret
      exact ⟨rfl, rfl⟩
    have HK := Lib.hid hk
    clear hk
    go_enter Try.func97, Try.ntmps97
    go_wp2_with fail
    refine (implIs_any _ _ _ xs _ HR.out HWF.out hn).mono ?_
    rintro e w1 ⟨rfl, hb1⟩
    rw [HW.out]
    go_wp2_with fail
    refine (HK.out _).mono ?_
    rintro e w1' ⟨rfl, rfl⟩
    go_wp2_with fail
    refine (weightOf0_any _ _ _ xs _ (HR.out.below hb1) hc HW.out).mono ?_
    rintro e w2 ⟨v2, rfl, ho2, hb2⟩
    go_wp2_with fail
    go_ret2
    exact ⟨_, rfl, ho2.mono hb1.size, hb1.trans (hb2.mono hb1.size)⟩
theorem implGlWeight_any (A : Option Addr) (n c : Nat) (xs : List Int) (w : World) (hr : Rd w A n xs) (hwf : Wf xs) (hn : n ≤ 1048576) (hc : n ≤ c) :
    Gave 30 #[.slice A n c] w (wordList glL xs) := by
  have HK := Lib.hid (weightKind0_any A n c xs w hr hwf hn hc)
  clear hr hwf
  unfold Gave
  obtain ⟨L, z, hL⟩ : ∃ L z, wordList glL xs = (L, z) := ⟨_, _, rfl⟩
  rw [hL] at HK ⊢
  clear hL
  go_enter Try.func30, Try.ntmps30
  go_wp2_with fail
  refine Calls.mono HK.out ?_
  rintro e w1 ⟨v, rfl, ho, hb⟩
  go_wp2_with fail
  go_ret2
  exact ⟨_, rfl, ho, hb⟩
end Go.Proofs.Ytinfhkcmjmglkaa
