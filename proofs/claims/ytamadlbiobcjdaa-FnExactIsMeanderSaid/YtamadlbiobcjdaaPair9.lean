/- The codes of two words of equally many chords. -/
import Derived.Test.YtamadlbiobcjdaaCurv
import Derived.Test.YtamadlbiobcjdaaPlain
namespace Go.Proofs.Ytamadlbiobcjdaa
open Go.RowKit
set_option linter.unusedVariables false
set_option linter.unusedSimpArgs false
set_option maxRecDepth 100000


set_option maxHeartbeats 1600000 in
theorem specTwo_any (A : Option Addr) (n c : Nat) (xs : List Int) (B : Option Addr) (m d : Nat) (ys : List Int) (w : World) (hr : Rd w A n xs) (hwf : Wf xs) (hn1 : n ≤ 1048576) (hs : Rd w B m ys) (hvf : Wf ys) (hn2 : m ≤ 1048576) :
    Calls Try.prog 61 #[.slice A n c, .slice B m d] w fun e w' => e = .returned (.int .i64 (pairCode xs ys)) ∧ Below w.heap.size w w' := by
  have HR := Lib.hid hr
  have HS := Lib.hid hs
  have HWF := Lib.hid hwf
  have HVF := Lib.hid hvf
  have hl := hr.len
  have hl2 := hs.len
  clear hr hs hwf hvf
  obtain ⟨z, hz⟩ : ∃ z, z = pairCode xs ys := ⟨_, rfl⟩
  rw [← hz]
  unfold pairCode at hz
  rw [hl, hl2] at hz
  clear hl hl2
  rcases hw : isWord xs with _ | _
  · obtain rfl : z = 1 := by rw [hz, hw]; rfl
    have HW := Lib.hid hw
    clear hw hz
    go_enter Try.func61, Try.ntmps61
    go_wp2_with fail
    refine (specIs_any _ _ _ xs _ HR.out hn1).mono ?_
    rintro e w1 ⟨rfl, hb1⟩
    rw [HW.out]
    go_wp2_with fail
    go_ret
    exact ⟨rfl, hb1⟩
  · have HW := Lib.hid hw
    rcases hv : isWord ys with _ | _
    · obtain rfl : z = 1 := by rw [hz, hw, hv]; rfl
      have HV := Lib.hid hv
      clear hw hv hz
      go_enter Try.func61, Try.ntmps61
      go_wp2_with fail
      refine (specIs_any _ _ _ xs _ HR.out hn1).mono ?_
      rintro e w1 ⟨rfl, hb1⟩
      rw [HW.out]
      go_wp2_with fail
      refine (specIs_any _ _ _ ys _ (HS.out.below hb1) hn2).mono ?_
      rintro e w2 ⟨rfl, hb2⟩
      rw [HV.out]
      go_wp2_with fail
      go_ret
      exact ⟨rfl, hb1.trans (hb2.mono hb1.size)⟩
    · have HV := Lib.hid hv
      by_cases hnm : n = m
      · subst hnm
        obtain rfl : z = 0 := by rw [hz, hw, hv]; simp
        clear hw hv hz
        go_enter Try.func61, Try.ntmps61
        go_wp2_with fail
        refine (specIs_any _ _ _ xs _ HR.out hn1).mono ?_
        rintro e w1 ⟨rfl, hb1⟩
        rw [HW.out]
        go_wp2_with fail
        refine (specIs_any _ _ _ ys _ (HS.out.below hb1) hn2).mono ?_
        rintro e w2 ⟨rfl, hb2⟩
        rw [HV.out]
        go_wp2_with fail
        go_ret
        exact ⟨rfl, hb1.trans (hb2.mono hb1.size)⟩
      · obtain rfl : z = 2 := by rw [hz, hw, hv]; simp [hnm]
        have e1 : ((n : Int) != (m : Int)) = true := by rw [bne_iff_ne]; omega
        clear hw hv hz hnm
        go_enter Try.func61, Try.ntmps61
        go_wp2_with fail
        refine (specIs_any _ _ _ xs _ HR.out hn1).mono ?_
        rintro e w1 ⟨rfl, hb1⟩
        rw [HW.out]
        go_wp2_with fail
        refine (specIs_any _ _ _ ys _ (HS.out.below hb1) hn2).mono ?_
        rintro e w2 ⟨rfl, hb2⟩
        rw [HV.out]
        go_wp2_with fail
        go_ret
        exact ⟨rfl, hb1.trans (hb2.mono hb1.size)⟩
set_option maxHeartbeats 1600000 in
theorem implTwo_any (A : Option Addr) (n c : Nat) (xs : List Int) (B : Option Addr) (m d : Nat) (ys : List Int) (w : World) (hr : Rd w A n xs) (hwf : Wf xs) (hn1 : n ≤ 1048576) (hs : Rd w B m ys) (hvf : Wf ys) (hn2 : m ≤ 1048576) :
    Calls Try.prog 63 #[.slice A n c, .slice B m d] w fun e w' => e = .returned (.int .i64 (pairCode xs ys)) ∧ Below w.heap.size w w' := by
  have HR := Lib.hid hr
  have HS := Lib.hid hs
  have HWF := Lib.hid hwf
  have HVF := Lib.hid hvf
  have hl := hr.len
  have hl2 := hs.len
  clear hr hs hwf hvf
  obtain ⟨z, hz⟩ : ∃ z, z = pairCode xs ys := ⟨_, rfl⟩
  rw [← hz]
  unfold pairCode at hz
  rw [hl, hl2] at hz
  clear hl hl2
  rcases hw : isWord xs with _ | _
  · obtain rfl : z = 1 := by rw [hz, hw]; rfl
    have HW := Lib.hid hw
    clear hw hz
    go_enter Try.func63, Try.ntmps63
    go_wp2_with fail
    refine (implIs_any _ _ _ xs _ HR.out HWF.out hn1).mono ?_
    rintro e w1 ⟨rfl, hb1⟩
    rw [HW.out]
    go_wp2_with fail
    go_ret
    exact ⟨rfl, hb1⟩
  · have HW := Lib.hid hw
    rcases hv : isWord ys with _ | _
    · obtain rfl : z = 1 := by rw [hz, hw, hv]; rfl
      have HV := Lib.hid hv
      clear hw hv hz
      go_enter Try.func63, Try.ntmps63
      go_wp2_with fail
      refine (implIs_any _ _ _ xs _ HR.out HWF.out hn1).mono ?_
      rintro e w1 ⟨rfl, hb1⟩
      rw [HW.out]
      go_wp2_with fail
      refine (implIs_any _ _ _ ys _ (HS.out.below hb1) HVF.out hn2).mono ?_
      rintro e w2 ⟨rfl, hb2⟩
      rw [HV.out]
      go_wp2_with fail
      go_ret
      exact ⟨rfl, hb1.trans (hb2.mono hb1.size)⟩
    · have HV := Lib.hid hv
      by_cases hnm : n = m
      · subst hnm
        obtain rfl : z = 0 := by rw [hz, hw, hv]; simp
        clear hw hv hz
        go_enter Try.func63, Try.ntmps63
        go_wp2_with fail
        refine (implIs_any _ _ _ xs _ HR.out HWF.out hn1).mono ?_
        rintro e w1 ⟨rfl, hb1⟩
        rw [HW.out]
        go_wp2_with fail
        refine (implIs_any _ _ _ ys _ (HS.out.below hb1) HVF.out hn2).mono ?_
        rintro e w2 ⟨rfl, hb2⟩
        rw [HV.out]
        go_wp2_with fail
        go_ret
        exact ⟨rfl, hb1.trans (hb2.mono hb1.size)⟩
      · obtain rfl : z = 2 := by rw [hz, hw, hv]; simp [hnm]
        have e1 : ((n : Int) != (m : Int)) = true := by rw [bne_iff_ne]; omega
        clear hw hv hz hnm
        go_enter Try.func63, Try.ntmps63
        go_wp2_with fail
        refine (implIs_any _ _ _ xs _ HR.out HWF.out hn1).mono ?_
        rintro e w1 ⟨rfl, hb1⟩
        rw [HW.out]
        go_wp2_with fail
        refine (implIs_any _ _ _ ys _ (HS.out.below hb1) HVF.out hn2).mono ?_
        rintro e w2 ⟨rfl, hb2⟩
        rw [HV.out]
        go_wp2_with fail
        go_ret
        exact ⟨rfl, hb1.trans (hb2.mono hb1.size)⟩
theorem oth_list {xs : List Int} (hw : isWord xs = true) (n : Nat) (hn : n = xs.length) : ∀ k, k < n → (othTo xs n (n / 2)).getD k 0 = (oth xs k : Int) ∧ oth xs k < n := fun k hk => by
  refine ⟨?_, by have := (oth_int hw (k := k) (by omega)).2; omega⟩
  rw [List.getD, othTo_all hw n k hn hk]; rfl
theorem curvesTwo_any (A : Option Addr) (n c : Nat) (xs ys : List Int) (B : Option Addr) (d : Nat) (w : World) (hw : isWord xs = true) (hv : isWord ys = true) (hl : xs.length = n) (hl2 : ys.length = n) (hr : Rd w A n (othTo xs n (n / 2))) (hs : Rd w B n (othTo ys n (n / 2))) :
    Calls Try.prog 64 #[.slice A n c, .slice B n d] w fun e w' => e = .returned (.int .i64 (curves xs ys)) ∧ Below w.heap.size w w' := by
  have h := curvesOf_any A n c _ B d _ (oth xs) (oth ys) w hr hs (by have := isWord_len hw; omega) (oth_list hw n hl.symm) (oth_list hv n hl2.symm)
  unfold curves
  rw [hl]
  exact h
end Go.Proofs.Ytamadlbiobcjdaa
