/- MutateWord: the contracts of the model's and of the program's function. -/
import Derived.Test.YtamadlbiobcjdaaMutImpl
import Derived.Test.YtamadlbiobcjdaaFIsShare
namespace Go.Proofs.Ytamadlbiobcjdaa
open Go.RowKit
set_option linter.unusedVariables false
set_option linter.unusedSimpArgs false
set_option maxRecDepth 100000


def mutateWord (xs : List Int) (p q r s k : Int) : List Int × Int :=
  if isWord xs then (if okArcs xs.length p q r s && inB k 0 2 then (if shareB xs p q r s then (mutant xs p.toNat q.toNat r.toNat s.toNat k, 0) else ([], 5)) else ([], 2)) else ([], 1)
theorem mutant_len (xs : List Int) (p q r s : Nat) (k : Int) : (mutant xs p q r s k).length ≤ 5 * xs.length := by
  have hs : ∀ a b, (segm xs a b).length ≤ xs.length := fun a b => by unfold segm; rw [List.length_take, List.length_drop]; omega
  have ha : ∀ a b, (arcBy xs a b k).length ≤ xs.length := fun a b => by
    unfold arcBy; split
    · exact hs a b
    · rw [List.length_reverse]; exact hs a b
  have h1 := hs q r
  have h2 := ha p q
  have h3 := ha r s
  have h4 : (xs.take p).length ≤ xs.length := by rw [List.length_take]; omega
  have h5 : (xs.drop s).length ≤ xs.length := by rw [List.length_drop]; omega
  unfold mutant
  split <;> (rw [norm_length, List.length_append, List.length_append, List.length_append, List.length_append]; omega)
theorem mutateWord_len (xs : List Int) (p q r s k : Int) (h : xs.length ≤ 1048576) : (mutateWord xs p q r s k).1.length ≤ 1048576 := by
  unfold mutateWord
  split
  · rename_i hw
    have hl := isWord_len hw
    have h2 := mutant_len xs p.toNat q.toNat r.toNat s.toNat k
    split
    · split
      · simp only; omega
      · simp
    · simp
  · simp
theorem okArcs_at {n : Nat} {p q r s : Int} (h : okArcs n p q r s = true) : ∃ p' q' r' s' : Nat, p = p' ∧ q = q' ∧ r = r' ∧ s = s' ∧ p' ≤ q' ∧ q' ≤ r' ∧ r' ≤ s' ∧ s' ≤ n := by
  have h := of_decide_eq_true h
  exact ⟨p.toNat, q.toNat, r.toNat, s.toNat, by omega, by omega, by omega, by omega, by omega, by omega, by omega, by omega⟩

set_option maxHeartbeats 3200000 in
theorem specMutateWord_any (A : Option Addr) (n c : Nat) (xs : List Int) (p q r s k : Int) (w : World) (hr : Rd w A n xs) (hwf : Wf xs) (hn : n ≤ 1048576) (hc : n ≤ c)
    (hp : -9223372036854775808 ≤ p ∧ p ≤ 9223372036854775807) (hq : -9223372036854775808 ≤ q ∧ q ≤ 9223372036854775807) (hrr : -9223372036854775808 ≤ r ∧ r ≤ 9223372036854775807) (hs : -9223372036854775808 ≤ s ∧ s ≤ 9223372036854775807) (hkk : -9223372036854775808 ≤ k ∧ k ≤ 9223372036854775807) :
    Gave 19 #[.slice A n c, .int .i64 p, .int .i64 q, .int .i64 r, .int .i64 s, .int .i64 k] w (mutateWord xs p q r s k) := by
  have HR := Lib.hid hr
  have HWF := Lib.hid hwf
  have hl := hr.len
  have HEQ := Lib.hid (arcCode_eq xs n hl p q r s)
  clear hr hwf
  rcases hw : isWord xs with _ | _
  · refine gave_mk (xs := []) (z := 1) (by unfold mutateWord; rw [hw]; rfl) ?_
    have HE : Hid (arcCode xs p q r s = 1) := Lib.hid (by rw [HEQ.out, hw]; rfl)
    have HW := Lib.hid hw
    clear hw
    go_enter Try.func19, Try.ntmps19
    go_wp2_with fail
    refine Calls.mono (arcCode_any _ _ _ xs _ _ _ _ _ HR.out hn) ?_
    rintro e w1 ⟨rfl, hb1⟩
    rw [HE.out]
    go_wp2_with fail
    go_ret2
    exact ⟨_, rfl, Own.nil_ _ _, hb1⟩
  · have HW := Lib.hid hw
    have hn12 : n ≤ 12 := by have := isWord_len hw; omega
    rcases ho : okArcs n p q r s with _ | _
    · refine gave_mk (xs := []) (z := 2) (by unfold mutateWord; rw [hw, hl, ho]; rfl) ?_
      have HE : Hid (arcCode xs p q r s = 2) := Lib.hid (by rw [HEQ.out, hw, ho]; rfl)
      have HO := Lib.hid ho
      clear hw ho
      go_enter Try.func19, Try.ntmps19
      go_wp2_with fail
      refine Calls.mono (arcCode_any _ _ _ xs _ _ _ _ _ HR.out hn) ?_
      rintro e w1 ⟨rfl, hb1⟩
      rw [HE.out]
      go_wp2_with fail
      go_ret2
      exact ⟨_, rfl, Own.nil_ _ _, hb1⟩
    · have HO := Lib.hid ho
      have HE : Hid (arcCode xs p q r s = 0) := Lib.hid (by rw [HEQ.out, hw, ho]; rfl)
      rcases hk : inB k 0 2 with _ | _
      · refine gave_mk (xs := []) (z := 2) (by unfold mutateWord; rw [hw, hl, ho, hk]; rfl) ?_
        have HK := Lib.hid hk
        clear hw ho hk
        go_enter Try.func19, Try.ntmps19
        go_wp2_with fail
        refine Calls.mono (arcCode_any _ _ _ xs _ _ _ _ _ HR.out hn) ?_
        rintro e w1 ⟨rfl, hb1⟩
        rw [HE.out]
        go_wp2_with fail
        refine (in_any _ _ _ _).mono ?_
        rintro e w0 ⟨rfl, rfl⟩
        rw [HK.out]
        go_wp2_with fail
        go_ret2
        exact ⟨_, rfl, Own.nil_ _ _, hb1⟩
      · have HK := Lib.hid hk
        have hk2 := inB_true.1 hk
        obtain ⟨p', q', r', s', rfl, rfl, rfl, rfl, g1, g2, g3, g4⟩ := okArcs_at ho
        rcases hsh : shareB xs p' q' r' s' with _ | _
        · refine gave_mk (xs := []) (z := 5) (by unfold mutateWord; rw [hw, hl, ho, hk, hsh]; rfl) ?_
          have HSH := Lib.hid hsh
          clear hw ho hk hsh
          go_enter Try.func19, Try.ntmps19
          go_wp2_with fail
          refine Calls.mono (arcCode_any _ _ _ xs _ _ _ _ _ HR.out hn) ?_
          rintro e w1 ⟨rfl, hb1⟩
          rw [HE.out]
          go_wp2_with fail
          refine (in_any _ _ _ _).mono ?_
          rintro e w0 ⟨rfl, rfl⟩
          rw [HK.out]
          go_wp2_with fail
          refine (specShare_any _ _ _ xs _ _ _ _ _ (HR.out.below hb1) HW.out (by omega) (by omega) (by omega) (by omega)).mono ?_
          rintro e w2 ⟨rfl, hb2⟩
          rw [HSH.out]
          have HB2 := Lib.hid (hb1.trans (hb2.mono hb1.size))
          clear hb2 hb1
          go_wp2_with fail
          go_ret2
          exact ⟨_, rfl, Own.nil_ _ _, HB2.out⟩
        · refine gave_mk (xs := mutant xs p' q' r' s' k) (z := 0) (by unfold mutateWord; rw [hw, hl, ho, hk, hsh]; rfl) ?_
          have HSH := Lib.hid hsh
          clear hw ho hk hsh
          obtain rfl | rfl | rfl : k = 0 ∨ k = 1 ∨ k = 2 := by omega
          · go_enter Try.func19, Try.ntmps19
            go_wp2_with fail
            refine Calls.mono (arcCode_any _ _ _ xs _ _ _ _ _ HR.out hn) ?_
            rintro e w1 ⟨rfl, hb1⟩
            rw [HE.out]
            go_wp2_with fail
            refine (in_any _ _ _ _).mono ?_
            rintro e w0 ⟨rfl, rfl⟩
            rw [HK.out]
            go_wp2_with fail
            refine (specShare_any _ _ _ xs _ _ _ _ _ (HR.out.below hb1) HW.out (by omega) (by omega) (by omega) (by omega)).mono ?_
            rintro e w2 ⟨rfl, hb2⟩
            rw [HSH.out]
            have HB2 := Lib.hid (hb1.trans (hb2.mono hb1.size))
            clear hb2 hb1
            go_wp2_with fail
            refine (specMutate0_any _ _ _ xs p' q' r' s' _ (HR.out.below HB2.out) hc hn12 g1 g2 g3 g4).mono ?_
            rintro e w5 ⟨v5, rfl, ho5, hb5⟩
            go_wp2_with fail
            go_ret2
            exact ⟨_, rfl, ho5.mono HB2.out.size, HB2.out.trans (hb5.mono HB2.out.size)⟩
          · go_enter Try.func19, Try.ntmps19
            go_wp2_with fail
            refine Calls.mono (arcCode_any _ _ _ xs _ _ _ _ _ HR.out hn) ?_
            rintro e w1 ⟨rfl, hb1⟩
            rw [HE.out]
            go_wp2_with fail
            refine (in_any _ _ _ _).mono ?_
            rintro e w0 ⟨rfl, rfl⟩
            rw [HK.out]
            go_wp2_with fail
            refine (specShare_any _ _ _ xs _ _ _ _ _ (HR.out.below hb1) HW.out (by omega) (by omega) (by omega) (by omega)).mono ?_
            rintro e w2 ⟨rfl, hb2⟩
            rw [HSH.out]
            have HB2 := Lib.hid (hb1.trans (hb2.mono hb1.size))
            clear hb2 hb1
            go_wp2_with fail
            refine (specMutate1_any _ _ _ xs p' q' r' s' _ (HR.out.below HB2.out) hc hn12 g1 g2 g3 g4).mono ?_
            rintro e w5 ⟨v5, rfl, ho5, hb5⟩
            go_wp2_with fail
            go_ret2
            exact ⟨_, rfl, ho5.mono HB2.out.size, HB2.out.trans (hb5.mono HB2.out.size)⟩
          · go_enter Try.func19, Try.ntmps19
            go_wp2_with fail
            refine Calls.mono (arcCode_any _ _ _ xs _ _ _ _ _ HR.out hn) ?_
            rintro e w1 ⟨rfl, hb1⟩
            rw [HE.out]
            go_wp2_with fail
            refine (in_any _ _ _ _).mono ?_
            rintro e w0 ⟨rfl, rfl⟩
            rw [HK.out]
            go_wp2_with fail
            refine (specShare_any _ _ _ xs _ _ _ _ _ (HR.out.below hb1) HW.out (by omega) (by omega) (by omega) (by omega)).mono ?_
            rintro e w2 ⟨rfl, hb2⟩
            rw [HSH.out]
            have HB2 := Lib.hid (hb1.trans (hb2.mono hb1.size))
            clear hb2 hb1
            go_wp2_with fail
            refine (specMutate2_any _ _ _ xs p' q' r' s' _ (HR.out.below HB2.out) hc hn12 g1 g2 g3 g4).mono ?_
            rintro e w5 ⟨v5, rfl, ho5, hb5⟩
            go_wp2_with fail
            go_ret2
            exact ⟨_, rfl, ho5.mono HB2.out.size, HB2.out.trans (hb5.mono HB2.out.size)⟩
set_option maxHeartbeats 3200000 in
theorem implMutateWord_any (A : Option Addr) (n c : Nat) (xs : List Int) (p q r s k : Int) (w : World) (hr : Rd w A n xs) (hwf : Wf xs) (hn : n ≤ 1048576) (hc : n ≤ c)
    (hp : -9223372036854775808 ≤ p ∧ p ≤ 9223372036854775807) (hq : -9223372036854775808 ≤ q ∧ q ≤ 9223372036854775807) (hrr : -9223372036854775808 ≤ r ∧ r ≤ 9223372036854775807) (hs : -9223372036854775808 ≤ s ∧ s ≤ 9223372036854775807) (hkk : -9223372036854775808 ≤ k ∧ k ≤ 9223372036854775807) :
    Gave 20 #[.slice A n c, .int .i64 p, .int .i64 q, .int .i64 r, .int .i64 s, .int .i64 k] w (mutateWord xs p q r s k) := by
  have HR := Lib.hid hr
  have HWF := Lib.hid hwf
  have hl := hr.len
  have HEQ := Lib.hid (arcCode_eq xs n hl p q r s)
  clear hr hwf
  rcases hw : isWord xs with _ | _
  · refine gave_mk (xs := []) (z := 1) (by unfold mutateWord; rw [hw]; rfl) ?_
    have HE : Hid (arcCode xs p q r s = 1) := Lib.hid (by rw [HEQ.out, hw]; rfl)
    have HW := Lib.hid hw
    clear hw
    go_enter Try.func20, Try.ntmps20
    go_wp2_with fail
    refine (implIs_any _ _ _ xs _ HR.out HWF.out hn).mono ?_
    rintro e w1 ⟨rfl, hb1⟩
    rw [HW.out]
    go_wp2_with fail
    go_ret2
    exact ⟨_, rfl, Own.nil_ _ _, hb1⟩
  · have HW := Lib.hid hw
    have hn12 : n ≤ 12 := by have := isWord_len hw; omega
    rcases ho : okArcs n p q r s with _ | _
    · refine gave_mk (xs := []) (z := 2) (by unfold mutateWord; rw [hw, hl, ho]; rfl) ?_
      have HE : Hid (arcCode xs p q r s = 2) := Lib.hid (by rw [HEQ.out, hw, ho]; rfl)
      have HO := Lib.hid ho
      clear hw ho
      go_enter Try.func20, Try.ntmps20
      go_wp2_with fail
      refine (implIs_any _ _ _ xs _ HR.out HWF.out hn).mono ?_
      rintro e w1 ⟨rfl, hb1⟩
      rw [HW.out]
      obtain ⟨W, hW⟩ : ∃ W, W = w1.alloc (.cells #[.int .i64 p, .int .i64 q, .int .i64 r, .int .i64 s] 48) := ⟨_, rfl⟩
      have hbW : Below w1.heap.size w1 W := by rw [hW]; exact below_alloc _ _
      have k0 : W.cell? ⟨w1.heap.size, 0, none⟩ = some (.int .i64 p) := by rw [hW, World.cell?_alloc_at _ _ _ _ rfl]; rfl
      have k1 : W.cell? ⟨w1.heap.size, 1, none⟩ = some (.int .i64 q) := by rw [hW, World.cell?_alloc_at _ _ _ _ rfl]; rfl
      have k2 : W.cell? ⟨w1.heap.size, 2, none⟩ = some (.int .i64 r) := by rw [hW, World.cell?_alloc_at _ _ _ _ rfl]; rfl
      have k3 : W.cell? ⟨w1.heap.size, 3, none⟩ = some (.int .i64 s) := by rw [hW, World.cell?_alloc_at _ _ _ _ rfl]; rfl
      have hsW : w1.heap.size < W.heap.size := by rw [hW]; simp
      have HSW := Lib.hid hsW
      have HWE := Lib.hid hW
      have HBW := Lib.hid (hb1.trans (hbW.mono hb1.size))
      clear hW hbW hsW hb1
      go_wp2_with fail
      rw [← HWE.out]
      refine (areOf_any _ _ _ p q r s _ hn).mono ?_
      rintro e w2 ⟨rfl, hb2⟩
      rw [HO.out]
      have l0 := (hb2.cell (p := ⟨w1.heap.size, 0, none⟩) HSW.out).trans k0
      have l1 := (hb2.cell (p := ⟨w1.heap.size, 1, none⟩) HSW.out).trans k1
      have l2 := (hb2.cell (p := ⟨w1.heap.size, 2, none⟩) HSW.out).trans k2
      have l3 := (hb2.cell (p := ⟨w1.heap.size, 3, none⟩) HSW.out).trans k3
      have HB2 := Lib.hid (HBW.out.trans (hb2.mono HBW.out.size))
      have hlt2 : w1.heap.size < w2.heap.size := Nat.lt_of_lt_of_le HSW.out hb2.size
      clear hb2 k0 k1 k2 k3
      go_wp2_with fail
      go_ret2
      exact ⟨_, rfl, Own.nil_ _ _, HB2.out⟩
    · have HO := Lib.hid ho
      have HE : Hid (arcCode xs p q r s = 0) := Lib.hid (by rw [HEQ.out, hw, ho]; rfl)
      rcases hk : inB k 0 2 with _ | _
      · refine gave_mk (xs := []) (z := 2) (by unfold mutateWord; rw [hw, hl, ho, hk]; rfl) ?_
        have HK := Lib.hid hk
        have hk2 := inB_false.1 hk
        clear hw ho hk
        by_cases hk0 : k < 0
        · go_enter Try.func20, Try.ntmps20
          go_wp2_with fail
          refine (implIs_any _ _ _ xs _ HR.out HWF.out hn).mono ?_
          rintro e w1 ⟨rfl, hb1⟩
          rw [HW.out]
          obtain ⟨W, hW⟩ : ∃ W, W = w1.alloc (.cells #[.int .i64 p, .int .i64 q, .int .i64 r, .int .i64 s] 48) := ⟨_, rfl⟩
          have hbW : Below w1.heap.size w1 W := by rw [hW]; exact below_alloc _ _
          have k0 : W.cell? ⟨w1.heap.size, 0, none⟩ = some (.int .i64 p) := by rw [hW, World.cell?_alloc_at _ _ _ _ rfl]; rfl
          have k1 : W.cell? ⟨w1.heap.size, 1, none⟩ = some (.int .i64 q) := by rw [hW, World.cell?_alloc_at _ _ _ _ rfl]; rfl
          have k2 : W.cell? ⟨w1.heap.size, 2, none⟩ = some (.int .i64 r) := by rw [hW, World.cell?_alloc_at _ _ _ _ rfl]; rfl
          have k3 : W.cell? ⟨w1.heap.size, 3, none⟩ = some (.int .i64 s) := by rw [hW, World.cell?_alloc_at _ _ _ _ rfl]; rfl
          have hsW : w1.heap.size < W.heap.size := by rw [hW]; simp
          have HSW := Lib.hid hsW
          have HWE := Lib.hid hW
          have HBW := Lib.hid (hb1.trans (hbW.mono hb1.size))
          clear hW hbW hsW hb1
          go_wp2_with fail
          rw [← HWE.out]
          refine (areOf_any _ _ _ p q r s _ hn).mono ?_
          rintro e w2 ⟨rfl, hb2⟩
          rw [HO.out]
          have l0 := (hb2.cell (p := ⟨w1.heap.size, 0, none⟩) HSW.out).trans k0
          have l1 := (hb2.cell (p := ⟨w1.heap.size, 1, none⟩) HSW.out).trans k1
          have l2 := (hb2.cell (p := ⟨w1.heap.size, 2, none⟩) HSW.out).trans k2
          have l3 := (hb2.cell (p := ⟨w1.heap.size, 3, none⟩) HSW.out).trans k3
          have HB2 := Lib.hid (HBW.out.trans (hb2.mono HBW.out.size))
          have hlt2 : w1.heap.size < w2.heap.size := Nat.lt_of_lt_of_le HSW.out hb2.size
          clear hb2 k0 k1 k2 k3
          go_wp2_with fail
          go_ret2
          exact ⟨_, rfl, Own.nil_ _ _, HB2.out⟩
        · have hk3 : 3 ≤ k := by omega
          clear hk2
          go_enter Try.func20, Try.ntmps20
          go_wp2_with fail
          refine (implIs_any _ _ _ xs _ HR.out HWF.out hn).mono ?_
          rintro e w1 ⟨rfl, hb1⟩
          rw [HW.out]
          obtain ⟨W, hW⟩ : ∃ W, W = w1.alloc (.cells #[.int .i64 p, .int .i64 q, .int .i64 r, .int .i64 s] 48) := ⟨_, rfl⟩
          have hbW : Below w1.heap.size w1 W := by rw [hW]; exact below_alloc _ _
          have k0 : W.cell? ⟨w1.heap.size, 0, none⟩ = some (.int .i64 p) := by rw [hW, World.cell?_alloc_at _ _ _ _ rfl]; rfl
          have k1 : W.cell? ⟨w1.heap.size, 1, none⟩ = some (.int .i64 q) := by rw [hW, World.cell?_alloc_at _ _ _ _ rfl]; rfl
          have k2 : W.cell? ⟨w1.heap.size, 2, none⟩ = some (.int .i64 r) := by rw [hW, World.cell?_alloc_at _ _ _ _ rfl]; rfl
          have k3 : W.cell? ⟨w1.heap.size, 3, none⟩ = some (.int .i64 s) := by rw [hW, World.cell?_alloc_at _ _ _ _ rfl]; rfl
          have hsW : w1.heap.size < W.heap.size := by rw [hW]; simp
          have HSW := Lib.hid hsW
          have HWE := Lib.hid hW
          have HBW := Lib.hid (hb1.trans (hbW.mono hb1.size))
          clear hW hbW hsW hb1
          go_wp2_with fail
          rw [← HWE.out]
          refine (areOf_any _ _ _ p q r s _ hn).mono ?_
          rintro e w2 ⟨rfl, hb2⟩
          rw [HO.out]
          have l0 := (hb2.cell (p := ⟨w1.heap.size, 0, none⟩) HSW.out).trans k0
          have l1 := (hb2.cell (p := ⟨w1.heap.size, 1, none⟩) HSW.out).trans k1
          have l2 := (hb2.cell (p := ⟨w1.heap.size, 2, none⟩) HSW.out).trans k2
          have l3 := (hb2.cell (p := ⟨w1.heap.size, 3, none⟩) HSW.out).trans k3
          have HB2 := Lib.hid (HBW.out.trans (hb2.mono HBW.out.size))
          have hlt2 : w1.heap.size < w2.heap.size := Nat.lt_of_lt_of_le HSW.out hb2.size
          clear hb2 k0 k1 k2 k3
          go_wp2_with fail
          go_ret2
          exact ⟨_, rfl, Own.nil_ _ _, HB2.out⟩
      · have HK := Lib.hid hk
        have hk2 := inB_true.1 hk
        obtain ⟨p', q', r', s', rfl, rfl, rfl, rfl, g1, g2, g3, g4⟩ := okArcs_at ho
        rcases hsh : shareB xs p' q' r' s' with _ | _
        · refine gave_mk (xs := []) (z := 5) (by unfold mutateWord; rw [hw, hl, ho, hk, hsh]; rfl) ?_
          have HSH := Lib.hid hsh
          clear hw ho hk hsh
          go_enter Try.func20, Try.ntmps20
          go_wp2_with fail
          refine (implIs_any _ _ _ xs _ HR.out HWF.out hn).mono ?_
          rintro e w1 ⟨rfl, hb1⟩
          rw [HW.out]
          obtain ⟨W, hW⟩ : ∃ W, W = w1.alloc (.cells #[.int .i64 (p' : Int), .int .i64 (q' : Int), .int .i64 (r' : Int), .int .i64 (s' : Int)] 48) := ⟨_, rfl⟩
          have hbW : Below w1.heap.size w1 W := by rw [hW]; exact below_alloc _ _
          have k0 : W.cell? ⟨w1.heap.size, 0, none⟩ = some (.int .i64 (p' : Int)) := by rw [hW, World.cell?_alloc_at _ _ _ _ rfl]; rfl
          have k1 : W.cell? ⟨w1.heap.size, 1, none⟩ = some (.int .i64 (q' : Int)) := by rw [hW, World.cell?_alloc_at _ _ _ _ rfl]; rfl
          have k2 : W.cell? ⟨w1.heap.size, 2, none⟩ = some (.int .i64 (r' : Int)) := by rw [hW, World.cell?_alloc_at _ _ _ _ rfl]; rfl
          have k3 : W.cell? ⟨w1.heap.size, 3, none⟩ = some (.int .i64 (s' : Int)) := by rw [hW, World.cell?_alloc_at _ _ _ _ rfl]; rfl
          have hsW : w1.heap.size < W.heap.size := by rw [hW]; simp
          have HSW := Lib.hid hsW
          have HWE := Lib.hid hW
          have HBW := Lib.hid (hb1.trans (hbW.mono hb1.size))
          clear hW hbW hsW hb1
          go_wp2_with fail
          rw [← HWE.out]
          refine (areOf_any _ _ _ (p' : Int) (q' : Int) (r' : Int) (s' : Int) _ hn).mono ?_
          rintro e w2 ⟨rfl, hb2⟩
          rw [HO.out]
          have l0 := (hb2.cell (p := ⟨w1.heap.size, 0, none⟩) HSW.out).trans k0
          have l1 := (hb2.cell (p := ⟨w1.heap.size, 1, none⟩) HSW.out).trans k1
          have l2 := (hb2.cell (p := ⟨w1.heap.size, 2, none⟩) HSW.out).trans k2
          have l3 := (hb2.cell (p := ⟨w1.heap.size, 3, none⟩) HSW.out).trans k3
          have HB2 := Lib.hid (HBW.out.trans (hb2.mono HBW.out.size))
          have hlt2 : w1.heap.size < w2.heap.size := Nat.lt_of_lt_of_le HSW.out hb2.size
          clear hb2 k0 k1 k2 k3
          go_wp2_with fail
          refine (isShareOf_any _ _ _ xs (p' : Int) (q' : Int) (r' : Int) (s' : Int) _ (HR.out.below HB2.out) hc HW.out).mono ?_
          rintro e w3 ⟨rfl, hb3⟩
          rw [HSH.out]
          have m0 := (hb3.cell (p := ⟨w1.heap.size, 0, none⟩) hlt2).trans l0
          have m1 := (hb3.cell (p := ⟨w1.heap.size, 1, none⟩) hlt2).trans l1
          have m2 := (hb3.cell (p := ⟨w1.heap.size, 2, none⟩) hlt2).trans l2
          have m3 := (hb3.cell (p := ⟨w1.heap.size, 3, none⟩) hlt2).trans l3
          have HB3 := Lib.hid (HB2.out.trans (hb3.mono HB2.out.size))
          clear hb3 l0 l1 l2 l3
          go_wp2_with fail
          go_ret2
          exact ⟨_, rfl, Own.nil_ _ _, HB3.out⟩
        · refine gave_mk (xs := mutant xs p' q' r' s' k) (z := 0) (by unfold mutateWord; rw [hw, hl, ho, hk, hsh]; rfl) ?_
          have HSH := Lib.hid hsh
          clear hw ho hk hsh
          obtain rfl | rfl | rfl : k = 0 ∨ k = 1 ∨ k = 2 := by omega
          · go_enter Try.func20, Try.ntmps20
            go_wp2_with fail
            refine (implIs_any _ _ _ xs _ HR.out HWF.out hn).mono ?_
            rintro e w1 ⟨rfl, hb1⟩
            rw [HW.out]
            obtain ⟨W, hW⟩ : ∃ W, W = w1.alloc (.cells #[.int .i64 (p' : Int), .int .i64 (q' : Int), .int .i64 (r' : Int), .int .i64 (s' : Int)] 48) := ⟨_, rfl⟩
            have hbW : Below w1.heap.size w1 W := by rw [hW]; exact below_alloc _ _
            have k0 : W.cell? ⟨w1.heap.size, 0, none⟩ = some (.int .i64 (p' : Int)) := by rw [hW, World.cell?_alloc_at _ _ _ _ rfl]; rfl
            have k1 : W.cell? ⟨w1.heap.size, 1, none⟩ = some (.int .i64 (q' : Int)) := by rw [hW, World.cell?_alloc_at _ _ _ _ rfl]; rfl
            have k2 : W.cell? ⟨w1.heap.size, 2, none⟩ = some (.int .i64 (r' : Int)) := by rw [hW, World.cell?_alloc_at _ _ _ _ rfl]; rfl
            have k3 : W.cell? ⟨w1.heap.size, 3, none⟩ = some (.int .i64 (s' : Int)) := by rw [hW, World.cell?_alloc_at _ _ _ _ rfl]; rfl
            have hsW : w1.heap.size < W.heap.size := by rw [hW]; simp
            have HSW := Lib.hid hsW
            have HWE := Lib.hid hW
            have HBW := Lib.hid (hb1.trans (hbW.mono hb1.size))
            clear hW hbW hsW hb1
            go_wp2_with fail
            rw [← HWE.out]
            refine (areOf_any _ _ _ (p' : Int) (q' : Int) (r' : Int) (s' : Int) _ hn).mono ?_
            rintro e w2 ⟨rfl, hb2⟩
            rw [HO.out]
            have l0 := (hb2.cell (p := ⟨w1.heap.size, 0, none⟩) HSW.out).trans k0
            have l1 := (hb2.cell (p := ⟨w1.heap.size, 1, none⟩) HSW.out).trans k1
            have l2 := (hb2.cell (p := ⟨w1.heap.size, 2, none⟩) HSW.out).trans k2
            have l3 := (hb2.cell (p := ⟨w1.heap.size, 3, none⟩) HSW.out).trans k3
            have HB2 := Lib.hid (HBW.out.trans (hb2.mono HBW.out.size))
            have hlt2 : w1.heap.size < w2.heap.size := Nat.lt_of_lt_of_le HSW.out hb2.size
            clear hb2 k0 k1 k2 k3
            go_wp2_with fail
            refine (isShareOf_any _ _ _ xs (p' : Int) (q' : Int) (r' : Int) (s' : Int) _ (HR.out.below HB2.out) hc HW.out).mono ?_
            rintro e w3 ⟨rfl, hb3⟩
            rw [HSH.out]
            have m0 := (hb3.cell (p := ⟨w1.heap.size, 0, none⟩) hlt2).trans l0
            have m1 := (hb3.cell (p := ⟨w1.heap.size, 1, none⟩) hlt2).trans l1
            have m2 := (hb3.cell (p := ⟨w1.heap.size, 2, none⟩) hlt2).trans l2
            have m3 := (hb3.cell (p := ⟨w1.heap.size, 3, none⟩) hlt2).trans l3
            have HB3 := Lib.hid (HB2.out.trans (hb3.mono HB2.out.size))
            clear hb3 l0 l1 l2 l3
            go_wp2_with fail
            refine (mutantOf0_any _ _ _ xs p' q' r' s' _ (HR.out.below HB3.out) HWF.out hc hn12 g1 g2 g3 g4).mono ?_
            rintro e w5 ⟨v5, rfl, ho5, hb5⟩
            go_wp2_with fail
            go_ret2
            exact ⟨_, rfl, ho5.mono HB3.out.size, HB3.out.trans (hb5.mono HB3.out.size)⟩
          · go_enter Try.func20, Try.ntmps20
            go_wp2_with fail
            refine (implIs_any _ _ _ xs _ HR.out HWF.out hn).mono ?_
            rintro e w1 ⟨rfl, hb1⟩
            rw [HW.out]
            obtain ⟨W, hW⟩ : ∃ W, W = w1.alloc (.cells #[.int .i64 (p' : Int), .int .i64 (q' : Int), .int .i64 (r' : Int), .int .i64 (s' : Int)] 48) := ⟨_, rfl⟩
            have hbW : Below w1.heap.size w1 W := by rw [hW]; exact below_alloc _ _
            have k0 : W.cell? ⟨w1.heap.size, 0, none⟩ = some (.int .i64 (p' : Int)) := by rw [hW, World.cell?_alloc_at _ _ _ _ rfl]; rfl
            have k1 : W.cell? ⟨w1.heap.size, 1, none⟩ = some (.int .i64 (q' : Int)) := by rw [hW, World.cell?_alloc_at _ _ _ _ rfl]; rfl
            have k2 : W.cell? ⟨w1.heap.size, 2, none⟩ = some (.int .i64 (r' : Int)) := by rw [hW, World.cell?_alloc_at _ _ _ _ rfl]; rfl
            have k3 : W.cell? ⟨w1.heap.size, 3, none⟩ = some (.int .i64 (s' : Int)) := by rw [hW, World.cell?_alloc_at _ _ _ _ rfl]; rfl
            have hsW : w1.heap.size < W.heap.size := by rw [hW]; simp
            have HSW := Lib.hid hsW
            have HWE := Lib.hid hW
            have HBW := Lib.hid (hb1.trans (hbW.mono hb1.size))
            clear hW hbW hsW hb1
            go_wp2_with fail
            rw [← HWE.out]
            refine (areOf_any _ _ _ (p' : Int) (q' : Int) (r' : Int) (s' : Int) _ hn).mono ?_
            rintro e w2 ⟨rfl, hb2⟩
            rw [HO.out]
            have l0 := (hb2.cell (p := ⟨w1.heap.size, 0, none⟩) HSW.out).trans k0
            have l1 := (hb2.cell (p := ⟨w1.heap.size, 1, none⟩) HSW.out).trans k1
            have l2 := (hb2.cell (p := ⟨w1.heap.size, 2, none⟩) HSW.out).trans k2
            have l3 := (hb2.cell (p := ⟨w1.heap.size, 3, none⟩) HSW.out).trans k3
            have HB2 := Lib.hid (HBW.out.trans (hb2.mono HBW.out.size))
            have hlt2 : w1.heap.size < w2.heap.size := Nat.lt_of_lt_of_le HSW.out hb2.size
            clear hb2 k0 k1 k2 k3
            go_wp2_with fail
            refine (isShareOf_any _ _ _ xs (p' : Int) (q' : Int) (r' : Int) (s' : Int) _ (HR.out.below HB2.out) hc HW.out).mono ?_
            rintro e w3 ⟨rfl, hb3⟩
            rw [HSH.out]
            have m0 := (hb3.cell (p := ⟨w1.heap.size, 0, none⟩) hlt2).trans l0
            have m1 := (hb3.cell (p := ⟨w1.heap.size, 1, none⟩) hlt2).trans l1
            have m2 := (hb3.cell (p := ⟨w1.heap.size, 2, none⟩) hlt2).trans l2
            have m3 := (hb3.cell (p := ⟨w1.heap.size, 3, none⟩) hlt2).trans l3
            have HB3 := Lib.hid (HB2.out.trans (hb3.mono HB2.out.size))
            clear hb3 l0 l1 l2 l3
            go_wp2_with fail
            refine (mutantOf1_any _ _ _ xs p' q' r' s' _ (HR.out.below HB3.out) HWF.out hc hn12 g1 g2 g3 g4).mono ?_
            rintro e w5 ⟨v5, rfl, ho5, hb5⟩
            go_wp2_with fail
            go_ret2
            exact ⟨_, rfl, ho5.mono HB3.out.size, HB3.out.trans (hb5.mono HB3.out.size)⟩
          · go_enter Try.func20, Try.ntmps20
            go_wp2_with fail
            refine (implIs_any _ _ _ xs _ HR.out HWF.out hn).mono ?_
            rintro e w1 ⟨rfl, hb1⟩
            rw [HW.out]
            obtain ⟨W, hW⟩ : ∃ W, W = w1.alloc (.cells #[.int .i64 (p' : Int), .int .i64 (q' : Int), .int .i64 (r' : Int), .int .i64 (s' : Int)] 48) := ⟨_, rfl⟩
            have hbW : Below w1.heap.size w1 W := by rw [hW]; exact below_alloc _ _
            have k0 : W.cell? ⟨w1.heap.size, 0, none⟩ = some (.int .i64 (p' : Int)) := by rw [hW, World.cell?_alloc_at _ _ _ _ rfl]; rfl
            have k1 : W.cell? ⟨w1.heap.size, 1, none⟩ = some (.int .i64 (q' : Int)) := by rw [hW, World.cell?_alloc_at _ _ _ _ rfl]; rfl
            have k2 : W.cell? ⟨w1.heap.size, 2, none⟩ = some (.int .i64 (r' : Int)) := by rw [hW, World.cell?_alloc_at _ _ _ _ rfl]; rfl
            have k3 : W.cell? ⟨w1.heap.size, 3, none⟩ = some (.int .i64 (s' : Int)) := by rw [hW, World.cell?_alloc_at _ _ _ _ rfl]; rfl
            have hsW : w1.heap.size < W.heap.size := by rw [hW]; simp
            have HSW := Lib.hid hsW
            have HWE := Lib.hid hW
            have HBW := Lib.hid (hb1.trans (hbW.mono hb1.size))
            clear hW hbW hsW hb1
            go_wp2_with fail
            rw [← HWE.out]
            refine (areOf_any _ _ _ (p' : Int) (q' : Int) (r' : Int) (s' : Int) _ hn).mono ?_
            rintro e w2 ⟨rfl, hb2⟩
            rw [HO.out]
            have l0 := (hb2.cell (p := ⟨w1.heap.size, 0, none⟩) HSW.out).trans k0
            have l1 := (hb2.cell (p := ⟨w1.heap.size, 1, none⟩) HSW.out).trans k1
            have l2 := (hb2.cell (p := ⟨w1.heap.size, 2, none⟩) HSW.out).trans k2
            have l3 := (hb2.cell (p := ⟨w1.heap.size, 3, none⟩) HSW.out).trans k3
            have HB2 := Lib.hid (HBW.out.trans (hb2.mono HBW.out.size))
            have hlt2 : w1.heap.size < w2.heap.size := Nat.lt_of_lt_of_le HSW.out hb2.size
            clear hb2 k0 k1 k2 k3
            go_wp2_with fail
            refine (isShareOf_any _ _ _ xs (p' : Int) (q' : Int) (r' : Int) (s' : Int) _ (HR.out.below HB2.out) hc HW.out).mono ?_
            rintro e w3 ⟨rfl, hb3⟩
            rw [HSH.out]
            have m0 := (hb3.cell (p := ⟨w1.heap.size, 0, none⟩) hlt2).trans l0
            have m1 := (hb3.cell (p := ⟨w1.heap.size, 1, none⟩) hlt2).trans l1
            have m2 := (hb3.cell (p := ⟨w1.heap.size, 2, none⟩) hlt2).trans l2
            have m3 := (hb3.cell (p := ⟨w1.heap.size, 3, none⟩) hlt2).trans l3
            have HB3 := Lib.hid (HB2.out.trans (hb3.mono HB2.out.size))
            clear hb3 l0 l1 l2 l3
            go_wp2_with fail
            refine (mutantOf2_any _ _ _ xs p' q' r' s' _ (HR.out.below HB3.out) HWF.out hc hn12 g1 g2 g3 g4).mono ?_
            rintro e w5 ⟨v5, rfl, ho5, hb5⟩
            go_wp2_with fail
            go_ret2
            exact ⟨_, rfl, ho5.mono HB3.out.size, HB3.out.trans (hb5.mono HB3.out.size)⟩
end Go.Proofs.Ytamadlbiobcjdaa
