/- ConwayWeight: the model's and the program's contract. -/
import Derived.Test.YtinfhkcmjmglkaaCircGo
namespace Go.Proofs.Ytinfhkcmjmglkaa
open Go.RowKit
set_option linter.unusedVariables false
set_option linter.unusedSimpArgs false
set_option maxRecDepth 100000

def conwayN (xs : List Int) : Int := if circN xs (fun _ => false) = 1 then 1 else 0
theorem none_tw (m : Nat) : (fun j => (List.replicate m false)[j]?.getD false) = fun _ : Nat => false := by
  funext j
  rw [List.getElem?_replicate]
  split <;> rfl

theorem test_zero (k : Nat) : (bits BinOp.and IntKind.i64 ((0 : Int) / 2 ^ k) 1 == 0) = !(fun _ : Nat => false) k := by
  rw [Int.zero_ediv]; rfl
theorem none_any (A : Option Addr) (n c m : Nat) (w : World) (hn : n ≤ 12) (hm : m = n / 2) :
    Calls Try.prog 91 #[.slice A n c] w fun e w' => ∃ g, e = .returned (.slice (some ⟨g, 0, none⟩) m m) ∧ w'.ownsRow w.heap.size 4 1 (.slice (some ⟨g, 0, none⟩) m m) m (bools (List.replicate m false)) ∧ Below w.heap.size w w' := by
  have hq : (n : Int) / 2 = (m : Int) := by omega
  have hm6 : m ≤ 6 := by omega
  have HQ := Lib.hid hq
  clear hq hm
  obtain ⟨j0, hj, hy0, hy1, hy2⟩ := info_parts info_bool
  go_enter Try.func91, Try.ntmps91
  go_wp2_with (at_make; rw [HQ.out]; refine wpList_make_full _ rfl _ _ 64 rfl w.heap.size 4 j0 (.bool false) 1 Try.underlying64 hj hy0 hy1 _ _ _ _ m rfl rfl rfl rfl (by rw [hy2]; omega) (by unfold maxLen; omega) (by omega) ?_; intro w1 hown1 hg1)
  rw [made_false] at hown1
  have hb1 : Below w.heap.size w w1 := (Below.refl _ _).grown hg1 (Nat.le_refl _) (by simp)
  go_ret
  exact ⟨_, rfl, hown1, hb1⟩
set_option maxHeartbeats 1600000 in
theorem weight3_any (A : Option Addr) (n c : Nat) (xs : List Int) (w : World) (hr : Rd w A n xs) (hw : isWord xs = true) :
    Calls Try.prog 96 #[.slice A n c, .int .i64 3] w fun e w' => ∃ B m d, e = .returned (.slice B m d) ∧ Hid ((m : Int) = conwayN xs) ∧ m ≤ 1 ∧ Below w.heap.size w w' := by
  have hl := hr.len
  have hn : n ≤ 12 := by have := isWord_len hw; omega
  obtain ⟨m, hm⟩ : ∃ m, m = n / 2 := ⟨_, rfl⟩
  have HR := Lib.hid hr
  have HW := Lib.hid hw
  have HM := Lib.hid hm
  obtain ⟨z, hz⟩ : ∃ z, z = circN xs (fun _ => false) := ⟨_, rfl⟩
  have HZ := Lib.hid hz
  have hsh : (n : Int) / 2 ≤ 6 := by omega
  clear hr hl hw hm hz
  go_enter Try.func96, Try.ntmps96
  go_wp2_with fail
  obtain ⟨W, hW⟩ : ∃ W, W = w.alloc (.cells #[] 2) := ⟨_, rfl⟩
  have HWB : Hid (Below w.heap.size w W) := Lib.hid (by rw [hW]; exact below_alloc _ _)
  rw [← hW]
  clear hW
  refine (none_any A n c m _ hn HM.out).mono ?_
  rintro e w1 ⟨g, rfl, hown1, hb1⟩
  have HB1 : Hid (Below w.heap.size w w1) := Lib.hid (HWB.out.trans (hb1.mono HWB.out.size))
  have HS := Lib.hid (rdBo_own hown1 (by simp))
  clear hown1 hb1
  go_wp2_with fail
  refine (specCirc_any A n c xs _ _ _ (List.replicate m false) _ (HR.out.below HB1.out) HW.out HS.out HM.out).mono ?_
  rw [none_tw m, ← HZ.out]
  rintro e w2 ⟨rfl, hb2⟩
  have HB2 : Hid (Below w.heap.size w w2) := Lib.hid (HB1.out.trans (hb2.mono HB1.out.size))
  clear hb2
  by_cases h1 : z = 1
  · subst h1
    have HC : Hid (((1 : Nat) : Int) = conwayN xs) := Lib.hid (by unfold conwayN; rw [← HZ.out, if_pos rfl]; rfl)
    go_wp2_with fail
    go_ret
    exact ⟨_, _, _, rfl, HC, Nat.le_refl _, HB2.out.trans ((below_alloc _ _).mono HB2.out.size)⟩
  · have e1 : (z == 1) = false := by rw [beq_eq_false_iff_ne]; exact h1
    have HC : Hid (((0 : Nat) : Int) = conwayN xs) := Lib.hid (by unfold conwayN; rw [← HZ.out, if_neg h1]; rfl)
    clear h1
    go_wp2_with fail
    go_ret
    exact ⟨_, _, _, rfl, HC, by omega, HB2.out⟩
set_option maxHeartbeats 800000 in
theorem specConwayWeight_any (A : Option Addr) (n c : Nat) (xs : List Int) (w : World) (hr : Rd w A n xs) (hwf : Wf xs) (hn : n ≤ 1048576) (hc : n ≤ c) :
    Told 31 #[.slice A n c] w (.tuple #[.int .i64 (wordVal conwayN xs).1, .int .i64 (wordVal conwayN xs).2]) := by
  have HR := Lib.hid hr
  clear hr hwf
  rcases hw : isWord xs with _ | _
  · refine told_mk (v' := .tuple #[.int .i64 0, .int .i64 1]) (by rw [wordVal_no hw]) ?_
    have HW := Lib.hid hw
    clear hw
    go_enter Try.func31, Try.ntmps31
    go_wp2_with fail
    refine (specIs_any _ _ _ xs _ HR.out hn).mono ?_
    rintro e w1 ⟨rfl, hb1⟩
    rw [HW.out]
    go_wp2_with fail
    go_ret2
    exact ⟨rfl, hb1⟩
  · refine told_mk (v' := .tuple #[.int .i64 (conwayN xs), .int .i64 0]) (by rw [wordVal_yes hw]) ?_
    have HW := Lib.hid hw
    clear hw
    go_enter Try.func31, Try.ntmps31
    go_wp2_with fail
    refine (specIs_any _ _ _ xs _ HR.out hn).mono ?_
    rintro e w1 ⟨rfl, hb1⟩
    rw [HW.out]
    go_wp2_with fail
    refine (weight3_any _ _ _ xs _ (HR.out.below hb1) HW.out).mono ?_
    rintro e w2 ⟨B, m, d, rfl, hm, hm1, hb2⟩
    go_wp2_with fail
    go_ret2
    exact ⟨by rw [← hm.out]; rfl, hb1.trans (hb2.mono hb1.size)⟩
theorem conwayNumber_any (A : Option Addr) (n c : Nat) (xs : List Int) (w : World) (hr : Rd w A n xs) (hc : n ≤ c) (hw : isWord xs = true) :
    Calls Try.prog 98 #[.slice A n c] w fun e w' => e = .returned (.int .i64 (conwayN xs)) ∧ Below w.heap.size w w' := by
  have HR := Lib.hid hr
  have HW := Lib.hid hw
  obtain ⟨z, hz⟩ : ∃ z, z = circN xs (fun _ => false) := ⟨_, rfl⟩
  have HZ := Lib.hid hz
  clear hr hw hz
  go_enter Try.func98, Try.ntmps98
  go_wp2_with fail
  refine (circles_any A n c xs 0 (fun _ => false) _ HR.out hc HW.out (fun k _ => test_zero k)).mono ?_
  rw [← HZ.out]
  rintro e w1 ⟨rfl, hb1⟩
  by_cases h1 : z = 1
  · subst h1
    have HC : Hid (conwayN xs = 1) := Lib.hid (by unfold conwayN; rw [← HZ.out, if_pos rfl])
    go_wp2_with fail
    go_ret
    exact ⟨by rw [HC.out]; rfl, hb1⟩
  · have e1 : (z == 1) = false := by rw [beq_eq_false_iff_ne]; exact h1
    have HC : Hid (conwayN xs = 0) := Lib.hid (by unfold conwayN; rw [← HZ.out, if_neg h1])
    clear h1
    go_wp2_with fail
    go_ret
    exact ⟨by rw [HC.out]; rfl, hb1⟩
set_option maxHeartbeats 800000 in
theorem implConwayWeight_any (A : Option Addr) (n c : Nat) (xs : List Int) (w : World) (hr : Rd w A n xs) (hwf : Wf xs) (hn : n ≤ 1048576) (hc : n ≤ c) :
    Told 32 #[.slice A n c] w (.tuple #[.int .i64 (wordVal conwayN xs).1, .int .i64 (wordVal conwayN xs).2]) := by
  have HR := Lib.hid hr
  have HWF := Lib.hid hwf
  clear hr hwf
  rcases hw : isWord xs with _ | _
  · refine told_mk (v' := .tuple #[.int .i64 0, .int .i64 1]) (by rw [wordVal_no hw]) ?_
    have HW := Lib.hid hw
    clear hw
    go_enter Try.func32, Try.ntmps32
    go_wp2_with fail
    refine (implIs_any _ _ _ xs _ HR.out HWF.out hn).mono ?_
    rintro e w1 ⟨rfl, hb1⟩
    rw [HW.out]
    go_wp2_with fail
    go_ret2
    exact ⟨rfl, hb1⟩
  · refine told_mk (v' := .tuple #[.int .i64 (conwayN xs), .int .i64 0]) (by rw [wordVal_yes hw]) ?_
    have HW := Lib.hid hw
    clear hw
    go_enter Try.func32, Try.ntmps32
    go_wp2_with fail
    refine (implIs_any _ _ _ xs _ HR.out HWF.out hn).mono ?_
    rintro e w1 ⟨rfl, hb1⟩
    rw [HW.out]
    go_wp2_with fail
    refine (conwayNumber_any _ _ _ xs _ (HR.out.below hb1) hc HW.out).mono ?_
    rintro e w2 ⟨rfl, hb2⟩
    go_wp2_with fail
    go_ret2
    exact ⟨rfl, hb1.trans (hb2.mono hb1.size)⟩
end Go.Proofs.Ytinfhkcmjmglkaa
