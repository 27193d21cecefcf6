/- DeleteChord: the program's and the model's contract. -/
import Derived.Test.YtinfhkcmjmglkaaKeep
namespace Go.Proofs.Ytinfhkcmjmglkaa
open Go.RowKit
set_option linter.unusedVariables false
set_option linter.unusedSimpArgs false
set_option maxRecDepth 100000

def without (xs : List Int) (i : Int) : List Int := norm (xs.filter fun x => x != i)
theorem without_len (xs : List Int) (i : Int) : (without xs i).length ≤ xs.length := by
  unfold without; rw [norm_length]; exact List.length_filter_le _ _
def deleteChord (xs : List Int) (i : Int) : List Int × Int :=
  if codeOf xs i ((xs.length : Int) / 2 - 1) = 0 then (without xs i, 0) else ([], codeOf xs i ((xs.length : Int) / 2 - 1))
theorem deleteChord_len (xs : List Int) (i : Int) (h : xs.length ≤ 1048576) : (deleteChord xs i).1.length ≤ 1048576 := by
  unfold deleteChord; split
  · have := without_len xs i; simp; omega
  · simp

theorem specDeleteChord_any (A : Option Addr) (n c : Nat) (xs : List Int) (i : Int) (w : World) (hr : Rd w A n xs) (hwf : Wf xs) (hn : n ≤ 1048576) (hc : n ≤ c) (hi : -9223372036854775808 ≤ i ∧ i ≤ 9223372036854775807) :
    Gave 52 #[.slice A n c, .int .i64 i] w (deleteChord xs i) := by
  have HR := Lib.hid hr
  have hl := hr.len
  have HC : ∀ z, codeOf xs i ((xs.length : Int) / 2 - 1) = z → Hid (codeOf xs i ((n : Int) / 2 - 1) = z) := fun z h => by rw [hl] at h; exact h
  clear hr
  rcases code_cases xs i ((xs.length : Int) / 2 - 1) with ⟨h1, h2⟩ | ⟨h1, h1', h2⟩ | ⟨h1, h1', h2⟩
  · refine gave_mk (xs := []) (z := 1) (by unfold deleteChord; rw [h2]; rfl) ?_
    have H2 := HC _ h2
    clear h1 h2 hl HC
    go_enter Try.func52, Try.ntmps52
    go_wp2_with fail
    refine (code_any _ _ _ xs _ _ _ HR.out hn).mono ?_
    rintro e w1 ⟨rfl, hb1⟩
    rw [H2.out]
    go_wp2_with fail
    go_ret2
    exact ⟨_, rfl, Own.nil_ _ _, hb1⟩
  · refine gave_mk (xs := []) (z := 2) (by unfold deleteChord; rw [h2]; rfl) ?_
    have H2 := HC _ h2
    clear h1 h1' h2 hl HC
    go_enter Try.func52, Try.ntmps52
    go_wp2_with fail
    refine (code_any _ _ _ xs _ _ _ HR.out hn).mono ?_
    rintro e w1 ⟨rfl, hb1⟩
    rw [H2.out]
    go_wp2_with fail
    go_ret2
    exact ⟨_, rfl, Own.nil_ _ _, hb1⟩
  · refine gave_mk (xs := without xs i) (z := 0) (by unfold deleteChord; rw [h2]; rfl) ?_
    have H2 := HC _ h2
    clear h1 h1' h2 hl HC
    go_enter Try.func52, Try.ntmps52
    go_wp2_with fail
    refine (code_any _ _ _ xs _ _ _ HR.out hn).mono ?_
    rintro e w1 ⟨rfl, hb1⟩
    rw [H2.out]
    go_wp2_with fail
    refine (specDelete_any _ _ _ xs i _ (HR.out.below hb1) hn).mono ?_
    rintro e w2 ⟨v2, rfl, ho2, hb2⟩
    go_wp2_with fail
    go_ret2
    exact ⟨_, rfl, ho2.mono hb1.size, hb1.trans (hb2.mono hb1.size)⟩

theorem delClosure_any (x i : Int) (b : Nat) (w : World) (hc : w.cell? ⟨b, 0, none⟩ = some (.int .i64 i)) :
    Calls Try.prog 157 #[.int .i64 x, .pointer (some ⟨b, 0, none⟩)] w fun e w' => e = .returned (.bool (x != i)) ∧ Below w.heap.size w w' := by
  go_enter Try.func157, Try.ntmps157
  go_wp2
  go_ret
  exact ⟨rfl, Below.refl _ _⟩
theorem wordWithout_any (A : Option Addr) (n c : Nat) (xs : List Int) (i : Int) (w : World) (hr : Rd w A n xs) (hwf : Wf xs) (hn : n ≤ 1048576) :
    Calls Try.prog 108 #[.slice A n c, .int .i64 i] w fun e w' => ∃ v, e = .returned v ∧ Own w' w.heap.size v (without xs i) ∧ Below w.heap.size w w' := by
  have hbw := below_alloc w (.cells #[.int .i64 i] 2)
  have HR := Lib.hid (hr.below hbw)
  have HW := Lib.hid hwf
  have HB := Lib.hid hbw
  have hci : (w.alloc (.cells #[.int .i64 i] 2)).cell? ⟨w.heap.size, 0, none⟩ = some (.int .i64 i) := by
    rw [World.cell?_alloc_at _ _ _ _ rfl]; rfl
  have HCI := Lib.hid hci
  have hmf : ∀ (fn : Fn) (first cap : Array Value) (w : World), (Instr.makeFunc fn first cap).run Try.prog w = .ok (.func fn first cap) w := fun _ _ _ _ => rfl
  clear hr hwf hbw hci
  go_enter Try.func108, Try.ntmps108
  go_wp2_with fail
  refine (keepDel_any _ (fun x => x != i) _ _ _ xs _ HR.out HW.out hn (fun w' hw' x _ => delClosure_any x i w.heap.size w' ((hw'.cell (p := ⟨w.heap.size, 0, none⟩) (by simp)).trans HCI.out))).mono ?_
  rintro e w3 ⟨v3, rfl, ho3, hb3⟩
  go_wp2_with fail
  go_ret
  exact ⟨_, rfl, ho3.mono HB.out.size, HB.out.trans (hb3.mono HB.out.size)⟩

set_option maxHeartbeats 800000 in
theorem implDeleteChord_any (A : Option Addr) (n c : Nat) (xs : List Int) (i : Int) (w : World) (hr : Rd w A n xs) (hwf : Wf xs) (hn : n ≤ 1048576) (hc : n ≤ c) (hi : -9223372036854775808 ≤ i ∧ i ≤ 9223372036854775807) :
    Gave 38 #[.slice A n c, .int .i64 i] w (deleteChord xs i) := by
  have HR := Lib.hid hr
  have HW := Lib.hid hwf
  have hl := hr.len
  clear hr hwf
  rcases code_cases xs i ((xs.length : Int) / 2 - 1) with ⟨h1, h2⟩ | ⟨h1, h1', h2⟩ | ⟨h1, h1', h2⟩
  · refine gave_mk (xs := []) (z := 1) (by unfold deleteChord; rw [h2]; rfl) ?_
    have H1 := Lib.hid h1
    clear h1 h2 hl
    go_enter Try.func38, Try.ntmps38
    go_wp2_with fail
    refine (implIs_any _ _ _ xs _ HR.out HW.out hn).mono ?_
    rintro e w1 ⟨rfl, hb1⟩
    rw [H1.out]
    go_wp2_with fail
    go_ret2
    exact ⟨_, rfl, Own.nil_ _ _, hb1⟩
  · refine gave_mk (xs := []) (z := 2) (by unfold deleteChord; rw [h2]; rfl) ?_
    have H1 := Lib.hid h1
    rw [hl] at h1'
    have H2 := Lib.hid h1'
    clear h1 h1' h2 hl
    go_enter Try.func38, Try.ntmps38
    go_wp2_with fail
    refine (implIs_any _ _ _ xs _ HR.out HW.out hn).mono ?_
    rintro e w1 ⟨rfl, hb1⟩
    rw [H1.out]
    go_wp2_with fail
    refine (isChord_any _ _ _ i _ hn).mono ?_
    rintro e w2 ⟨rfl, rfl⟩
    rw [H2.out]
    go_wp2_with fail
    go_ret2
    exact ⟨_, rfl, Own.nil_ _ _, hb1⟩
  · refine gave_mk (xs := without xs i) (z := 0) (by unfold deleteChord; rw [h2]; rfl) ?_
    have H1 := Lib.hid h1
    rw [hl] at h1'
    have H2 := Lib.hid h1'
    clear h1 h1' h2 hl
    go_enter Try.func38, Try.ntmps38
    go_wp2_with fail
    refine (implIs_any _ _ _ xs _ HR.out HW.out hn).mono ?_
    rintro e w1 ⟨rfl, hb1⟩
    rw [H1.out]
    go_wp2_with fail
    refine (isChord_any _ _ _ i _ hn).mono ?_
    rintro e w2 ⟨rfl, rfl⟩
    rw [H2.out]
    go_wp2_with fail
    refine (wordWithout_any _ _ _ xs i _ (HR.out.below hb1) HW.out hn).mono ?_
    rintro e w3 ⟨v3, rfl, ho3, hb3⟩
    go_wp2_with fail
    go_ret2
    exact ⟨_, rfl, ho3.mono hb1.size, hb1.trans (hb3.mono hb1.size)⟩
end Go.Proofs.Ytinfhkcmjmglkaa
