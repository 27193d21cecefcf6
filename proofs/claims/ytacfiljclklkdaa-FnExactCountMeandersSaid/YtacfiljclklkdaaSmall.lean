/- The contracts of the small functions: ranges, codes, slices.Index, places of chords. -/
import Derived.Test.YtacfiljclklkdaaIsWord
import Derived.Test.YtacfiljclklkdaaPure3
import Derived.Test.YtacfiljclklkdaaSeg
namespace Go.Proofs.Ytacfiljclklkdaa
open Go.RowKit
set_option linter.unusedVariables false
set_option linter.unusedSimpArgs false
set_option maxRecDepth 100000

theorem inB_true {a b c : Int} : inB a b c = true ↔ b ≤ a ∧ a ≤ c := by simp [inB]
theorem inB_false {a b c : Int} : inB a b c = false ↔ ¬ (b ≤ a ∧ a ≤ c) := by
  rw [← inB_true]; simp
def codeOf (xs : List Int) (k most : Int) : Int := if isWord xs then (if inB k 0 most then 0 else 2) else 1

theorem code_cases (xs : List Int) (k most : Int) : (isWord xs = false ∧ codeOf xs k most = 1) ∨ (isWord xs = true ∧ inB k 0 most = false ∧ codeOf xs k most = 2) ∨ (isWord xs = true ∧ inB k 0 most = true ∧ codeOf xs k most = 0) := by
  unfold codeOf
  cases isWord xs <;> cases inB k 0 most <;> simp

theorem in_any (a b c : Int) (w : World) : Calls Try.prog 56 #[.int .i64 a, .int .i64 b, .int .i64 c] w fun e w' => e = .returned (.bool (inB a b c)) ∧ w = w' := by
  by_cases h1 : b ≤ a
  · by_cases h2 : a ≤ c
    · have H := Lib.hid (inB_true.2 ⟨h1, h2⟩)
      go_enter Try.func56, Try.ntmps56
      go_wp2
      go_ret
      exact ⟨ret_bool H.out.symm, rfl⟩
    · have H : Hid (inB a b c = false) := Lib.hid (inB_false.2 (fun h => h2 h.2))
      go_enter Try.func56, Try.ntmps56
      go_wp2
      go_ret
      exact ⟨ret_bool (by rw [H.out]), rfl⟩
  · have H : Hid (inB a b c = false) := Lib.hid (inB_false.2 (fun h => h1 h.1))
    go_enter Try.func56, Try.ntmps56
    go_wp2
    go_ret
    exact ⟨ret_bool H.out.symm, rfl⟩

theorem chordsOf_any (A : Option Addr) (n c : Nat) (w : World) (hn : n ≤ 1048576) : Calls Try.prog 85 #[.slice A n c] w fun e w' => e = .returned (.int .i64 ((n : Int) / 2)) ∧ w = w' := by
  go_enter Try.func85, Try.ntmps85
  go_wp2
  go_ret
  exact ⟨rfl, rfl⟩
theorem isChord_any (A : Option Addr) (n c : Nat) (k : Int) (w : World) (hn : n ≤ 1048576) : Calls Try.prog 49 #[.slice A n c, .int .i64 k] w fun e w' => e = .returned (.bool (inB k 0 ((n : Int) / 2 - 1))) ∧ w = w' := by
  by_cases h1 : 0 ≤ k
  · by_cases h2 : k ≤ (n : Int) / 2 - 1
    · have H := Lib.hid (inB_true.2 ⟨h1, h2⟩)
      have h3 : k < (n : Int) / 2 := by omega
      go_enter Try.func49, Try.ntmps49
      go_wp2_with (go_at_call 85; refine (chordsOf_any _ _ _ _ hn).mono ?_; rintro e w2 ⟨rfl, rfl⟩)
      go_ret
      exact ⟨ret_bool (by rw [H.out]), rfl⟩
    · have H : Hid (inB k 0 ((n : Int) / 2 - 1) = false) := Lib.hid (inB_false.2 (fun h => h2 h.2))
      have h3 : ¬ k < (n : Int) / 2 := by omega
      go_enter Try.func49, Try.ntmps49
      go_wp2_with (go_at_call 85; refine (chordsOf_any _ _ _ _ hn).mono ?_; rintro e w2 ⟨rfl, rfl⟩)
      go_ret
      exact ⟨ret_bool (by rw [H.out]; simp; omega), rfl⟩
  · have H : Hid (inB k 0 ((n : Int) / 2 - 1) = false) := Lib.hid (inB_false.2 (fun h => h1 h.1))
    go_enter Try.func49, Try.ntmps49
    go_wp2
    go_ret
    exact ⟨ret_bool H.out.symm, rfl⟩

set_option maxHeartbeats 800000 in
theorem index_any (A : Option Addr) (n c : Nat) (xs : List Int) (y : Int) (w : World) (hr : Rd w A n xs) (hn : n ≤ 1048576) :
    Calls Try.prog 86 #[.slice A n c, .int .i64 y] w fun e w' => e = .returned (.int .i64 (firstAt xs y)) ∧ Below w.heap.size w w' := by
  have HR := Lib.hid hr
  have HL := Lib.hid hr.len
  clear hr
  go_enter Try.func86, Try.ntmps86
  go_wp2
  go_loopw [8] (fun i wr => ∃ k : Nat, k ≤ n ∧ i = .int .i64 k ∧ Hid (y ∉ xs.take k) ∧ ∃ q, wr = w.drewN q) (fun i _ => n - (intOf i).toNat)
  case atStart => exact ⟨0, by omega, rfl, Lib.hid (by simp), 0, rfl⟩
  case round =>
    obtain ⟨k, hk, rfl, ht, q, rfl⟩ := hrel
    by_cases hlt : k < n
    · obtain ⟨a, rfl, ha, hc⟩ := HR.out.at_ hlt
      have hstep := firstAt_step xs y k (by rw [HL.out]; omega) ht.out
      by_cases he : y = xs[k]?.getD 0
      · have HT := Lib.hid (hstep.1 he)
        have e1 : (y == xs[k]?.getD 0) = true := by simpa using he
        clear he hstep
        go_wp2
        go_ret
        exact ⟨ret_int (by rw [HT.out]), below_drewN (Below.refl _ _) _⟩
      · have HT := Lib.hid (hstep.2 he)
        have e1 : (y == xs[k]?.getD 0) = false := by simpa using he
        clear he hstep
        go_wp2
        go_roundw
        case rel => exact ⟨k + 1, by omega, by go_num, HT, _, rfl⟩
        case measure => simp [intOf]; omega
    · have hkn : n ≤ k := by omega
      have hf : firstAt xs y = -1 := by
        have h := ht.out
        rw [List.take_of_length_le (by rw [HL.out]; omega)] at h
        unfold firstAt; rw [if_neg h]
      have HF := Lib.hid hf
      clear hf
      go_wp2
      go_ret
      exact ⟨ret_int HF.out.symm, below_drewN (Below.refl _ _) _⟩
end Go.Proofs.Ytacfiljclklkdaa
