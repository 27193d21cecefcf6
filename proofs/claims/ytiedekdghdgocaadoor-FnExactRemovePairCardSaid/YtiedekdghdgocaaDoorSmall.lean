/- The contracts of the small functions: ranges, codes, slices.Index, places of chords. -/
import Derived.Test.YtiedekdghdgocaaDoorIsWord
import Derived.Test.YtiedekdghdgocaaDoorPure3
import Derived.Test.YtiedekdghdgocaaDoorSeg
namespace Go.Proofs.YtiedekdghdgocaaDoor
open Go.RowKit
set_option linter.unusedVariables false
set_option linter.unusedSimpArgs false
set_option maxRecDepth 100000

theorem inB_true {a b c : Int} : inB a b c = true ↔ b ≤ a ∧ a ≤ c := by simp [inB]
theorem inB_false {a b c : Int} : inB a b c = false ↔ ¬ (b ≤ a ∧ a ≤ c) := by
  rw [← inB_true]; simp
def codeOf (xs : List Int) (k most : Int) : Int := if isWord xs then (if inB k 0 most then 0 else 2) else 1

theorem code_cases (xs : List Int) (k most : Int) : (isWord xs = false ∧ codeOf xs k most = 1) ∨ (isWord xs = true ∧ inB k 0 most = false ∧ codeOf xs k most = 2) ∨ (isWord xs = true ∧ inB k 0 most = true ∧ codeOf xs k most = 0) := by
  unfold codeOf
  cases isWord xs <;> cases inB k 0 most <;> simp

theorem in_any (a b c : Int) (w : World) : Calls Tryd.prog 16 #[.int .i64 a, .int .i64 b, .int .i64 c] w fun e w' => e = .returned (.bool (inB a b c)) ∧ w = w' := by
  by_cases h1 : b ≤ a
  · by_cases h2 : a ≤ c
    · have H := Lib.hid (inB_true.2 ⟨h1, h2⟩)
      go_enter Tryd.func16, Tryd.ntmps16
      go_wp2
      go_ret
      exact ⟨ret_bool H.out.symm, rfl⟩
    · have H : Hid (inB a b c = false) := Lib.hid (inB_false.2 (fun h => h2 h.2))
      go_enter Tryd.func16, Tryd.ntmps16
      go_wp2
      go_ret
      exact ⟨ret_bool (by rw [H.out]), rfl⟩
  · have H : Hid (inB a b c = false) := Lib.hid (inB_false.2 (fun h => h1 h.1))
    go_enter Tryd.func16, Tryd.ntmps16
    go_wp2
    go_ret
    exact ⟨ret_bool H.out.symm, rfl⟩

theorem chordsOf_any (A : Option Addr) (n c : Nat) (w : World) (hn : n ≤ 1048576) : Calls Tryd.prog 55 #[.slice A n c] w fun e w' => e = .returned (.int .i64 ((n : Int) / 2)) ∧ w = w' := by
  go_enter Tryd.func55, Tryd.ntmps55
  go_wp2
  go_ret
  exact ⟨rfl, rfl⟩
end Go.Proofs.YtiedekdghdgocaaDoor
