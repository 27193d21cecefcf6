/- The codes of two words of equally many chords. -/
import Derived.Test.YtacfiljclklkdaaCurv
import Derived.Test.YtacfiljclklkdaaPlain
namespace Go.Proofs.Ytacfiljclklkdaa
open Go.RowKit
set_option linter.unusedVariables false
set_option linter.unusedSimpArgs false
set_option maxRecDepth 100000


theorem oth_list {xs : List Int} (hw : isWord xs = true) (n : Nat) (hn : n = xs.length) : ∀ k, k < n → (othTo xs n (n / 2)).getD k 0 = (oth xs k : Int) ∧ oth xs k < n := fun k hk => by
  refine ⟨?_, by have := (oth_int hw (k := k) (by omega)).2; omega⟩
  rw [List.getD, othTo_all hw n k hn hk]; rfl
theorem curvesTwo_any (A : Option Addr) (n c : Nat) (xs ys : List Int) (B : Option Addr) (d : Nat) (w : World) (hw : isWord xs = true) (hv : isWord ys = true) (hl : xs.length = n) (hl2 : ys.length = n) (hr : Rd w A n (othTo xs n (n / 2))) (hs : Rd w B n (othTo ys n (n / 2))) :
    Calls Try.prog 79 #[.slice A n c, .slice B n d] w fun e w' => e = .returned (.int .i64 (curves xs ys)) ∧ Below w.heap.size w w' := by
  have h := curvesOf_any A n c _ B d _ (oth xs) (oth ys) w hr hs (by have := isWord_len hw; omega) (oth_list hw n hl.symm) (oth_list hv n hl2.symm)
  unfold curves
  rw [hl]
  exact h
end Go.Proofs.Ytacfiljclklkdaa
