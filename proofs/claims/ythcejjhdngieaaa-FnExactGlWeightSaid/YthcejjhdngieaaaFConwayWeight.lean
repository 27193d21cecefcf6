/- ConwayWeight: the model's and the program's contract. -/
import Derived.Test.YthcejjhdngieaaaCircGo
namespace Go.Proofs.Ythcejjhdngieaaa
open Go.RowKit
set_option linter.unusedVariables false
set_option linter.unusedSimpArgs false
set_option maxRecDepth 100000

def conwayN (xs : List Int) : Int := if circN xs (fun _ => false) = 1 then 1 else 0
theorem none_tw (m : Nat) : (fun j => (List.replicate m false)[j]?.getD false) = fun _ : Nat => false := by
  funext j
  rw [List.getElem?_replicate]
  split <;> rfl

theorem test_zero (k : Nat) : (bits BinOp.and IntKind.i64 ((0 : Int) / 2 ^ k) 1 == 0) = !(fun _ : Nat => false) k := by
  rw [Int.zero_ediv]; rfl
theorem none_any (A : Option Addr) (n c m : Nat) (w : World) (hn : n ≤ 12) (hm : m = n / 2) :
    Calls Try.prog 83 #[.slice A n c] w fun e w' => ∃ g, e = .returned (.slice (some ⟨g, 0, none⟩) m m) ∧ w'.ownsRow w.heap.size 4 1 (.slice (some ⟨g, 0, none⟩) m m) m (bools (List.replicate m false)) ∧ Below w.heap.size w w' := by
  have hq : (n : Int) / 2 = (m : Int) := by omega
  have hm6 : m ≤ 6 := by omega
  have HQ := Lib.hid hq
  clear hq hm
  obtain ⟨j0, hj, hy0, hy1, hy2⟩ := info_parts info_bool
  go_enter Try.func83, Try.ntmps83
  go_wp2_with (at_make; rw [HQ.out]; refine wpList_make_full _ rfl _ _ 60 rfl w.heap.size 4 j0 (.bool false) 1 Try.underlying60 hj hy0 hy1 _ _ _ _ m rfl rfl rfl rfl (by rw [hy2]; omega) (by unfold maxLen; omega) (by omega) ?_; intro w1 hown1 hg1)
  rw [made_false] at hown1
  have hb1 : Below w.heap.size w w1 := (Below.refl _ _).grown hg1 (Nat.le_refl _) (by simp)
  go_ret
  exact ⟨_, rfl, hown1, hb1⟩
end Go.Proofs.Ythcejjhdngieaaa
