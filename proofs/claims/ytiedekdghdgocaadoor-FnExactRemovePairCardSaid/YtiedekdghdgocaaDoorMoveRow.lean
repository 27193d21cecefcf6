/- What the laid variable gives a row: errors.errorType, a type's handle. -/
import Derived.Test.YtiedekdghdgocaaDoorRow
import Derived.Test.YtiedekdghdgocaaDoorSeg
import Derived.Test.YtiedekdghdgocaaDoorRows
import Derived.Test.YtiedekdghdgocaaDoorTie
import Derived.Test.YtiedekdghdgocaaDoorCards
import Derived.LaidHandle
import Derived.Stop.Joined
import Derived.LaidMore
import Derived.LaidLaws
import Derived.JoinedOf
import Derived.ChangeVars
import Derived.RowKitTokens
namespace Go.Proofs.YtiedekdghdgocaaDoor
open Go.ChangeShapes Go.WideShapes Go.ChangeAt Go.RowKit
set_option linter.unusedVariables false
set_option maxRecDepth 100000

def typName : String := "errors.errorType"
def typLaid : List (String × DataW Unit) := [(typName, Rows.laid_errors_errorType)]
theorem typG : Tryd.prog.globalNamed typName = some 0 := by kernel_rfl
theorem typR : (Tryd.prog.cutTypes.find? (·.1 == "internal/reflectlite.rtype")).map (·.2) = some 100 := by kernel_rfl
theorem typOne : ((List.range Tryd.prog.types.size).filter fun t => Tryd.prog.rowNamed t [101, 114, 114, 111, 114]) = [55] := by kernel_rfl
/-- what the condition gives a walk: the variable's one cell -/
theorem handle_of_laid {W : World} (h : laidMetH Tryd.prog typLaid W) : W.cell? ⟨0, 0, none⟩ = some (.iface 100 (.agg #[.pointer (some ⟨1, 55, none⟩)])) := by
  have h' : laidMet Tryd.prog [] W ∧ handlesMet Tryd.prog typLaid W := h
  obtain ⟨name, u, ty, e1, e2, e3, e4, e5⟩ := h'.2 _ (List.mem_singleton.2 rfl)
  have en : name = [101, 114, 114, 111, 114] := (Option.some.inj e1).symm
  subst en
  obtain rfl := Option.some.inj (typR.symm.trans e2)
  have hm : ty ∈ (List.range Tryd.prog.types.size).filter fun t => Tryd.prog.rowNamed t [101, 114, 114, 111, 114] := List.mem_filter.2 ⟨List.mem_range.2 e3, e4⟩
  rw [typOne] at hm
  obtain rfl := List.mem_singleton.1 hm
  have hh : typeHandle Tryd.prog 55 = .pointer (some ⟨1, 55, none⟩) := by kernel_rfl
  rw [hh] at e5
  simpa using World.var?_cell typG e5 0
theorem typ_met (os : Os) (args : Array Value) : laidMetH Tryd.prog typLaid ((World.doorLaid Tryd.prog 200 os).forCall (fun _ _ => 0) ⟨#[], args, []⟩).memory :=
  laidMetH_of_parts (laidMet_nil _ _) (by kernel_rfl)
theorem glob_kept {w w' : World} {lo hi : Nat} {v : Value} (h : w.cell? ⟨0, 0, none⟩ = some v) (hf : Fr lo hi w w') (h0 : 0 < w.heap.size) (hd : 0 < lo ∨ hi ≤ 0) : w'.cell? ⟨0, 0, none⟩ = some v := by
  rw [← h]
  unfold World.cell?
  rw [hf.block 0 h0 hd]
theorem heap_pos {w : World} {v : Value} (h : w.cell? ⟨0, 0, none⟩ = some v) : 0 < w.heap.size := by
  rcases Nat.eq_zero_or_pos w.heap.size with h0 | h1
  · have : w.heap[0]? = none := by simp [h0]
    simp [World.cell?, this] at h
  · exact h1
end Go.Proofs.YtiedekdghdgocaaDoor
