/- What the laid variable gives a row: the sentinel errNoWeb. -/
import Derived.Test.YthpddknpiiiccaaDoorRow
import Derived.Test.YthpddknpiiiccaaDoorSeg
import Derived.Test.YthpddknpiiiccaaDoorRows
import Derived.Test.YthpddknpiiiccaaDoorTie
import Derived.Test.YthpddknpiiiccaaDoorCards
import Derived.Stop.Joined
import Derived.Stop.LaidErr
import Derived.LaidMore
import Derived.LaidLaws
import Derived.JoinedOf
import Derived.ChangeVars
import Derived.RowKitTokens
namespace Go.Proofs.YthpddknpiiiccaaDoor
open Go.ChangeShapes Go.WideShapes Go.ChangeAt Go.RowKit
set_option linter.unusedVariables false
set_option maxRecDepth 100000

def errName : String := "loop.example/g01303/impl.errNoWeb"
def errLaid : List (String × DataW Unit) := [(errName, Rows.laid_loop_example_g01303_impl_errNoWeb)]
theorem errG : Tryd.prog.globalNamed errName = some 0 := by kernel_rfl
theorem errT : (Tryd.prog.globals[0]?).map (·.type) = some 73 := by kernel_rfl
theorem errStar : "*" ++ "errors.errorString" = "*errors.errorString" := by decide
theorem errRow (u : TypeId) (h : Tryd.prog.typeName? 3 u = some "*errors.errorString") : u = 87 :=
  typeName_ptr_named (nm := "errors.errorString") (by rw [errStar]; kernel_rfl) (by kernel_rfl) (by decide) u (by rw [errStar]; exact h)
theorem errCells : Tryd.prog.cellsOf 104 = 1 := by kernel_rfl
theorem strCells : Tryd.prog.cellsOf 9 = 1 := by kernel_rfl
theorem door_met (os : Os) (args : Array Value) : laidMetH Tryd.prog errLaid ((World.doorLaid Tryd.prog 200 os).forCall (fun _ _ => 0) ⟨#[], args, []⟩).memory :=
  laidMetH_of_parts3 (fuel := 8) (laidMet_of_run' 8 (by kernel_rfl) (by kernel_rfl)) (by kernel_rfl) (by kernel_rfl)
theorem sentinel_of_laid {W : World} (h : laidMetH Tryd.prog errLaid W) : ∃ ea : Option Addr, W.var? Tryd.prog errName = some #[.iface 87 (.pointer ea)] ∧ W.cell? ⟨0, 0, none⟩ = some (.iface 87 (.pointer ea)) := by
  rw [MakeChecks.laidMetH_plain _ _ _ (by kernel_rfl)] at h
  obtain ⟨a, s, hv, _⟩ := laid_sentinel h errG errT Tryd.underlying73 errRow Tryd.underlying87 Tryd.underlying104 rfl rfl Tryd.underlying9 errCells strCells
  exact ⟨some a, hv, by simpa using World.var?_cell errG hv 0⟩
theorem err_read {H : Type} (enc : TypeId × Value → H) {W : World} {ea : Option Addr} (h : W.var? Tryd.prog errName = some #[.iface 87 (.pointer ea)]) (sp : Nat → Bool) :
    DataW.TrodVars enc Tryd.prog W sp [errName] [tok enc (.iface 87 (.pointer ea))] [.cell 0 0] :=
  vars_read1 enc errG errT Tryd.underlying73 h trivial sp
theorem heap_of_cell {W : World} {v : Value} (h : W.cell? ⟨0, 0, none⟩ = some v) : 0 < W.heap.size := by
  rcases Nat.eq_zero_or_pos W.heap.size with h0 | h0
  · have : W.heap[0]? = none := by simp [h0]
    simp [World.cell?, this] at h
  · exact h0
theorem err_kept {W W' : World} {cs : Array Value} (hb : Below W.heap.size W W') (h : W.var? Tryd.prog errName = some cs) : W'.var? Tryd.prog errName = some cs := by
  unfold World.var? at h ⊢
  rw [errG] at h ⊢
  simp only [Option.bind_some] at h ⊢
  have hlt : 0 < W.heap.size := by
    rcases Nat.eq_zero_or_pos W.heap.size with h' | h'
    · simp [h'] at h
    · exact h'
  rw [hb.block 0 hlt]; exact h
theorem glob_fr {w w' : World} {lo hi : Nat} {v : Value} (h : w.cell? ⟨0, 0, none⟩ = some v) (hf : Fr lo hi w w') (h0 : 0 < w.heap.size) (hd : 0 < lo ∨ hi ≤ 0) : w'.cell? ⟨0, 0, none⟩ = some v := by
  rw [← h]
  unfold World.cell?
  rw [hf.block 0 h0 hd]
end Go.Proofs.YthpddknpiiiccaaDoor
