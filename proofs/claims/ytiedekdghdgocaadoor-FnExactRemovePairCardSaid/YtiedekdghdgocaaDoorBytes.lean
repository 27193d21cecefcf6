/- Slices of bytes of the call's own; their text. -/
import Derived.Test.YtiedekdghdgocaaDoorSmall
import Derived.Laws.BytesString
import Derived.Laws.Cells
import Derived.Maps.AppendAt
import Derived.Lib.AppendZeros
namespace Go.Proofs.YtiedekdghdgocaaDoor
open Go.RowKit
set_option linter.unusedVariables false
set_option linter.unusedSimpArgs false
set_option maxRecDepth 100000

def byts (ns : List Int) : List Value := ns.map (Value.int .u8)
@[simp] theorem byts_length (ns : List Int) : (byts ns).length = ns.length := by simp [byts]
theorem byts_append (a b : List Int) : byts (a ++ b) = byts a ++ byts b := by simp [byts]
theorem byts_one (ns : List Int) : ∀ u ∈ byts ns, u.oneCell' = true := by
  intro u h
  simp only [byts, List.mem_map] at h
  obtain ⟨x, _, rfl⟩ := h
  rfl
theorem info_byte : (Tryd.prog.info? 5).map (fun i => (i.zero, i.size, i.bytes)) = some (some (.int .u8 0), 1, 1) := by kernel_rfl
/-- a slice of bytes of the call's own -/
def OwnB (w : World) (lo : Nat) (v : Value) (ns : List Int) : Prop := w.ownsRow lo 5 1 v ns.length (byts ns)
theorem OwnB.below {w w' : World} {lo : Nat} {v : Value} {ns : List Int} (h : OwnB w lo v ns) (hb : Below w.heap.size w w') : OwnB w' lo v ns :=
  World.ownsRow.kept h (grown_of_below hb none) (by
    rcases hv : v.ownBlock with _ | k
    · exact .inl rfl
    · exact .inr (by simp))
theorem OwnB.lt {w : World} {lo : Nat} {v : Value} {ns : List Int} (h : OwnB w lo v ns) : ∀ k, v.ownBlock = some k → lo ≤ k ∧ k < w.heap.size := World.ownsRow.lt h
/-- the text of bytes -/
def textOf (ns : List Int) : ByteArray := ns.foldl (fun r n => r.push (UInt8.ofNat n.toNat)) ByteArray.empty

/-- letters of a word -/
def lets (xs : List Int) : List Int := xs.map (97 + ·)
@[simp] theorem lets_length (xs : List Int) : (lets xs).length = xs.length := by simp [lets]

end Go.Proofs.YtiedekdghdgocaaDoor
