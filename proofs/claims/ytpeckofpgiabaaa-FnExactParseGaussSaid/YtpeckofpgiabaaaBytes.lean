/- Slices of bytes of the call's own; their text. -/
import Derived.Test.YtpeckofpgiabaaaSmall
import Derived.Laws.BytesString
import Derived.Laws.Cells
import Derived.Maps.AppendAt
import Derived.Lib.AppendZeros
namespace Go.Proofs.Ytpeckofpgiabaaa
open Go.RowKit
set_option linter.unusedVariables false
set_option linter.unusedSimpArgs false
set_option maxRecDepth 100000

def byts (ns : List Int) : List Value := ns.map (Value.int .u8)
@[simp] theorem byts_length (ns : List Int) : (byts ns).length = ns.length := by simp [byts]
theorem byts_append (a b : List Int) : byts (a ++ b) = byts a ++ byts b := by simp [byts]
theorem byts_one (ns : List Int) : ∀ u ∈ byts ns, u.oneCell' = true := by
  intro u h
  simp only [byts, List.mem_map] at h
  obtain ⟨x, _, rfl⟩ := h
  rfl
theorem info_byte : (Try.prog.info? 5).map (fun i => (i.zero, i.size, i.bytes)) = some (some (.int .u8 0), 1, 1) := by kernel_rfl
/-- a slice of bytes of the call's own -/
def OwnB (w : World) (lo : Nat) (v : Value) (ns : List Int) : Prop := w.ownsRow lo 5 1 v ns.length (byts ns)
theorem OwnB.below {w w' : World} {lo : Nat} {v : Value} {ns : List Int} (h : OwnB w lo v ns) (hb : Below w.heap.size w w') : OwnB w' lo v ns :=
  World.ownsRow.kept h (grown_of_below hb none) (by
    rcases hv : v.ownBlock with _ | k
    · exact .inl rfl
    · exact .inr (by simp))
theorem OwnB.lt {w : World} {lo : Nat} {v : Value} {ns : List Int} (h : OwnB w lo v ns) : ∀ k, v.ownBlock = some k → lo ≤ k ∧ k < w.heap.size := World.ownsRow.lt h
/-- the text of bytes -/
def textOf (ns : List Int) : ByteArray := ns.foldl (fun r n => r.push (UInt8.ofNat n.toNat)) ByteArray.empty

theorem run_text (w : World) (lo : Nat) (v : Value) (ns : List Int) (h : OwnB w lo v ns) : (convert 53 9 v).run Try.prog w = .ok (.string (textOf ns)) w := by
  have h0 : w.ownsRow lo 5 1 v ns.length (byts ns) := h
  rcases h0.2 with ⟨rfl, hn⟩ | ⟨g, cap, cur, rfl, hb, hg, hnc, hcm, hcs, htake⟩
  · obtain rfl : ns = [] := List.eq_nil_of_length_eq_zero hn
    rw [run_convert_bytes_string w _ _ _ _ _ _ Try.underlying53 Try.underlying5 Try.underlying9]
    rfl
  · rw [run_convert_bytes_string w _ _ _ _ _ _ Try.underlying53 Try.underlying5 Try.underlying9]
    refine run_bytesToString w _ _ _ ns ?_
    have := run_loadCells_list (P := Try.prog) (w := w) ⟨g, 0, none⟩ (byts ns) (fun j u hj => by
      have hlt : j < ns.length := by
        have := (List.getElem?_eq_some_iff.1 hj).1
        simpa using this
      rw [add_row, Nat.zero_add, h0.cellAt j (by omega)]; exact hj)
    rw [byts_length] at this
    exact this

theorem push_byte {ops : Array Oper} {rest : List Oper} {o : Oper} {a : Act} {Q : Exit → Act → World → Prop} (W : World) (hgd : o.guard = none) (s x : Operand)
    (ho : o.op = .call { callee := .builtin .append, args := #[s, x], argTypes := #[53, 53] })
    (lo : Nat) (v : Value) (ns : List Int) (y : Int) (hs : a.eval s = v) (hown : OwnB W lo v ns) (hx : a.eval x = .slice (some ⟨W.heap.size, 0, none⟩) 1 1) (hn : ns.length ≤ 1099511627776) (hlo : lo ≤ W.heap.size)
    (h : ∀ v' w', OwnB w' lo v' (ns ++ [y]) → W.grownBy w' v.ownBlock → wpList Try.prog ops Q rest (a.put o.dst v') w') :
    wpList Try.prog ops Q (o :: rest) a (W.alloc (.cells #[.int .u8 y] 5)) := by
  obtain ⟨i0, hi, hz0, hz1, hz2⟩ := info_parts info_byte
  have h0 : W.ownsRow lo 5 1 v ns.length (byts ns) := hown
  refine wpList_append_own_at _ hgd s x 53 ho lo 5 i0 (.int .u8 0) 1 1 Try.underlying53 hi hz0 hz1 hz2 rfl (by decide) v ns.length (byts ns) hs (h0.alloc _)
    ⟨W.heap.size, 0, none⟩ 1 1 [.int .u8 y] hx rfl ?_ ?_ (by unfold maxLen; omega) (by omega) (by simp; omega) ?_
  · intro j u hj
    rcases j with _ | j
    · simp only [List.getElem?_cons_zero, Option.some.injEq] at hj
      subst hj
      rw [add_row, World.cell?_alloc_at _ _ _ _ rfl]; rfl
    · simp at hj
  · intro u hu
    simp only [List.mem_singleton] at hu
    subst hu; rfl
  · intro v' w' h1 h2 _ _
    refine h v' w' ?_ ⟨h2.os, h2.tape, h2.output, Nat.le_trans (by simp) h2.size, fun i hi hne => (h2.block i (by simp; omega) hne).trans (Below.heap_alloc W _ i hi)⟩
    unfold OwnB
    rw [byts_append, List.length_append]
    exact h1
/-- letters of a word -/
def lets (xs : List Int) : List Int := xs.map (97 + ·)
@[simp] theorem lets_length (xs : List Int) : (lets xs).length = xs.length := by simp [lets]

end Go.Proofs.Ytpeckofpgiabaaa
