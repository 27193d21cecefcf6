/- Slices of bytes of the call's own; their text. -/
import Derived.Test.YtiacpdglojikpaaSmall
import Derived.Laws.BytesString
import Derived.Laws.Cells
import Derived.Maps.AppendAt
import Derived.Lib.AppendZeros
namespace Go.Proofs.Ytiacpdglojikpaa
open Go.RowKit
set_option linter.unusedVariables false
set_option linter.unusedSimpArgs false
set_option maxRecDepth 100000

def byts (ns : List Int) : List Value := ns.map (Value.int .u8)
@[simp] theorem byts_length (ns : List Int) : (byts ns).length = ns.length := by simp [byts]
theorem byts_append (a b : List Int) : byts (a ++ b) = byts a ++ byts b := by simp [byts]
theorem byts_one (ns : List Int) : ∀ u ∈ byts ns, u.oneCell' = true := by
  intro u h
  simp only [byts, List.mem_map] at h
  obtain ⟨x, _, rfl⟩ := h
  rfl
theorem info_byte : (Try.prog.info? 5).map (fun i => (i.zero, i.size, i.bytes)) = some (some (.int .u8 0), 1, 1) := by kernel_rfl
/-- a slice of bytes of the call's own -/
def OwnB (w : World) (lo : Nat) (v : Value) (ns : List Int) : Prop := w.ownsRow lo 5 1 v ns.length (byts ns)
theorem OwnB.below {w w' : World} {lo : Nat} {v : Value} {ns : List Int} (h : OwnB w lo v ns) (hb : Below w.heap.size w w') : OwnB w' lo v ns :=
  World.ownsRow.kept h (grown_of_below hb none) (by
    rcases hv : v.ownBlock with _ | k
    · exact .inl rfl
    · exact .inr (by simp))
theorem OwnB.lt {w : World} {lo : Nat} {v : Value} {ns : List Int} (h : OwnB w lo v ns) : ∀ k, v.ownBlock = some k → lo ≤ k ∧ k < w.heap.size := World.ownsRow.lt h
/-- the text of bytes -/
def textOf (ns : List Int) : ByteArray := ns.foldl (fun r n => r.push (UInt8.ofNat n.toNat)) ByteArray.empty

theorem run_text (w : World) (lo : Nat) (v : Value) (ns : List Int) (h : OwnB w lo v ns) : (convert 53 9 v).run Try.prog w = .ok (.string (textOf ns)) w := by
  have h0 : w.ownsRow lo 5 1 v ns.length (byts ns) := h
  rcases h0.2 with ⟨rfl, hn⟩ | ⟨g, cap, cur, rfl, hb, hg, hnc, hcm, hcs, htake⟩
  · obtain rfl : ns = [] := List.eq_nil_of_length_eq_zero hn
    rw [run_convert_bytes_string w _ _ _ _ _ _ Try.underlying53 Try.underlying5 Try.underlying9]
    rfl
  · rw [run_convert_bytes_string w _ _ _ _ _ _ Try.underlying53 Try.underlying5 Try.underlying9]
    refine run_bytesToString w _ _ _ ns ?_
    have := run_loadCells_list (P := Try.prog) (w := w) ⟨g, 0, none⟩ (byts ns) (fun j u hj => by
      have hlt : j < ns.length := by
        have := (List.getElem?_eq_some_iff.1 hj).1
        simpa using this
      rw [add_row, Nat.zero_add, h0.cellAt j (by omega)]; exact hj)
    rw [byts_length] at this
    exact this

theorem push_byte {ops : Array Oper} {rest : List Oper} {o : Oper} {a : Act} {Q : Exit → Act → World → Prop} (W : World) (hgd : o.guard = none) (s x : Operand)
    (ho : o.op = .call { callee := .builtin .append, args := #[s, x], argTypes := #[53, 53] })
    (lo : Nat) (v : Value) (ns : List Int) (y : Int) (hs : a.eval s = v) (hown : OwnB W lo v ns) (hx : a.eval x = .slice (some ⟨W.heap.size, 0, none⟩) 1 1) (hn : ns.length ≤ 1099511627776) (hlo : lo ≤ W.heap.size)
    (h : ∀ v' w', OwnB w' lo v' (ns ++ [y]) → W.grownBy w' v.ownBlock → wpList Try.prog ops Q rest (a.put o.dst v') w') :
    wpList Try.prog ops Q (o :: rest) a (W.alloc (.cells #[.int .u8 y] 5)) := by
  obtain ⟨i0, hi, hz0, hz1, hz2⟩ := info_parts info_byte
  have h0 : W.ownsRow lo 5 1 v ns.length (byts ns) := hown
  refine wpList_append_own_at _ hgd s x 53 ho lo 5 i0 (.int .u8 0) 1 1 Try.underlying53 hi hz0 hz1 hz2 rfl (by decide) v ns.length (byts ns) hs (h0.alloc _)
    ⟨W.heap.size, 0, none⟩ 1 1 [.int .u8 y] hx rfl ?_ ?_ (by unfold maxLen; omega) (by omega) (by simp; omega) ?_
  · intro j u hj
    rcases j with _ | j
    · simp only [List.getElem?_cons_zero, Option.some.injEq] at hj
      subst hj
      rw [add_row, World.cell?_alloc_at _ _ _ _ rfl]; rfl
    · simp at hj
  · intro u hu
    simp only [List.mem_singleton] at hu
    subst hu; rfl
  · intro v' w' h1 h2 _ _
    refine h v' w' ?_ ⟨h2.os, h2.tape, h2.output, Nat.le_trans (by simp) h2.size, fun i hi hne => (h2.block i (by simp; omega) hne).trans (Below.heap_alloc W _ i hi)⟩
    unfold OwnB
    rw [byts_append, List.length_append]
    exact h1
/-- letters of a word -/
def lets (xs : List Int) : List Int := xs.map (97 + ·)
@[simp] theorem lets_length (xs : List Int) : (lets xs).length = xs.length := by simp [lets]

set_option maxHeartbeats 800000 in
theorem specText_any (A : Option Addr) (n c : Nat) (xs : List Int) (w : World) (hr : Rd w A n xs) (hn : n ≤ 1048576) (hy : ∀ y ∈ xs, 0 ≤ y ∧ y ≤ 12) :
    Calls Try.prog 60 #[.slice A n c] w fun e w' => e = .returned (.string (textOf (lets xs))) ∧ Below w.heap.size w w' := by
  have HR := Lib.hid hr
  have HL := Lib.hid hr.len
  have HY : Hid (∀ k, k < n → 0 ≤ xs[k]?.getD 0 ∧ xs[k]?.getD 0 ≤ 12) := Lib.hid (fun k hk => by
    have : k < xs.length := by rw [hr.len]; exact hk
    rw [List.getElem?_eq_getElem this]; exact hy _ (List.getElem_mem this))
  clear hr hy
  go_enter Try.func60, Try.ntmps60
  go_wp2
  go_loopw [3, 4] (fun v i wr => ∃ k : Nat, k ≤ n ∧ i = .int .i64 k ∧ OwnB wr w.heap.size v (lets (xs.take k)) ∧ Below w.heap.size w wr) (fun _ i _ => n - (intOf i).toNat)
  case atStart => exact ⟨0, by omega, rfl, World.ownsRow_lit w #[] 0 (Nat.le_refl _) (by decide) rfl, (Below.refl _ _).alloc (Nat.le_refl _) _⟩
  case round =>
    obtain ⟨k, hk, rfl, ho, hb⟩ := hrel
    by_cases hlt : k < n
    · obtain ⟨a, rfl, ha, hc⟩ := (HR.out.below hb).at_ hlt
      have hyk := HY.out k hlt
      have hs : lets (xs.take (k + 1)) = lets (xs.take k) ++ [97 + xs[k]?.getD 0] := by
        rw [take_next xs k (by rw [HL.out]; exact hlt)]; simp [lets]
      have HS := Lib.hid hs
      have hln : (lets (xs.take k)).length ≤ 1099511627776 := by have := List.length_take_le k xs; simp; omega
      have hwrap : IntKind.u8.wrap (97 + xs[k]?.getD 0) = 97 + xs[k]?.getD 0 := by
        simp [IntKind.wrap, IntKind.bits, IntKind.signed]; omega
      clear hs
      go_wp2_with (at_builtin; go_loud (refine push_byte wr rfl (.tmp 12) (.tmp 19) rfl w.heap.size _ (lets (xs.take k)) (97 + xs[k]?.getD 0) rfl ho rfl hln hb.size ?_); intro v1 w1 ho1 hg1)
      go_roundw
      case rel => exact ⟨k + 1, by omega, by go_num, by rw [HS.out]; exact ho1, hb.grown hg1 hb.size (fun x hx => (ho.lt x hx).1)⟩
      case measure => simp [intOf]; omega
    · have et : xs.take k = xs := List.take_of_length_le (by rw [HL.out]; omega)
      rw [et] at ho
      have hcv := run_text wr w.heap.size _ _ ho
      clear et
      go_wp2
      go_ret
      exact ⟨rfl, hb⟩
end Go.Proofs.Ytiacpdglojikpaa
