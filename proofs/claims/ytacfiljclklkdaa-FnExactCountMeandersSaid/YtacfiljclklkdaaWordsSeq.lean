/- The iterator over all words of n chords. -/
import Derived.Test.YtacfiljclklkdaaExtend
import Derived.Test.YtacfiljclklkdaaBackward
import Derived.Maps.OwnOps
namespace Go.Proofs.Ytacfiljclklkdaa
open Go.RowKit Go.Shelf
set_option linter.unusedVariables false
set_option linter.unusedSimpArgs false
set_option maxRecDepth 100000

theorem make_any (M : Nat) (hM : M ≤ 1048576) : ∃ o : Obj, (∀ W : World, (Instr.makeSlice 22 (.int .i64 0) (.int .i64 (M : Int))).run Try.prog W = .ok (.slice (some ⟨W.heap.size, 0, none⟩) 0 M) (W.alloc o)) ∧
    ∀ W : World, Own (W.alloc o) W.heap.size (.slice (some ⟨W.heap.size, 0, none⟩) 0 M) [] := by
  obtain ⟨i0, hi, hz0, hz1, hz2⟩ := info_parts info_int64
  refine ⟨.cells (madeCells (Value.cells (.int .i64 0)) (M * i0.size)) 2, fun W => ?_, fun W => ?_⟩
  · have hr := run_make (P := Try.prog) W 22 2 i0 (.int .i64 0) Try.underlying22 hi hz0 .i64 .i64 0 M (Int.le_refl _) (by omega) (by rw [hz2]; omega) (by omega)
    simpa using hr
  · have h := World.ownsRow_made (e := 2) (size := i0.size) W (madeCells (Value.cells (.int .i64 0)) (M * i0.size)) M (Nat.le_refl _) (by unfold maxLen; omega) (size_madeCells _ _)
    rw [hz1] at h
    unfold Own
    rw [hz1]
    exact h

set_option maxHeartbeats 4000000 in
theorem words_seq (Bs n : Nat) (W : World) (hBs : W.cell? ⟨Bs, 0, none⟩ = some (.int .i64 (n : Int))) (hn : n ≤ 6) :
    SeqG Fence.wide 8 Try.prog 114 #[.pointer (some ⟨Bs, 0, none⟩)] (OkR (W.heap.size + 1) (wordsP n)) (KpR W.heap.size 1) (Fr W.heap.size (W.heap.size + 1)) (wordsP n).length W := by
  intro l J Jx hJ hJx hY h0
  have hlt := World.block_lt_of_cell? W ⟨Bs, 0, none⟩ hBs
  obtain ⟨M, hM⟩ : ∃ M, M = 2 * n := ⟨_, rfl⟩
  have hn0 : (2 : Int) * (n : Int) = (M : Int) := by omega
  have hwr : IntKind.i64.wrap (M : Int) = (M : Int) := by rw [IntKind.wrap_i64]; omega
  have HX := Lib.hid (ext_any n M W.heap.size l hn hM (wordsP n) J Jx hJ hJx hY (2 * n))
  have HM := Lib.hid hM
  have hM12 : M ≤ 12 := by omega
  have HJ := Lib.hid hJ
  have H0 := Lib.hid h0
  have HB := Lib.hid hBs
  clear hJ hJx hY h0 hM
  refine callsIn_wide.2 ?_
  go_enter Try.func114, Try.ntmps114
  obtain ⟨o, ho, hown⟩ := make_any M (by omega)
  have HO : Hid (∀ w : World, w.heap.size = W.heap.size → Own (w.alloc o) W.heap.size (.slice (some ⟨W.heap.size, 0, none⟩) 0 M) []) := Lib.hid (fun (w : World) (hw : w.heap.size = W.heap.size) => by rw [← hw]; exact hown w)
  have HB1 : Hid ((W.alloc o).drew.cell? ⟨Bs, 0, none⟩ = some (.int .i64 (n : Int))) := Lib.hid ((((Below.refl _ W).drew.alloc (Nat.le_refl _) o).cell (p := ⟨Bs, 0, none⟩) hlt).trans HB.out)
  have hB1 := HB1.out
  have hB0 := HB.out
  clear hown
  go_region_with (first
    | (go_at_call 115; refine Calls.mono (HX.out [] 0 0 0 (W.alloc o).drew rfl (begun_nil n) (by have := HM.out; omega) (at_all _) (Nat.zero_le _) (HJ.out 0 W _ H0.out (fr1_of_below ((Below.refl _ W).drew.alloc (Nat.le_refl _) o))) (by simp) (HO.out W.drew rfl)) ?_; rintro e w2 ⟨x, rfl, hx⟩; have HXX := Lib.hid hx; clear hx))
  all_goals (
    go_end0
    refine ⟨⟨_, rfl⟩, ?_⟩
    rcases HXX.out with ⟨_, h1, _, _⟩ | ⟨_, h1⟩
    · rw [Nat.zero_add] at h1
      exact .inl h1
    · exact .inr h1)
theorem wordsInOrder_any (n : Nat) (w : World) : Calls Try.prog 76 #[.int .i64 (n : Int)] w fun e w' => e = .returned (.func (.func 114) #[] #[.pointer (some ⟨w.heap.size, 0, none⟩)]) ∧ w' = w.alloc (.cells #[.int .i64 (n : Int)] 2) := by
  have hmf : ∀ (fn : Fn) (first cap : Array Value) (w : World), (Instr.makeFunc fn first cap).run Try.prog w = .ok (.func fn first cap) w := fun _ _ _ _ => rfl
  go_enter Try.func76, Try.ntmps76
  go_wp2
  go_ret
  exact ⟨rfl, rfl⟩
end Go.Proofs.Ytacfiljclklkdaa
