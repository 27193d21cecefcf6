/- Stores into a slice of the call's own; frames with one block that turns. -/
import Derived.Test.YtacfiljclklkdaaSeg
namespace Go.Proofs.Ytacfiljclklkdaa
open Go.RowKit
set_option linter.unusedVariables false
set_option linter.unusedSimpArgs false
set_option maxRecDepth 100000

theorem Fr.trans {lo hi : Nat} {a b c : World} (h : Fr lo hi a b) (k : Fr lo hi b c) : Fr lo hi a c :=
  ⟨k.os.trans h.os, k.tape.trans h.tape, k.output.trans h.output, Nat.le_trans h.size k.size, fun i hi hd => (k.block i (Nat.lt_of_lt_of_le hi h.size) hd).trans (h.block i hi hd)⟩
theorem Fr.setCell {lo hi : Nat} {a b : World} (h : Fr lo hi a b) (p : Addr) (u : Value) (h1 : lo ≤ p.block) (h2 : p.block < hi) : Fr lo hi a (b.setCell p u) :=
  h.trans ⟨rfl, rfl, rfl, by simp, fun i hi hd => heap_setCell_other b p i u (by omega)⟩
/-- what a draw may turn: the source's block, and new ones -/
theorem Fr.below {w w' w'' : World} {b : Nat} (h : Fr b (b + 1) w w') (hb : Below w'.heap.size w' w'') : Fr b (b + 1) w w'' :=
  h.trans ⟨hb.os, hb.tape, hb.output, hb.size, fun k hk _ => hb.block k hk⟩
theorem fr_refl (b : Nat) (w : World) : Fr b (b + 1) w w := ⟨rfl, rfl, rfl, Nat.le_refl _, fun _ _ _ => rfl⟩
theorem Own.fr1 {w w' : World} {lo b : Nat} {v : Value} {xs : List Int} (h : Own w lo v xs) (hf : Fr b (b + 1) w w') (hd : b + 1 ≤ lo) : Own w' lo v xs :=
  ((h.seg).fr hf (.inr hd)).1
theorem Fr.grow1 {g : Nat} {w w' w'' : World} {row : Option Nat} (h : Fr g (g + 1) w w') (hg : w'.grownBy w'' row) (hr : ∀ z, row = some z → z = g ∨ w.heap.size ≤ z) : Fr g (g + 1) w w'' :=
  ⟨hg.os.trans h.os, hg.tape.trans h.tape, hg.output.trans h.output, Nat.le_trans h.size hg.size, fun k hk hd => (hg.block k (Nat.lt_of_lt_of_le hk h.size) (fun e => by have := hr k e.symm; omega)).trans (h.block k hk hd)⟩
theorem Fr.new1 {b lo hi : Nat} {w w' w'' : World} (h : Fr b (b + 1) w w') (hf : Fr lo hi w' w'') (hlo : w.heap.size ≤ lo) : Fr b (b + 1) w w'' :=
  ⟨hf.os.trans h.os, hf.tape.trans h.tape, hf.output.trans h.output, Nat.le_trans h.size hf.size, fun k hk hd => (hf.block k (Nat.lt_of_lt_of_le hk h.size) (.inl (by omega))).trans (h.block k hk hd)⟩
theorem fr_set1 (w : World) (g k : Nat) (u : Value) : Fr g (g + 1) w (w.setCell ⟨g, k, none⟩ u) := (fr_refl g w).setCell _ _ (Nat.le_refl _) (Nat.lt_succ_self _)
theorem Fr.out1 {lo hi lo' : Nat} {w w' : World} (h : Fr lo hi w w') (h1 : lo' ≤ lo) : Fr lo' (max hi lo') w w' := ⟨h.os, h.tape, h.output, h.size, fun k hk hd => h.block k hk (by omega)⟩
theorem Own.sl {w : World} {lo : Nat} {v : Value} {xs : List Int} (h : Own w lo v xs) : ∃ A m d, v = .slice A m d ∧ xs.length = m := by
  obtain ⟨A, m, d, e, hl, _⟩ := h.form'
  exact ⟨A, m, d, e, hl⟩
theorem own_setCell {w : World} {lo g m d k : Nat} {xs : List Int} {y : Int} (h : Own w lo (.slice (some ⟨g, 0, none⟩) m d) xs) (hk : k < m) :
    w.frozen? ⟨g, k, none⟩ = false ∧ (∃ u, w.cell? ⟨g, k, none⟩ = some u) ∧ Own (w.setCell ⟨g, k, none⟩ (.int .i64 y)) lo (.slice (some ⟨g, 0, none⟩) m d) (xs.set k y) ∧ lo ≤ g := by
  obtain ⟨_, _, _, e, hl⟩ := h.sl
  injection e with e1 e2 e3
  have h0 : w.ownsRow lo 2 1 (.slice (some ⟨g, 0, none⟩) m d) xs.length (ints xs) := h
  rw [hl, ← e2] at h0
  have hst := h0.stored k (.int .i64 y)
  refine ⟨h0.frozenAt k, ⟨_, by rw [h0.cellAt k (by omega)]; exact List.getElem?_eq_getElem (by simp; omega)⟩, ?_, (h.lt g rfl).1⟩
  unfold Own
  rw [List.length_set, hl, ← e2]
  have e4 : ints (xs.set k y) = (ints xs).set k (.int .i64 y) := by simp [ints, List.map_set]
  rw [e4]; exact hst.1
theorem Own.addr {w : World} {lo m d : Nat} {A : Option Addr} {xs : List Int} (h : Own w lo (.slice A m d) xs) (hm : 0 < m) : ∃ g, A = some ⟨g, 0, none⟩ := by
  rcases h.2 with ⟨h1, h2⟩ | ⟨g, cap, cur, h1, _⟩
  · injection h1 with _ h3 _; omega
  · injection h1 with h1 _ _; exact ⟨g, h1⟩
theorem own_made {w : World} {lo g n : Nat} {f : List Int} (h : w.ownsRow lo 2 1 (.slice (some ⟨g, 0, none⟩) n n) n (ints f)) : Own w lo (.slice (some ⟨g, 0, none⟩) n n) f := by
  have h1 := h.1
  have hl : f.length = n := by simpa using h1
  unfold Own
  rw [hl]; exact h
end Go.Proofs.Ytacfiljclklkdaa
