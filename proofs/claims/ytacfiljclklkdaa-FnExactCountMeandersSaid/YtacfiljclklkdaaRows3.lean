/- The laws' helpers on rows of the call's own: eqInt64SS, markInt64SS, heldInt64SS. -/
import Derived.Test.YtacfiljclklkdaaRows2
namespace Go.Proofs.Ytacfiljclklkdaa
open Go.RowKit
set_option linter.unusedVariables false
set_option linter.unusedSimpArgs false
set_option maxRecDepth 100000

/-- what reading rows takes: the outer cells and the rows -/
theorem OwnV.at_ {w : World} {lo n c : Nat} {A : Option Addr} {vs : List Value} {rs : List (List Int)} (h : OwnV w lo (.slice A n c) vs rs) (k : Nat) (hk : k < n) :
    ∃ g B d, A = some ⟨g, 0, none⟩ ∧ w.cell? ⟨g, k, none⟩ = some (.slice B (rAt rs k).length d) ∧ Rd w B (rAt rs k).length (rAt rs k) ∧ vAt vs k = .slice B (rAt rs k).length d ∧ g < w.heap.size := by
  have hn := h.n_eq
  obtain ⟨A', c', e, hc, hg⟩ := h.form
  injection e with e1 e2 e3
  obtain ⟨g, hg⟩ := hg (by omega)
  obtain ⟨B, d, hv, hr⟩ := h.rowForm k
  subst e1; subst hg
  exact ⟨g, B, d, rfl, by rw [h.cell k (by omega), hv], hr, hv, (h.lt g rfl).2⟩

/-- only blocks of one kind may have turned -/
structure FrP (P : Nat → Prop) (w w' : World) : Prop where
  os : w'.os = w.os
  tape : w'.tape = w.tape
  output : w'.output = w.output
  size : w.heap.size ≤ w'.heap.size
  block : ∀ k, k < w.heap.size → ¬ P k → w'.heap[k]? = w.heap[k]?
theorem FrP.refl (P : Nat → Prop) (w : World) : FrP P w w := ⟨rfl, rfl, rfl, Nat.le_refl _, fun _ _ _ => rfl⟩
theorem FrP.grown {P : Nat → Prop} {w w' w'' : World} {row : Option Nat} (h : FrP P w w') (hg : w'.grownBy w'' row) (hr : ∀ k, row = some k → P k) : FrP P w w'' :=
  ⟨hg.os.trans h.os, hg.tape.trans h.tape, hg.output.trans h.output, Nat.le_trans h.size hg.size, fun k hk hn => (hg.block k (Nat.lt_of_lt_of_le hk h.size) (fun e => hn (hr k e.symm))).trans (h.block k hk hn)⟩
theorem FrP.fr {P : Nat → Prop} {w w' : World} {lo hi : Nat} (h : FrP P w w') (hp : ∀ k, P k → lo ≤ k ∧ k < hi) : Fr lo hi w w' :=
  ⟨h.os, h.tape, h.output, h.size, fun k hk hd => h.block k hk (fun hP => by have := hp k hP; omega)⟩

end Go.Proofs.Ytacfiljclklkdaa
