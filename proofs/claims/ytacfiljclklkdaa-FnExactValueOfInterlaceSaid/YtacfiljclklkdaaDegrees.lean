/- The contracts of both ways to make the degrees. -/
/- DegreesOf: the contracts of the model's and of the program's function. -/
/- IsolatedChords: the contracts of the model's and of the program's function. -/
import Derived.Test.YtacfiljclklkdaaWrap
namespace Go.Proofs.Ytacfiljclklkdaa
open Go.RowKit
set_option linter.unusedVariables false
set_option linter.unusedSimpArgs false
set_option maxRecDepth 100000

theorem cross_v {w : World} {lo m c : Nat} {A : Option Addr} {vs : List Value} {xs : List Int} (h : OwnV w lo (.slice A m c) vs (rowsOf xs)) (hm : m = xs.length / 2) (k : Nat) (hk : k < m) :
    ∃ g B d, A = some ⟨g, 0, none⟩ ∧ w.cell? ⟨g, k, none⟩ = some (.slice B m d) ∧ vAt vs k = .slice B m d := by
  obtain ⟨g, B, d, e, hc, hr, hv, hg⟩ := h.at_ k hk
  rw [rAt_rowsOf xs k (by omega), rowOf_length, ← hm] at hc hv
  exact ⟨g, B, d, e, hc, hv⟩
theorem cross_rd {w : World} {lo m d : Nat} {B : Option Addr} {v : Value} {vs : List Value} {xs : List Int} (h : OwnV w lo v vs (rowsOf xs)) (hm : m = xs.length / 2) (k : Nat) (hk : k < m) (hv : vAt vs k = .slice B m d) : Rd w B m (rowOf xs k) := by
  obtain ⟨B', d', e, hr⟩ := h.rowForm k
  rw [rAt_rowsOf xs k (by omega), rowOf_length, ← hm] at e hr
  rw [hv] at e
  injection e with e1 e2 e3
  rw [e1]; exact hr


end Go.Proofs.Ytacfiljclklkdaa

namespace Go.Proofs.Ytacfiljclklkdaa
open Go.RowKit
set_option linter.unusedVariables false
set_option linter.unusedSimpArgs false
set_option maxRecDepth 100000

end Go.Proofs.Ytacfiljclklkdaa

namespace Go.Proofs.Ytacfiljclklkdaa
open Go.RowKit
set_option linter.unusedVariables false
set_option linter.unusedSimpArgs false
set_option maxRecDepth 100000

end Go.Proofs.Ytacfiljclklkdaa
