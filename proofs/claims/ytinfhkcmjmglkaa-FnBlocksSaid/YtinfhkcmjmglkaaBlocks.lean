/- What both ways to the blocks need. -/
import Derived.Test.YtinfhkcmjmglkaaWrap
import Derived.Test.YtinfhkcmjmglkaaPure6
import Derived.Test.YtinfhkcmjmglkaaBorder
namespace Go.Proofs.Ytinfhkcmjmglkaa
open Go.RowKit
set_option linter.unusedVariables false
set_option linter.unusedSimpArgs false
set_option maxRecDepth 100000

theorem blocks_few {xs : List Int} (h : isWord xs = true) : Few (blocks xs) := by
  have hl := isWord_len h
  have h1 := blkTo_bd xs xs.length
  exact few_mk 12 12 (by unfold blocks; omega) (fun r hr => by have := blkTo_rows xs xs.length r hr; omega) (by omega) (by omega)
theorem Rd.segm {w : World} {A : Option Addr} {n c s e : Nat} {xs : List Int} (h : Rd w A n xs) (hs : s < e) (he : e ≤ n) (hc : n ≤ c) : Rd w (A.map (·.add s)) (e - s) (segm xs s e) := by
  have h1 := h.cut (k := s) (by omega) hc
  rw [if_neg (by omega)] at h1
  exact h1.take (by omega)
end Go.Proofs.Ytinfhkcmjmglkaa
