/- MirrorGauss: the program's contract. -/
import Derived.Test.YtiedekdghdgocaaDoorMirror
import Derived.Test.YtiedekdghdgocaaDoorPure4
namespace Go.Proofs.YtiedekdghdgocaaDoor
open Go.RowKit
set_option linter.unusedVariables false
set_option linter.unusedSimpArgs false
set_option maxRecDepth 100000

/-- a Gauss word is in order already -/
theorem met_word {ws : List Int} (h : isWord ws = true) : met ws = upTo (ws.length / 2) := by
  have h0 := (met_norm ws).1
  rw [isWord_norm h] at h0
  obtain ⟨L, hL⟩ : ∃ L, L = (met ws).length := ⟨_, rfl⟩
  rw [← hL] at h0
  have hl : L = ws.length / 2 := by
    rcases Nat.lt_trichotomy L (ws.length / 2) with hlt | he | hgt
    · have h4 : (L : Int) ∈ met ws := (met_mem ws _).2 (word_mem h (by omega) (by omega))
      rw [h0, upTo_mem] at h4
      omega
    · exact he
    · have h4 : ((ws.length / 2 : Nat) : Int) ∈ met ws := by rw [h0, upTo_mem]; omega
      have h5 := word_lt h ((met_mem ws _).1 h4)
      omega
  rw [h0, hl]
theorem gnorm_word {ws hs ss : List Int} (h : isWord ws = true) (hh : hs.length = ws.length / 2) (hs' : ss.length = ws.length / 2) : gnorm ws hs ss = (ws, hs, ss) := by
  have hp : ∀ zs : List Int, zs.length = ws.length / 2 → (upTo (ws.length / 2)).map (pickI zs) = zs := fun zs hz => by
    refine List.ext_getElem (by simp [upTo, hz]) (fun i h1 h2 => ?_)
    simp [upTo, pickI, h2]
  unfold gnorm
  rw [isWord_norm h, met_word h, hp hs hh, hp ss hs']
end Go.Proofs.YtiedekdghdgocaaDoor
