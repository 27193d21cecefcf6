/- Slices of numbers in cells; how they are weighed and opened. -/
import Derived.Test.YtofcldplgkejiaaSeg
import Derived.Test.YtofcldplgkejiaaRow
namespace Go.Proofs.Ytofcldplgkejiaa
open Go.ChangeShapes Go.WideShapes Go.ChangeAt Go.RowKit
set_option linter.unusedVariables false
set_option linter.unusedSimpArgs false
set_option maxRecDepth 100000

/-- a value that is a slice whose numbers read as xs, below block B -/
def SlB (w : World) (B : Nat) (v : Value) (xs : List Int) : Prop := ∃ C m d, v = .slice C m d ∧ RdB w B C m xs ∧ m ≤ d ∧ d ≤ 9223372036854775807
theorem SlB.below {w w' : World} {B : Nat} {v : Value} {xs : List Int} (h : SlB w B v xs) (hb : Below B w w') : SlB w' B v xs := by
  obtain ⟨C, m, d, e, hr, h1, h2⟩ := h
  exact ⟨C, m, d, e, hr.below hb, h1, h2⟩
theorem SlB.mono {w : World} {B B' : Nat} {v : Value} {xs : List Int} (h : SlB w B v xs) (hB : B ≤ B') : SlB w B' v xs := by
  obtain ⟨C, m, d, e, hr, h1, h2⟩ := h
  exact ⟨C, m, d, e, ⟨hr.1, fun h0 => by obtain ⟨a, ea, hl, hc⟩ := hr.2 h0; exact ⟨a, ea, by omega, hc⟩⟩, h1, h2⟩
theorem maxLen_le {c : Nat} (h : c ≤ maxLen) : c ≤ 9223372036854775807 := by unfold maxLen at h; omega
theorem Own.slb {w : World} {lo B : Nat} {v : Value} {xs : List Int} (h : Own w lo v xs) (hB : w.heap.size ≤ B) : SlB w B v xs := by
  have h0 : w.ownsRow lo 2 1 v xs.length (ints xs) := h
  obtain ⟨A, c, e, hr⟩ := h.form
  refine ⟨A, xs.length, c, e, ⟨hr.1, fun h1 => by obtain ⟨a, ea, hl, hc⟩ := hr.2 h1; exact ⟨a, ea, by omega, hc⟩⟩, ?_, ?_⟩
  · subst e; exact Own.cap h
  · rcases h0.2 with ⟨e', _⟩ | ⟨g, cap, cur, e', _, _, _, hcm, _⟩
    · rw [e] at e'; injection e' with _ _ e3; omega
    · rw [e] at e'; injection e' with _ _ e3; subst e3; exact maxLen_le hcm
def rest (l k : Int) : Int := if l - k < 0 then -1 else l - k
theorem szInts_any (A : Option Addr) (n c : Nat) (l : Int) (w : World) (hn : n ≤ 9223372036854775807) (hl : 0 ≤ l) (hl2 : l ≤ 1048576) :
    Calls Try.prog 151 #[.slice A n c, .int .i64 l] w fun e w' => e = .returned (.int .i64 (rest l n)) ∧ w = w' := by
  by_cases h : l - (n : Int) < 0
  · have H : Hid (rest l n = -1) := Lib.hid (by unfold rest; rw [if_pos h])
    go_enter Try.func151, Try.ntmps151
    go_wp2
    go_ret
    exact ⟨ret_int H.out.symm, rfl⟩
  · have H : Hid (rest l n = l - n) := Lib.hid (by unfold rest; rw [if_neg h])
    go_enter Try.func151, Try.ntmps151
    go_wp2
    go_ret
    exact ⟨ret_int H.out.symm, rfl⟩
/-- a slice of numbers in a cell -/
theorem open_slb {H : Type} {enc : TypeId × Value → H} {W : World} {v : Value} {f : Nat} {x : DataW H × List MemPlace} (h : DataW.trod enc Try.prog W 0 (fun _ => true) true f 22 [v] = some x)
    (hlt : ∀ q ∈ x.2, q.block < W.heap.size) : ∃ xs, SlB W W.heap.size v xs ∧ Wf xs := by
  rcases open_ints Try.underlying22 Try.underlying2 cells_int64 h with ⟨hcs, hx⟩ | ⟨a, len', cap', zs, hcs, _, hl, hm, hz, hx, hcell, hwz⟩
  · obtain rfl : v = .slice none 0 0 := by simpa using hcs
    exact ⟨[], ⟨none, 0, 0, rfl, ⟨rfl, fun h => absurd h (by omega)⟩, Nat.le_refl _, by omega⟩, fun x h => by cases h⟩
  · obtain rfl : v = .slice (some a) len' cap' := by simpa using hcs
    subst hx
    simp only [if_true] at hz
    refine ⟨zs.take len', ⟨some a, len', cap', rfl, ⟨by rw [List.length_take]; omega, fun hn => ⟨a, rfl, ?_, fun j hj => ?_⟩⟩, hl, maxLen_le hm⟩, fun x h => ?_⟩
    · obtain ⟨b, off, spot⟩ := a
      have hspot : spot = none := by simpa [Addr.add] using World.cell?_spot (hcell 0 (by omega))
      subst hspot
      exact hlt (.cell b off) (MemPlace.mem_row.2 ⟨0, by omega, by simp⟩)
    · rw [hcell j (by omega)]
      simp [List.getD, List.getElem?_take, hj]
    · exact wf_inv (hwz x (List.mem_of_mem_take h))
end Go.Proofs.Ytofcldplgkejiaa
