/- The model's functions that build a sum, term by term. -/
import Derived.Test.YtbfliocnfdpnnaaSumPutA
import Derived.Test.YtbfliocnfdpnnaaSumFrame
namespace Go.Proofs.Ytbfliocnfdpnnaa
open Go.RowKit
set_option linter.unusedVariables false
set_option linter.unusedSimpArgs false
set_option maxRecDepth 100000

/-- the box of a sum that is being built, in block T; what lay in W lies -/
def KOut (W : World) (T : Nat) (X : World) : Prop := Below W.heap.size W X ∧ W.heap.size ≤ T ∧ ∃ u v, Box2 X T 28 u v
def cv (X : World) (T j : Nat) : Value := (X.cell? ⟨T, j, none⟩).getD undef
theorem KOut.grew {W X X' : World} {T : Nat} (h : KOut W T X) (hb : Below X.heap.size X X') : KOut W T X' := by
  obtain ⟨h1, h2, u, v, h3⟩ := h
  exact ⟨h1.trans (hb.mono h1.size), h2, u, v, h3.below hb h3.lt⟩
theorem KOut.drew {W X : World} {T : Nat} (h : KOut W T X) : KOut W T X.drew := h.grew (Below.refl _ _).drew
theorem KOut.store {W X : World} {T : Nat} (h : KOut W T X) (a b : Value) : KOut W T ((X.setCell ⟨T, 0, none⟩ a).setCell ⟨T, 1, none⟩ b) := by
  obtain ⟨h1, h2, u, v, h3⟩ := h
  exact ⟨(h1.setCell (p := ⟨T, 0, none⟩) h2 _).setCell (p := ⟨T, 1, none⟩) h2 _, h2, a, b, (h3.set0 a).set1 b⟩
theorem KOut.cells {W X : World} {T : Nat} (h : KOut W T X) : X.cell? ⟨T, 0, none⟩ = some (cv X T 0) ∧ X.cell? ⟨T, 1, none⟩ = some (cv X T 1) ∧ X.frozen? ⟨T, 0, none⟩ = false ∧ X.frozen? ⟨T, 1, none⟩ = false := by
  obtain ⟨h1, h2, u, v, h3⟩ := h
  unfold cv
  rw [h3.cell0, h3.cell1]
  exact ⟨rfl, rfl, h3.free 0, h3.free 1⟩
theorem cv_box {X : World} {T : Nat} {u v : Value} (h : Box2 X T 28 u v) : cv X.drew T 0 = u ∧ cv X.drew T 1 = v := by
  unfold cv
  have h1 : X.drew.cell? ⟨T, 0, none⟩ = some u := h.cell0
  have h2 : X.drew.cell? ⟨T, 1, none⟩ = some v := h.cell1
  rw [h1, h2]; exact ⟨rfl, rfl⟩
theorem PutR.kout {W wr : World} {T : Nat} {p : Int} {u : Value} {us : List Value} {out : Tms} (h : PutR W wr W.heap.size T p u us out) : KOut W T wr := ⟨h.below, h.low, _, _, h.box⟩
/-- another sum stored into the box -/
theorem PutR.stored {W wr w4 w5 : World} {lo T : Nat} {p : Int} {u u5 : Value} {us us5 : List Value} {out out5 : Tms} (h : PutR W wr lo T p u us out) (hb : Below wr.heap.size wr w5) (ho : OwnT w5 w4.heap.size u5 us5 out5) (hs : wr.heap.size ≤ w4.heap.size) :
    PutR W ((w5.setCell ⟨T, 0, none⟩ (.int .i64 p)).setCell ⟨T, 1, none⟩ u5) lo T p u5 us5 out5 := by
  have h2 := h.grew hb
  have hT := h.box.lt
  have hle := h.low
  refine ⟨(h2.box.set0 _).set1 _, ((ho.set_other ⟨T, 0, none⟩ _ (by show T < _; omega)).set_other ⟨T, 1, none⟩ _ (by show T < _; omega)).mono (by omega), fun k hk => ?_, fun j k hk => ?_, (h2.below.setCell (p := ⟨T, 0, none⟩) hle _).setCell (p := ⟨T, 1, none⟩) hle _, hle⟩
  · have := (ho.lt k hk).1; omega
  · have := ((ho.row j).lt k hk).1; omega
/-- the box just made of an empty sum -/
theorem putR_new {W w3 : World} {p : Int} {g : Nat} (hb : Below W.heap.size W w3) (ho : OwnT w3 W.heap.size (.slice (some ⟨g, 0, none⟩) 0 0) [] []) :
    PutR W (w3.alloc (.cells #[.int .i64 p, .slice (some ⟨g, 0, none⟩) 0 0] 28)) W.heap.size w3.heap.size p (.slice (some ⟨g, 0, none⟩) 0 0) [] [] := by
  have hg := (ho.lt g rfl).2
  refine ⟨box2_new _ _ _ _, ho.below (below_alloc _ _), fun k hk => ?_, fun j k hk => ?_, hb.trans ((below_alloc _ _).mono hb.size), hb.size⟩
  · simp [Value.ownBlock] at hk; omega
  · rw [vAt_nil, nilS_block] at hk; cases hk
theorem PutR.rdT {W wr : World} {lo T n c : Nat} {A : Option Addr} {p : Int} {us : List Value} {out : Tms} (h : PutR W wr lo T p (.slice A n c) us out) : RdT wr A n out := h.own.rd
/-- the sum built so far -/
theorem cur_facts {p : Int} (hp : 0 < p ∧ p ≤ 1024) {l : Tms} (h : Plain l) (hl : l.length ≤ 60000) (xs : List Int) : need (putAll p [] l) ≤ 1048576 ∧ 0 ≤ coeff (putAll p [] l) xs ∧ coeff (putAll p [] l) xs ≤ 1048576 := by
  have hf := putAll_facts hp.1 h
  have h1 := hf.2.2.1 xs
  rw [← hf.2.1 xs] at h1
  exact ⟨by have := hf.2.2.2; omega, h1.1, by omega⟩


theorem RdTB.blk {w : World} {B b0 o : Nat} {n : Nat} {ts : Tms} (h : RdTB w B (some ⟨b0, o, none⟩) n ts) {k : Nat} (hk : k < n) : b0 < B := by
  obtain ⟨b, o', e, hl, _⟩ := h.2 (by omega)
  injection e with e
  injection e with e1
  omega


end Go.Proofs.Ytbfliocnfdpnnaa
