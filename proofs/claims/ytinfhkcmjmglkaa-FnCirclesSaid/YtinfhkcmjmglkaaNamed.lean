/- Words for the named laws: what is drawn, what is handed back. -/
import Derived.Test.YtinfhkcmjmglkaaLike
import Derived.Test.YtinfhkcmjmglkaaRow
import Derived.Deep.Cut
namespace Go.Proofs.Ytinfhkcmjmglkaa
open Go.ChangeShapes Go.WideShapes Go.ChangeAt Go.RowKit
set_option linter.unusedVariables false
set_option linter.unusedSimpArgs false
set_option maxRecDepth 100000

/-- a slice that is read, with its room -/
structure RdC (w : World) (A : Option Addr) (m d : Nat) (xs : List Int) : Prop where
  rd : Rd w A m xs
  cap : m ≤ d
  few : m ≤ 1048576
theorem RdC.below {w w' : World} {A : Option Addr} {m d : Nat} {xs : List Int} (h : RdC w A m d xs) (hb : Below w.heap.size w w') : RdC w' A m d xs := ⟨h.rd.below hb, h.cap, h.few⟩
theorem RdC.len {w : World} {A : Option Addr} {m d : Nat} {xs : List Int} (h : RdC w A m d xs) : xs.length = m := h.rd.len
theorem RdC.lenle {w : World} {A : Option Addr} {m d : Nat} {xs : List Int} (h : RdC w A m d xs) : xs.length ≤ 1048576 := by have := h.len; have := h.few; omega
theorem Own.rdc {w : World} {lo : Nat} {v : Value} {xs : List Int} (h : Own w lo v xs) (hl : xs.length ≤ 1048576) : ∃ A m d, v = .slice A m d ∧ RdC w A m d xs := by
  obtain ⟨A, m, d, e, hm, hr⟩ := h.form'
  subst e
  exact ⟨A, m, d, rfl, hr, h.cap, by omega⟩
theorem Drawn.rdc {w w' : World} {v : Value} {xs : List Int} (h : Drawn w w' v xs) : ∃ A m d, v = .slice A m d ∧ RdC w' A m d xs := h.1.rdc (by have := h.2.1; omega)
theorem Drawn.wf {w w' : World} {v : Value} {xs : List Int} (h : Drawn w w' v xs) : Wf xs := fun y hy => by have := h.2.2 y hy; omega
theorem Gave.rdc {F : FuncId} {args : Array Value} {w : World} {r : List Int × Int} (h : Gave F args w r) {L : List Int} {z : Int} (e : r = (L, z)) (hl : L.length ≤ 1048576) :
    Calls Try.prog F args w fun e w' => ∃ A m d, e = .returned (.tuple #[.slice A m d, .int .i64 z]) ∧ RdC w' A m d L ∧ Below w.heap.size w w' := by
  subst e
  refine Calls.mono h ?_
  rintro e w' ⟨v, he, ho, hb⟩
  obtain ⟨A, m, d, rfl, hr⟩ := ho.rdc hl
  exact ⟨A, m, d, he, hr, hb⟩
theorem GaveR.rdr {F : FuncId} {args : Array Value} {w : World} {r : List (List Int) × Int} (h : GaveR F args w r) {L : List (List Int)} {z : Int} (e : r = (L, z)) :
    Calls Try.prog F args w fun e w' => ∃ A m d vs, e = .returned (.tuple #[.slice A m d, .int .i64 z]) ∧ OwnV w' w.heap.size (.slice A m d) vs L ∧ Below w.heap.size w w' := by
  subst e
  refine Calls.mono h ?_
  rintro e w' ⟨v, he, ⟨vs, ho⟩, hb⟩
  obtain ⟨A, c, e2, _⟩ := ho.form
  subst e2
  exact ⟨A, _, c, vs, he, ho, hb⟩
theorem RdY.keep {w w' : World} {B n : Nat} {C : Option Addr} (h : RdY w B C n) (hb : Below w.heap.size w w') (hB : B ≤ w.heap.size) : RdY w' B C n := h.fr (fr_of_below hb) (.inr (Nat.le_refl _)) hB
theorem bel {w w' w'' : World} (h : Below w.heap.size w w') (hb : Below w'.heap.size w' w'') : Below w.heap.size w w'' := h.trans (hb.mono h.size)
theorem word_wf {xs : List Int} (h : isWord xs = true) : Wf xs := fun y hy => by have := isWord_bound h hy; have := isWord_len h; omega
theorem cells_u8 : Try.prog.cellsOf 5 = 1 := by kernel_rfl
theorem open_rdy {H : Type} {enc : TypeId × Value → H} {W : World} {v0 : Value} {d0 : DataW H} {p0 : List MemPlace} (h0 : DataW.Trod enc Try.prog W 0 (fun _ => true) true 32 v0 d0 p0)
    (hlt : ∀ x ∈ p0, x.block < W.heap.size) (hs : ∃ a n c, v0 = .slice a n c) : ∃ A n c, v0 = .slice A n c ∧ RdY W W.heap.size A n := by
  obtain ⟨a0, len, cap, rfl⟩ := hs
  obtain ⟨fuel, hf⟩ := h0
  rcases open_ints Try.underlying32 Try.underlying5 cells_u8 hf with ⟨hcs, hx⟩ | ⟨a, len', cap', zs, hcs, _, hl, hm, hz, hx, hcell, hwz⟩
  · simp [Value.cells] at hcs
    obtain ⟨rfl, rfl, rfl⟩ := hcs
    exact ⟨_, _, _, rfl, fun h => absurd h (Nat.lt_irrefl 0)⟩
  · simp [Value.cells] at hcs
    obtain ⟨rfl, rfl, rfl⟩ := hcs
    simp only [Prod.mk.injEq] at hx
    obtain ⟨rfl, rfl⟩ := hx
    simp only [if_true] at hz
    refine ⟨_, _, _, rfl, fun hn => ⟨a, rfl, ?_, fun j hj => ⟨zs.getD j 0, hcell j (by omega), ?_⟩⟩⟩
    · obtain ⟨b, off, spot⟩ := a
      have hspot : spot = none := by simpa [Addr.add] using World.cell?_spot (hcell 0 (by omega))
      subst hspot
      exact hlt (.cell b off) (MemPlace.mem_row.2 ⟨0, by omega, by simp⟩)
    · have hj2 : j < zs.length := by omega
      have h3 := hwz (zs.getD j 0) (by rw [List.getD, List.getElem?_eq_getElem hj2]; exact List.getElem_mem _)
      have h1 : IntKind.u8.min = 0 := rfl
      have h2 : IntKind.u8.max = 255 := rfl
      simp only [Lit.wf, Bool.and_eq_true, decide_eq_true_eq] at h3
      omega
end Go.Proofs.Ytinfhkcmjmglkaa
