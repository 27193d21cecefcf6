/- Boxes of two cells; what a step may turn; a named result of two cells read behind a call. -/
import Derived.Test.YtofcldplgkejiaaSeg
import Derived.Laws.Rows
import Derived.Laws.ResultCell
namespace Go.Proofs.Ytofcldplgkejiaa
open Go.RowKit
set_option linter.unusedVariables false
set_option linter.unusedSimpArgs false
set_option maxRecDepth 100000

/-- a block of two cells -/
def Box2 (w : World) (g : Nat) (t : TypeId) (u v : Value) : Prop := w.heap[g]? = some (.cells #[u, v] t (0, 0))
theorem Box2.cell0 {w : World} {g : Nat} {t : TypeId} {u v : Value} (h : Box2 w g t u v) : w.cell? ⟨g, 0, none⟩ = some u := by
  rw [cell_of_row w g 0 _ t (0, 0) h]; rfl
theorem Box2.cell1 {w : World} {g : Nat} {t : TypeId} {u v : Value} (h : Box2 w g t u v) : w.cell? ⟨g, 1, none⟩ = some v := by
  rw [cell_of_row w g 1 _ t (0, 0) h]; rfl
theorem Box2.free {w : World} {g : Nat} {t : TypeId} {u v : Value} (h : Box2 w g t u v) (j : Nat) : w.frozen? ⟨g, j, none⟩ = false := by
  simp [World.frozen?, show w.heap[g]? = _ from h]
theorem Box2.set0 {w : World} {g : Nat} {t : TypeId} {u v : Value} (h : Box2 w g t u v) (x : Value) : Box2 (w.setCell ⟨g, 0, none⟩ x) g t x v := by
  have := heap_setCell_same w g 0 _ t x h; simpa [Box2] using this
theorem Box2.set1 {w : World} {g : Nat} {t : TypeId} {u v : Value} (h : Box2 w g t u v) (x : Value) : Box2 (w.setCell ⟨g, 1, none⟩ x) g t u x := by
  have := heap_setCell_same w g 1 _ t x h; simpa [Box2] using this
theorem Box2.other {w : World} {g : Nat} {t : TypeId} {u v : Value} (h : Box2 w g t u v) (a : Addr) (x : Value) (hne : g ≠ a.block) : Box2 (w.setCell a x) g t u v :=
  (Below.heap_setCell w a x g hne).trans h
theorem Box2.below {w w' : World} {g B : Nat} {t : TypeId} {u v : Value} (h : Box2 w g t u v) (hb : Below B w w') (hg : g < B) : Box2 w' g t u v := (hb.block g hg).trans h
theorem box2_new (w : World) (t : TypeId) (u v : Value) : Box2 (w.alloc (.cells #[u, v] t)) w.heap.size t u v := heap_alloc_new _ _
theorem Box2.alloc {w : World} {g : Nat} {t : TypeId} {u v : Value} (h : Box2 w g t u v) (o : Obj) : Box2 (w.alloc o) g t u v :=
  (Below.heap_alloc w o g (Array.getElem?_eq_some_iff.1 h).1).trans h
theorem Own.set_other {w : World} {lo : Nat} {v : Value} {xs : List Int} (h : Own w lo v xs) (a : Addr) (x : Value) (ha : a.block < lo) : Own (w.setCell a x) lo v xs :=
  ownsRow_setCell_below h ha x
theorem Box2.fr {w w' : World} {g lo hi : Nat} {t : TypeId} {u v : Value} (h : Box2 w g t u v) (hf : Fr lo hi w w') (hd : g < lo ∨ hi ≤ g) : Box2 w' g t u v :=
  (hf.block g (Array.getElem?_eq_some_iff.1 h).1 hd).trans h
theorem Box2.lt {w : World} {g : Nat} {t : TypeId} {u v : Value} (h : Box2 w g t u v) : g < w.heap.size := (Array.getElem?_eq_some_iff.1 h).1
theorem fr_alloc (w : World) (o : Obj) : Fr 0 0 w (w.alloc o) := fr_of_below (below_alloc w o)
theorem fr_drew (w : World) : Fr 0 0 w w.drew := ⟨rfl, rfl, rfl, Nat.le_refl _, fun _ _ _ => rfl⟩
theorem fr_trans {w w' w'' : World} (h : Fr 0 0 w w') (h' : Fr 0 0 w' w'') : Fr 0 0 w w'' :=
  ⟨h'.os.trans h.os, h'.tape.trans h.tape, h'.output.trans h.output, Nat.le_trans h.size h'.size, fun k hk hd => (h'.block k (Nat.lt_of_lt_of_le hk h.size) hd).trans (h.block k hk hd)⟩
theorem below_of_fr {w w' : World} (h : Fr 0 0 w w') : Below w.heap.size w w' := ⟨h.os, h.tape, h.output, h.size, fun k hk => h.block k hk (.inr (by omega))⟩
theorem results_row_tmp {fn : Func} {p u : Tmp} {ty : TypeId} (h : fn.results = #[.cell p ty, .tmp u]) (tmps : Array Value) (w : World) (g : Nat) (cs : Array Value) (x : Value)
    (hp : tmps.getD p undef = .pointer (some ⟨g, 0, none⟩)) (hx : tmps.getD u undef = x) (hl : (loadVar ty ⟨g, 0, none⟩).run Try.prog w = .ok (.agg cs) w) :
    (results fn tmps).run Try.prog w = .ok (.tuple #[.agg cs, x]) w := by
  rw [results_cell_tmp h, hp, hx]
  simp [asAddr, hl]
end Go.Proofs.Ytofcldplgkejiaa
