/- A box of three slices of the call's own that are appended to; l07Order, l07Normal. -/
import Derived.Test.YtiedekdghdgocaaDoorGau
import Derived.Test.YtiedekdghdgocaaDoorWords
import Derived.Test.YtiedekdghdgocaaDoorSmall
import Derived.Test.YtiedekdghdgocaaDoorConcat
import Derived.Deep.Cut
import Derived.BigRegion
import Derived.Deep.RegionLaw
namespace Go.Proofs.YtiedekdghdgocaaDoor
open Go.RowKit
set_option linter.unusedVariables false
set_option linter.unusedSimpArgs false
set_option maxRecDepth 100000

abbrev Trip := List Int × List Int × List Int
/-- a box of three slices of the call's own -/
def GBox (w : World) (lo g : Nat) (r : Trip) : Prop := ∃ u v s, Box3 w g 26 u v s ∧ OwnG w lo u v s r.1 r.2.1 r.2.2
theorem Own.offBox {w : World} {lo g : Nat} {x : Value} {xs : List Int} {u v s : Value} (h : Own w lo x xs) (hb : Box3 w g 26 u v s) : x.ownBlock ≠ some g := by
  intro e
  rcases (show w.ownsRow lo 2 1 x xs.length (ints xs) from h).2 with ⟨rfl, _⟩ | ⟨g2, cap, cur, rfl, _, hg, _⟩
  · cases e
  · injection e with e
    subst e
    have hb' : w.heap[g2]? = some (.cells #[u, v, s] 26 (0, 0)) := hb
    rw [hg] at hb'
    injection hb' with hb'
    injection hb' with _ h2 _
    exact absurd h2 (by decide)
theorem Box3.grownBy {w w' : World} {g : Nat} {u v s x : Value} {lo : Nat} {xs : List Int} (hb : Box3 w g 26 u v s) (ho : Own w lo x xs) (hg : w.grownBy w' x.ownBlock) : Box3 w' g 26 u v s :=
  (hg.block g hb.lt (fun e => ho.offBox hb e.symm)).trans hb
theorem Own.set_box {w : World} {lo g j : Nat} {x y : Value} {xs : List Int} {u v s : Value} (h : Own w lo x xs) (hb : Box3 w g 26 u v s) : Own (w.setCell ⟨g, j, none⟩ y) lo x xs :=
  h.kept (row := some g) ⟨rfl, rfl, rfl, by simp [World.setCell], fun k _ hk => Below.heap_setCell _ _ _ _ (fun e => hk (by simp [e]))⟩ (fun k hk e => h.offBox hb (by rw [hk]; exact e.symm))
theorem gbox_push0 {w w' : World} {lo g : Nat} {u v s x : Value} {r : Trip} {y : Int} (hb : Box3 w g 26 u v s) (ho : OwnG w lo u v s r.1 r.2.1 r.2.2) (ho' : Own w' lo x (r.1 ++ [y])) (hg : w.grownBy w' u.ownBlock) (hat : x.ownBlock = u.ownBlock ∨ ∀ k, x.ownBlock = some k → w.heap.size ≤ k) :
    Box3 w' g 26 u v s ∧ GBox (w'.setCell ⟨g, 0, none⟩ x) lo g (r.1 ++ [y], r.2.1, r.2.2) := by
  have hb' := hb.grownBy ho.word hg
  have o1 := ho.heads.kept hg (fun q hq he => ho.uv q he hq)
  have o2 := ho.signs.kept hg (fun q hq he => ho.us q he hq)
  have a0 : ∀ q, x.ownBlock = some q → v.ownBlock ≠ some q := by
    intro q hq he
    rcases hat with h | h
    · exact ho.uv q (h ▸ hq) he
    · have h1 := h q hq; have h2 := (ho.heads.lt q he).2; omega
  have a1 : ∀ q, x.ownBlock = some q → s.ownBlock ≠ some q := by
    intro q hq he
    rcases hat with h | h
    · exact ho.us q (h ▸ hq) he
    · have h1 := h q hq; have h2 := (ho.signs.lt q he).2; omega
  exact ⟨hb', x, v, s, hb'.set0 x, ⟨ho'.set_box hb', o1.set_box hb', o2.set_box hb', a0, a1, ho.vs⟩⟩
theorem gbox_push1 {w w' : World} {lo g : Nat} {u v s x : Value} {r : Trip} {y : Int} (hb : Box3 w g 26 u v s) (ho : OwnG w lo u v s r.1 r.2.1 r.2.2) (ho' : Own w' lo x (r.2.1 ++ [y])) (hg : w.grownBy w' v.ownBlock) (hat : x.ownBlock = v.ownBlock ∨ ∀ k, x.ownBlock = some k → w.heap.size ≤ k) :
    Box3 w' g 26 u v s ∧ GBox (w'.setCell ⟨g, 1, none⟩ x) lo g (r.1, r.2.1 ++ [y], r.2.2) := by
  have hb' := hb.grownBy ho.heads hg
  have o0 := ho.word.kept hg (fun q hq he => ho.uv q hq he)
  have o2 := ho.signs.kept hg (fun q hq he => ho.vs q he hq)
  have a0 : ∀ q, u.ownBlock = some q → x.ownBlock ≠ some q := by
    intro q hq he
    rcases hat with h | h
    · exact ho.uv q hq (h ▸ he)
    · have h1 := h q he; have h2 := (ho.word.lt q hq).2; omega
  have a2 : ∀ q, x.ownBlock = some q → s.ownBlock ≠ some q := by
    intro q hq he
    rcases hat with h | h
    · exact ho.vs q (h ▸ hq) he
    · have h1 := h q hq; have h2 := (ho.signs.lt q he).2; omega
  exact ⟨hb', u, x, s, hb'.set1 x, ⟨o0.set_box hb', ho'.set_box hb', o2.set_box hb', a0, ho.us, a2⟩⟩
theorem gbox_push2 {w w' : World} {lo g : Nat} {u v s x : Value} {r : Trip} {y : Int} (hb : Box3 w g 26 u v s) (ho : OwnG w lo u v s r.1 r.2.1 r.2.2) (ho' : Own w' lo x (r.2.2 ++ [y])) (hg : w.grownBy w' s.ownBlock) (hat : x.ownBlock = s.ownBlock ∨ ∀ k, x.ownBlock = some k → w.heap.size ≤ k) :
    Box3 w' g 26 u v s ∧ GBox (w'.setCell ⟨g, 2, none⟩ x) lo g (r.1, r.2.1, r.2.2 ++ [y]) := by
  have hb' := hb.grownBy ho.signs hg
  have o0 := ho.word.kept hg (fun q hq he => ho.us q hq he)
  have o1 := ho.heads.kept hg (fun q hq he => ho.vs q hq he)
  have a1 : ∀ q, u.ownBlock = some q → x.ownBlock ≠ some q := by
    intro q hq he
    rcases hat with h | h
    · exact ho.us q hq (h ▸ he)
    · have h1 := h q he; have h2 := (ho.word.lt q hq).2; omega
  have a2 : ∀ q, v.ownBlock = some q → x.ownBlock ≠ some q := by
    intro q hq he
    rcases hat with h | h
    · exact ho.vs q hq (h ▸ he)
    · have h1 := h q he; have h2 := (ho.heads.lt q hq).2; omega
  exact ⟨hb', u, v, x, hb'.set2 x, ⟨o0.set_box hb', o1.set_box hb', ho'.set_box hb', ho.uv, a1, a2⟩⟩
theorem Own.offOther {w : World} {lo g : Nat} {x : Value} {xs : List Int} {cs : Array Value} {T : TypeId} {fr : Nat × Nat} (h : Own w lo x xs) (hb : w.heap[g]? = some (.cells cs T fr)) (hT : T ≠ 2) : x.ownBlock ≠ some g := by
  intro e
  rcases (show w.ownsRow lo 2 1 x xs.length (ints xs) from h).2 with ⟨rfl, _⟩ | ⟨g2, cap, cur, rfl, _, hg, _⟩
  · cases e
  · injection e with e
    subst e
    rw [hg] at hb
    injection hb with hb
    injection hb with _ h2 _
    exact hT h2.symm
theorem OwnG.set_box {w : World} {lo g j : Nat} {y u v s p q t : Value} {ws hs ss : List Int} (h : OwnG w lo p q t ws hs ss) (hb : Box3 w g 26 u v s) : OwnG (w.setCell ⟨g, j, none⟩ y) lo p q t ws hs ss :=
  ⟨h.word.set_box hb, h.heads.set_box hb, h.signs.set_box hb, h.uv, h.us, h.vs⟩
/-- what a loop that reads a text keeps -/
def InvR (w wr : World) (lo g b0 gb : Nat) (cs : Array Value) (T : TypeId) (fr : Nat × Nat) (r : Trip) : Prop :=
  GBox wr lo g r ∧ Box3 wr b0 26 (.slice none 0 0) (.slice none 0 0) (.slice none 0 0) ∧ wr.heap[gb]? = some (.cells cs T fr) ∧ Below lo w wr
theorem inv_push0 {w wr w1 : World} {lo g b0 gb : Nat} {cs : Array Value} {T : TypeId} {fr : Nat × Nat} {r : Trip} {u v z x : Value} {y : Int} (hb : Box3 wr g 26 u v z) (ho : OwnG wr lo u v z r.1 r.2.1 r.2.2) (h0 : Box3 wr b0 26 (.slice none 0 0) (.slice none 0 0) (.slice none 0 0)) (hB : wr.heap[gb]? = some (.cells cs T fr)) (hw : Below lo w wr)
    (hT : T ≠ 2) (e0 : b0 ≠ g) (eB : gb ≠ g) (hl : lo ≤ g) (hs : lo ≤ wr.heap.size) (ho1 : Own w1 lo x (r.1 ++ [y])) (hg : wr.grownBy w1 u.ownBlock) (hat : x.ownBlock = u.ownBlock ∨ x.ownBlock = some (wr.heap.size + 1)) :
    Box3 w1 g 26 u v z ∧ Hid (InvR w (w1.setCell ⟨g, 0, none⟩ x) lo g b0 gb cs T fr (r.1 ++ [y], r.2.1, r.2.2)) := by
  obtain ⟨h1, h2⟩ := gbox_push0 (r := r) hb ho ho1 hg (by
    rcases hat with h | h
    · exact .inl h
    · exact .inr (fun k hk => by rw [h] at hk; injection hk with hk; omega))
  refine ⟨h1, h2, (h0.grownBy ho.word hg).other _ _ e0, ?_, (hw.grown hg hs (fun k hk => (ho.word.lt k hk).1)).setCell (p := ⟨g, 0, none⟩) hl x⟩
  rw [Below.heap_setCell _ _ _ _ eB, hg.block gb (Array.getElem?_eq_some_iff.1 hB).1 (fun e => ho.word.offOther hB hT e.symm)]
  exact hB
theorem inv_push1 {w wr w1 : World} {lo g b0 gb : Nat} {cs : Array Value} {T : TypeId} {fr : Nat × Nat} {r : Trip} {u v z x : Value} {y : Int} (hb : Box3 wr g 26 u v z) (ho : OwnG wr lo u v z r.1 r.2.1 r.2.2) (h0 : Box3 wr b0 26 (.slice none 0 0) (.slice none 0 0) (.slice none 0 0)) (hB : wr.heap[gb]? = some (.cells cs T fr)) (hw : Below lo w wr)
    (hT : T ≠ 2) (e0 : b0 ≠ g) (eB : gb ≠ g) (hl : lo ≤ g) (hs : lo ≤ wr.heap.size) (ho1 : Own w1 lo x (r.2.1 ++ [y])) (hg : wr.grownBy w1 v.ownBlock) (hat : x.ownBlock = v.ownBlock ∨ x.ownBlock = some (wr.heap.size + 1)) :
    Box3 w1 g 26 u v z ∧ Hid (InvR w (w1.setCell ⟨g, 1, none⟩ x) lo g b0 gb cs T fr (r.1, r.2.1 ++ [y], r.2.2)) := by
  obtain ⟨h1, h2⟩ := gbox_push1 (r := r) hb ho ho1 hg (by
    rcases hat with h | h
    · exact .inl h
    · exact .inr (fun k hk => by rw [h] at hk; injection hk with hk; omega))
  refine ⟨h1, h2, (h0.grownBy ho.heads hg).other _ _ e0, ?_, (hw.grown hg hs (fun k hk => (ho.heads.lt k hk).1)).setCell (p := ⟨g, 1, none⟩) hl x⟩
  rw [Below.heap_setCell _ _ _ _ eB, hg.block gb (Array.getElem?_eq_some_iff.1 hB).1 (fun e => ho.heads.offOther hB hT e.symm)]
  exact hB
theorem inv_push2 {w wr w1 : World} {lo g b0 gb : Nat} {cs : Array Value} {T : TypeId} {fr : Nat × Nat} {r : Trip} {u v z x : Value} {y : Int} (hb : Box3 wr g 26 u v z) (ho : OwnG wr lo u v z r.1 r.2.1 r.2.2) (h0 : Box3 wr b0 26 (.slice none 0 0) (.slice none 0 0) (.slice none 0 0)) (hB : wr.heap[gb]? = some (.cells cs T fr)) (hw : Below lo w wr)
    (hT : T ≠ 2) (e0 : b0 ≠ g) (eB : gb ≠ g) (hl : lo ≤ g) (hs : lo ≤ wr.heap.size) (ho1 : Own w1 lo x (r.2.2 ++ [y])) (hg : wr.grownBy w1 z.ownBlock) (hat : x.ownBlock = z.ownBlock ∨ x.ownBlock = some (wr.heap.size + 1)) :
    Box3 w1 g 26 u v z ∧ Hid (InvR w (w1.setCell ⟨g, 2, none⟩ x) lo g b0 gb cs T fr (r.1, r.2.1, r.2.2 ++ [y])) := by
  obtain ⟨h1, h2⟩ := gbox_push2 (r := r) hb ho ho1 hg (by
    rcases hat with h | h
    · exact .inl h
    · exact .inr (fun k hk => by rw [h] at hk; injection hk with hk; omega))
  refine ⟨h1, h2, (h0.grownBy ho.signs hg).other _ _ e0, ?_, (hw.grown hg hs (fun k hk => (ho.signs.lt k hk).1)).setCell (p := ⟨g, 2, none⟩) hl x⟩
  rw [Below.heap_setCell _ _ _ _ eB, hg.block gb (Array.getElem?_eq_some_iff.1 hB).1 (fun e => ho.signs.offOther hB hT e.symm)]
  exact hB
theorem own_none (V : World) (lo : Nat) (hlo : lo ≤ V.heap.size) : Own (V.alloc (.cells #[] 2)) lo (.slice (some ⟨V.heap.size, 0, none⟩) 0 0) [] := World.ownsRow_lit V #[] 0 hlo (by decide) rfl
theorem rd_one (V : World) (z : Int) : Rd (V.alloc (.cells #[.int .i64 z] 2)) (some ⟨V.heap.size, 0, none⟩) 1 [z] :=
  ⟨rfl, fun _ => ⟨_, rfl, by simp, fun j hj => by obtain rfl : j = 0 := (by omega); rw [add_row, World.cell?_alloc_at _ _ _ _ rfl]; rfl⟩⟩
theorem grown_alloc {V w1 : World} {o : Obj} {b : Option Nat} (h : (V.alloc o).drew.grownBy w1 b) : V.grownBy w1 b :=
  ⟨h.os, h.tape, h.output, Nat.le_trans (by simp) h.size, fun i hi hne => (h.block i (by simp; omega) hne).trans (Below.heap_alloc V _ i hi)⟩
end Go.Proofs.YtiedekdghdgocaaDoor
