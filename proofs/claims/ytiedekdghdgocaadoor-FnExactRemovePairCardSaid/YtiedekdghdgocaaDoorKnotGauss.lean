/- A knot as a Gauss word: gauss. -/
import Derived.Test.YtiedekdghdgocaaDoorKnotBack
namespace Go.Proofs.YtiedekdghdgocaaDoor
open Go.RowKit
set_option linter.unusedVariables false
set_option linter.unusedSimpArgs false
set_option maxRecDepth 100000

def metN (X : List Nat) : List Nat := (met (ofN X)).map Int.toNat
theorem ofN_metN (X : List Nat) : ofN (metN X) = met (ofN X) := by
  unfold metN ofN
  rw [List.map_map]
  conv => rhs; rw [← List.map_id (met (X.map (fun b : Nat => (b : Int))))]
  refine List.map_congr_left (fun x hx => ?_)
  have hm := (met_mem _ _).1 hx
  obtain ⟨b, _, rfl⟩ := List.mem_map.1 hm
  simp
theorem metN_length (X : List Nat) : (metN X).length = (met (ofN X)).length := by simp [metN]
theorem metN_mem {X : List Nat} {b : Nat} (h : b ∈ metN X) : b ∈ X := by
  obtain ⟨x, hx, rfl⟩ := List.mem_map.1 h
  have hm := (met_mem _ _).1 hx
  obtain ⟨c, hc, rfl⟩ := List.mem_map.1 hm
  simpa using hc
/-- the triple behind k places -/
def gto (IX : List Int) (hd sg : Int → Int) (k : Nat) : Trip := (norm (IX.take k), (met (IX.take k)).map hd, (met (IX.take k)).map sg)
theorem row_block {w : World} {lo n : Nat} {e : TypeId} {v : Value} {xs : List Value} (h : w.ownsRow lo e 1 v n xs) {q : Nat} (hq : v.ownBlock = some q) : ∃ cs, w.heap[q]? = some (.cells cs e (0, 0)) := by
  rcases h.2 with ⟨rfl, _⟩ | ⟨g2, cap, cur, rfl, _, hg, _⟩
  · cases hq
  · injection hq with hq
    subst hq
    exact ⟨_, hg⟩
theorem row_row {w : World} {lo lo' n n' : Nat} {e e' : TypeId} {v v' : Value} {xs xs' : List Value} (h : w.ownsRow lo e 1 v n xs) (h' : w.ownsRow lo' e' 1 v' n' xs') (he : e ≠ e') : ∀ q, v.ownBlock = some q → v'.ownBlock ≠ some q := by
  intro q hq hq'
  obtain ⟨cs, h1⟩ := row_block h hq
  obtain ⟨cs', h2⟩ := row_block h' hq'
  rw [h1] at h2
  injection h2 with h2
  injection h2 with _ h2 _
  exact he h2
theorem own_row {w : World} {lo lo' n' : Nat} {e' : TypeId} {u v' : Value} {us : List Int} {xs' : List Value} (h : Own w lo u us) (h' : w.ownsRow lo' e' 1 v' n' xs') (he : e' ≠ 2) : ∀ q, u.ownBlock = some q → v'.ownBlock ≠ some q := by
  intro q hq hq'
  obtain ⟨cs', h2⟩ := row_block h' hq'
  exact h.offOther h2 he hq
theorem row_pushed {wr w2 : World} {lo lo' n g j : Nat} {e : TypeId} {v u x p q s : Value} {us : List Int} {xs : List Value} (h : wr.ownsRow lo e 1 v n xs) (he : e ≠ 2) (he2 : 26 ≠ e) (hu : Own wr lo' u us) (hg : wr.grownBy w2 u.ownBlock) (hb : Box3 w2 g 26 p q s) :
    (w2.setCell ⟨g, j, none⟩ x).ownsRow lo e 1 v n xs := by
  have h1 := row_kept h hg (fun k hk e1 => own_row hu h he k e1 hk)
  exact row_kept h1 (grown_setCell w2 g j x) (fun k hk e1 => row_off h1 hb he2 (by rw [hk]; exact e1.symm))
/-- what gauss keeps: the word as it grows, the arrows met, the places -/
structure Gs (w1 wr : World) (g b0 : Nat) (pv mv : Value) (M B : List Nat) (r : Trip) : Prop where
  inv : InvR w1 wr g g b0 b0 #[.slice none 0 0, .slice none 0 0, .slice none 0 0] 26 (0, 0) r
  mt : OwnA wr g mv M
  pls : OwnN wr g pv B
theorem Gs.drew {w1 wr : World} {g b0 : Nat} {pv mv : Value} {M B : List Nat} {r : Trip} (h : Gs w1 wr g b0 pv mv M B r) : Gs w1 wr.drew g b0 pv mv M B r := by
  obtain ⟨⟨⟨u, v, z, hb3, ho⟩, h0, hB, hw⟩, h1, h2⟩ := h
  exact ⟨⟨⟨u, v, z, hb3, ⟨ho.word, ho.heads, ho.signs, ho.uv, ho.us, ho.vs⟩⟩, h0, hB, hw.drew⟩, h1, h2⟩
theorem Gs.alloc {w1 wr : World} {g b0 : Nat} {pv mv : Value} {M B : List Nat} {r : Trip} (h : Gs w1 wr g b0 pv mv M B r) (hl : g ≤ wr.heap.size) (o : Obj) : Gs w1 (wr.alloc o) g b0 pv mv M B r := by
  obtain ⟨⟨⟨u, v, z, hb3, ho⟩, h0, hB, hw⟩, h1, h2⟩ := h
  have hb := below_alloc wr o
  exact ⟨⟨⟨u, v, z, hb3.below hb hb3.lt, ⟨ho.word.below hb, ho.heads.below hb, ho.signs.below hb, ho.uv, ho.us, ho.vs⟩⟩, h0.below hb h0.lt, (hb.block b0 h0.lt).trans hB, hw.alloc hl o⟩, row_below h1 hb, row_below h2 hb⟩
theorem Gs.push_met {w1 wr w2 : World} {g b0 : Nat} {pv mv mv' : Value} {M B : List Nat} {r : Trip} {y : Nat} (h : Gs w1 wr g b0 pv mv M B r) (hl : g ≤ wr.heap.size)
    (ho1 : w2.ownsRow g 69 1 mv' (M ++ [y]).length (ptrs (M ++ [y]))) (hg : wr.grownBy w2 mv.ownBlock) : Gs w1 w2 g b0 pv mv' (M ++ [y]) B r := by
  obtain ⟨⟨⟨u, v, z, hb3, ho⟩, h0, hB, hw⟩, h1, h2⟩ := h
  refine ⟨⟨⟨u, v, z, hb3.grown_ hg (row_off h1 hb3 (by decide)), ⟨ho.word.kept hg (own_row ho.word h1 (by decide)), ho.heads.kept hg (own_row ho.heads h1 (by decide)), ho.signs.kept hg (own_row ho.signs h1 (by decide)), ho.uv, ho.us, ho.vs⟩⟩, h0.grown_ hg (row_off h1 h0 (by decide)), ?_, hw.grown hg hl (fun k hk => (row_ge h1 k hk).1)⟩, ho1, row_kept h2 hg (row_row h2 h1 (by decide))⟩
  exact h0.grown_ hg (row_off h1 h0 (by decide))
theorem Gs.push0 {w1 wr w2 : World} {g b0 : Nat} {pv mv u v z x : Value} {M B : List Nat} {r : Trip} {y : Int} (h : Gs w1 wr g b0 pv mv M B r) (hb : Box3 wr g 26 u v z) (ho : OwnG wr g u v z r.1 r.2.1 r.2.2) (e0 : b0 ≠ g) (hs : g ≤ wr.heap.size) (ho1 : Own w2 g x (r.1 ++ [y])) (hg : wr.grownBy w2 u.ownBlock) (hat : x.ownBlock = u.ownBlock ∨ x.ownBlock = some (wr.heap.size + 1)) :
    Box3 w2 g 26 u v z ∧ Hid (Gs w1 (w2.setCell ⟨g, 0, none⟩ x) g b0 pv mv M B (r.1 ++ [y], r.2.1, r.2.2)) := by
  obtain ⟨⟨_, h0, hB, hw⟩, h1, h2⟩ := h
  obtain ⟨k1, k2⟩ := inv_push0 (r := r) hb ho h0 hB hw (by decide) e0 e0 (Nat.le_refl _) hs ho1 hg hat
  exact ⟨k1, Lib.hid ⟨k2.out, row_pushed h1 (by decide) (by decide) ho.word hg k1, row_pushed h2 (by decide) (by decide) ho.word hg k1⟩⟩
theorem Gs.push1 {w1 wr w2 : World} {g b0 : Nat} {pv mv u v z x : Value} {M B : List Nat} {r : Trip} {y : Int} (h : Gs w1 wr g b0 pv mv M B r) (hb : Box3 wr g 26 u v z) (ho : OwnG wr g u v z r.1 r.2.1 r.2.2) (e0 : b0 ≠ g) (hs : g ≤ wr.heap.size) (ho1 : Own w2 g x (r.2.1 ++ [y])) (hg : wr.grownBy w2 v.ownBlock) (hat : x.ownBlock = v.ownBlock ∨ x.ownBlock = some (wr.heap.size + 1)) :
    Box3 w2 g 26 u v z ∧ Hid (Gs w1 (w2.setCell ⟨g, 1, none⟩ x) g b0 pv mv M B (r.1, r.2.1 ++ [y], r.2.2)) := by
  obtain ⟨⟨_, h0, hB, hw⟩, h1, h2⟩ := h
  obtain ⟨k1, k2⟩ := inv_push1 (r := r) hb ho h0 hB hw (by decide) e0 e0 (Nat.le_refl _) hs ho1 hg hat
  exact ⟨k1, Lib.hid ⟨k2.out, row_pushed h1 (by decide) (by decide) ho.heads hg k1, row_pushed h2 (by decide) (by decide) ho.heads hg k1⟩⟩
theorem Gs.push2 {w1 wr w2 : World} {g b0 : Nat} {pv mv u v z x : Value} {M B : List Nat} {r : Trip} {y : Int} (h : Gs w1 wr g b0 pv mv M B r) (hb : Box3 wr g 26 u v z) (ho : OwnG wr g u v z r.1 r.2.1 r.2.2) (e0 : b0 ≠ g) (hs : g ≤ wr.heap.size) (ho1 : Own w2 g x (r.2.2 ++ [y])) (hg : wr.grownBy w2 z.ownBlock) (hat : x.ownBlock = z.ownBlock ∨ x.ownBlock = some (wr.heap.size + 1)) :
    Box3 w2 g 26 u v z ∧ Hid (Gs w1 (w2.setCell ⟨g, 2, none⟩ x) g b0 pv mv M B (r.1, r.2.1, r.2.2 ++ [y])) := by
  obtain ⟨⟨_, h0, hB, hw⟩, h1, h2⟩ := h
  obtain ⟨k1, k2⟩ := inv_push2 (r := r) hb ho h0 hB hw (by decide) e0 e0 (Nat.le_refl _) hs ho1 hg hat
  exact ⟨k1, Lib.hid ⟨k2.out, row_pushed h1 (by decide) (by decide) ho.signs hg k1, row_pushed h2 (by decide) (by decide) ho.signs hg k1⟩⟩
/-- what gauss reads: the ring, its arrows -/
structure KnotX (w : World) (kb : Nat) (L : List Nd) (av : Value) (X : List Nat) (hd sg : Int → Int) : Prop where
  box : Box2 w kb 74 (ptr (bl L 0)) av
  ring : Ring w L
  len : L.length = X.length + 1
  vals : ∀ j, j < X.length → vl L (j + 1) = ptr (X[j]?.getD 0)
  arrow : ∀ j, j < X.length → Box2 w (X[j]?.getD 0) 76 (.int .i64 (hd (X[j]?.getD 0 : Nat))) (.int .i64 (sg (X[j]?.getD 0 : Nat)))
theorem KnotX.below {w w' : World} {kb : Nat} {L : List Nd} {av : Value} {X : List Nat} {hd sg : Int → Int} (h : KnotX w kb L av X hd sg) (hb : Below w.heap.size w w') : KnotX w' kb L av X hd sg :=
  ⟨h.box.below hb h.box.lt, h.ring.below hb, h.len, h.vals, fun j hj => (h.arrow j hj).below hb (h.arrow j hj).lt⟩
/-- the step of the triple -/
theorem gto_old {IX : List Int} {hd sg : Int → Int} {k : Nat} (hk : k < IX.length) (h : IX[k]?.getD 0 ∈ met (IX.take k)) : gto IX hd sg (k + 1) = ((gto IX hd sg k).1 ++ [findB (met (IX.take k)) (IX[k]?.getD 0)], (gto IX hd sg k).2.1, (gto IX hd sg k).2.2) := by
  obtain ⟨h1, h2⟩ := (normal_step IX k hk).1 h
  unfold gto findB
  rw [h1, h2, if_pos h]
theorem gto_new {IX : List Int} {hd sg : Int → Int} {k : Nat} (hk : k < IX.length) (h : IX[k]?.getD 0 ∉ met (IX.take k)) : gto IX hd sg (k + 1) = ((gto IX hd sg k).1 ++ [((met (IX.take k)).length : Int)], (gto IX hd sg k).2.1 ++ [hd (IX[k]?.getD 0)], (gto IX hd sg k).2.2 ++ [sg (IX[k]?.getD 0)]) := by
  obtain ⟨h1, h2⟩ := (normal_step IX k hk).2 h
  unfold gto
  rw [h1, h2, List.map_append, List.map_append]; rfl
theorem metN_old {X : List Nat} {k : Nat} (hk : k < X.length) (h : ((X[k]?.getD 0 : Nat) : Int) ∈ met ((ofN X).take k)) : metN (X.take (k + 1)) = metN (X.take k) := by
  have h1 := ((normal_step (ofN X) k (by rw [ofN_length]; exact hk)).1 (by rw [ofN_get]; exact h)).1
  unfold metN; rw [ofN_take, ofN_take, h1]
theorem metN_new {X : List Nat} {k : Nat} (hk : k < X.length) (h : ((X[k]?.getD 0 : Nat) : Int) ∉ met ((ofN X).take k)) : metN (X.take (k + 1)) = metN (X.take k) ++ [X[k]?.getD 0] := by
  have h1 := ((normal_step (ofN X) k (by rw [ofN_length]; exact hk)).2 (by rw [ofN_get]; exact h)).1
  unfold metN; rw [ofN_take, ofN_take, h1, List.map_append, ofN_get]; simp
end Go.Proofs.YtiedekdghdgocaaDoor
